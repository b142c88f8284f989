/-
  THE REFERENCE's SETUP by contract.
-/
import Derived.Test.YtfigneaaeakbcaaDoorUk
namespace Go.Proofs.YtfigneaaeakbcaaDoor
open Go.RowKit Hm
attribute [local go_sem] Oper.semAt_some

theorem zero28 : (Tryd.prog.info? 28).bind (·.zero) = some (.agg #[.int .i64 0, .int .i64 0]) := by kernel_rfl
theorem ek63 : Ek 63 9 1 := ⟨Tryd.underlying63, by decide, by decide, .string ⟨#[]⟩, 16, by rfl, by decide, by kernel_rfl⟩
theorem results_q {fn : Func} {p u : Tmp} (h : fn.results = #[.cell p 26, .cell u 28]) (tmps : Array Value) (w : World) (g g2 : Nat) (cs ds : Array Value)
    (hp : tmps.getD p undef = .pointer (some ⟨g, 0, none⟩)) (hu : tmps.getD u undef = .pointer (some ⟨g2, 0, none⟩)) (hg : w.heap[g]? = some (.cells cs 26 (0, 0))) (hs : cs.size = 7) (hg2 : w.heap[g2]? = some (.cells ds 28 (0, 0))) (hs2 : ds.size = 2) :
    (results fn tmps).run Tryd.prog w = .ok (.tuple #[.agg cs, .agg ds]) w := by
  have hp' : tmps[p]?.getD undef = .pointer (some ⟨g, 0, none⟩) := by simpa using hp
  have hu' : tmps[u]?.getD undef = .pointer (some ⟨g2, 0, none⟩) := by simpa using hu
  simp [results, h, hp', hu', asAddr, run_loadVar_row (P := Tryd.prog) w g 26 26 cs (0, 0) _ hg Tryd.underlying26 rfl (by rw [siz26, hs]), run_loadVar_row (P := Tryd.prog) w g2 28 28 ds (0, 0) _ hg2 Tryd.underlying28 rfl (by rw [siz28, hs2])]
/-- what the reference's Setup answers -/
def QsP (t : By) (w : World) (E : Ending) (w' : World) : Prop := G w w' ∧ match setupT t with
  | .ok l => E = .returned (.tuple #[.agg (l.map vi).toArray, .agg #[.int .i64 0, .int .i64 0]]) ∧ l.length = 7
  | .error y => E = .returned (.tuple #[.agg #[.int .i64 0, .int .i64 0, .int .i64 0, .int .i64 0, .int .i64 0, .int .i64 0, .int .i64 0], .agg #[.int .i64 (y.1 : Int), .int .i64 (y.2 : Int)]])
/-- the words of lines -/
def wl (V : List Ln) : List W := (V.map (·.l)).flatten
theorem wl_all {V : List Ln} {t : By} (h : lnOf V = lnR 0 (linesR t)) : wl V = atW 0 (linesR t) := by
  rw [← lnR_words, ← h, wl, lnOf, List.map_map]
  rfl
theorem wl_snoc {V : List Ln} {i : Nat} {x : Ln} (h : V[i]? = some x) : wl (V.take (i + 1)) = wl (V.take i) ++ x.l := by
  rw [List.take_add_one, h]
  simp [wl]
theorem wl_len {V : List Ln} (i : Nat) : (wl (V.take i)).length ≤ (wl V).length := by
  have : wl V = wl (V.take i) ++ wl (V.drop i) := by rw [wl, wl, wl, ← List.flatten_append, ← List.map_append, List.take_append_drop]
  rw [this, List.length_append]; omega
theorem lnR_length : ∀ (L : List By) (a : Nat), (lnR a L).length = L.length
  | [], _ => rfl
  | l :: r, a => by rw [lnR, List.length_cons, List.length_cons, lnR_length r]
theorem wt_count : ∀ (L : List By), L.length ≤ wt L
  | [] => by simp [wt]
  | l :: r => by
    have := wt_count r
    simp only [wt, List.map_cons, List.sum_cons, List.length_cons] at this ⊢
    omega
theorem ln_count {V : List Ln} {t : By} (h : lnOf V = lnR 0 (linesR t)) : V.length ≤ t.length + 1 := by
  have := congrArg List.length h
  rw [lnR_length, lnOf, List.length_map] at this
  have h2 := wt_count (linesR t)
  rw [linesR_wt] at h2
  omega
/-- the words that have come -/
def Lp (c D e : Nat) (w4 : World) (ws : List W) (W' : World) : Prop := ∃ u, Kp (fun g => g = c) w4 W' ∧ W'.heap[c]? = some (.cells #[u, .int .i64 (e : Int), .int .i64 0, .int .i64 0] 41 (0, 0)) ∧ OwL 65 3 W' D u (ws.map rc)
set_option maxRecDepth 100000 in
set_option maxHeartbeats 16000000 in
theorem rsetup_any (s : ByteArray) (w : World) (hs : s.size ≤ 70000) : Calls Tryd.prog 4 #[.string s] w (QsP (tl s) w) := by
  have hlen := tl_len s
  by_cases hbig : 2000 < s.size
  · have hb : (2000 : Int) < (s.size : Int) := by omega
    have ht : Hid (setupT (tl s) = .error (0, 202)) := by show _ = _; unfold setupT; rw [if_pos (by omega)]
    go_enter Tryd.func4, Tryd.ntmps4
    go_wp2_with (first
      | ((with_reducible refine pl_alloc 2 26 #[.int .i64 0, .int .i64 0, .int .i64 0, .int .i64 0, .int .i64 0, .int .i64 0, .int .i64 0] ?_ ?_ ?_ ?_ ?_); rfl; rfl; kernel_rfl; exact zero26; intro w1 b1 hb1 hu1 hv1 hs1; have H1 := hid (⟨hb1, hu1, hv1, hs1⟩ : _ ∧ _ ∧ _ ∧ _); clear hb1 hu1 hv1 hs1)
      | ((with_reducible refine pl_alloc 3 28 #[.int .i64 0, .int .i64 0] ?_ ?_ ?_ ?_ ?_); rfl; rfl; kernel_rfl; exact zero28; intro w2 b2 hb2 hu2 hv2 hs2; have H2 := hid (⟨hb2, hu2, hv2, hs2⟩ : _ ∧ _ ∧ _ ∧ _); clear hb2 hu2 hv2 hs2)
      | ((with_reducible refine pl_store 26 (.tmp 2) (.tmp 13) b1 #[.int .i64 0, .int .i64 0, .int .i64 0, .int .i64 0, .int .i64 0, .int .i64 0, .int .i64 0] #[.int .i64 0, .int .i64 0, .int .i64 0, .int .i64 0, .int .i64 0, .int .i64 0, .int .i64 0] ?_ ?_ ?_ ?_ ?_ ?_ ?_ ?_ ?_ ?_); rfl; rfl; kernel_rfl; rfl; rfl; exact ((H2.out.2.1.block b1 (by have := H1.out; omega)).trans H1.out.2.2.1); exact siz26; exact rfl; exact (by simp [Value.oneCell']); intro w3 k3 v3 s3; have H3 := hid (⟨k3, v3, s3⟩ : _ ∧ _ ∧ _); clear k3 v3 s3)
      | ((with_reducible refine pl_store 28 (.tmp 3) (.tmp 14) b2 #[.int .i64 0, .int .i64 202] #[.int .i64 0, .int .i64 0] ?_ ?_ ?_ ?_ ?_ ?_ ?_ ?_ ?_ ?_); rfl; rfl; kernel_rfl; rfl; rfl; exact ((H3.out.1.block b2 (by have := H2.out; omega) (by have := H1.out; have := H2.out; omega)).trans H2.out.2.2.1); exact siz28; exact rfl; exact (by simp [Value.oneCell']); intro w4 k4 v4 s4; have H4 := hid (⟨k4, v4, s4⟩ : _ ∧ _ ∧ _); clear k4 v4 s4))
    obtain ⟨p1, p2, p3, p4⟩ := H1.out
    obtain ⟨q1, q2, q3, q4⟩ := H2.out
    obtain ⟨r1, r2, r3⟩ := H3.out
    obtain ⟨t1, t2, t3⟩ := H4.out
    refine bodyPost_ret (results_q (p := 2) (u := 3) rfl _ _ b1 b2 #[.int .i64 0, .int .i64 0, .int .i64 0, .int .i64 0, .int .i64 0, .int .i64 0, .int .i64 0] #[.int .i64 0, .int .i64 202] rfl rfl ((t1.block b1 (by omega) (by omega)).trans r2) rfl t2 rfl) rfl ?_
    refine ⟨g_new (g_new (G.tr p2 q2) r1 (by omega)) t1 (by omega), ?_⟩
    rw [ht.out]
    rfl
  · have hb : ¬ (2000 : Int) < (s.size : Int) := by omega
    have ht : Hid (setupT (tl s) = setupW (atW 0 (linesR (tl s))) s.size) := by show _ = _; unfold setupT; rw [if_neg (by omega), hlen]
    have CL := hid (fun W => rlines_any s W hs)
    go_enter Tryd.func4, Tryd.ntmps4
    go_upto_region 6 with (first
      | ((with_reducible refine pl_alloc 2 26 #[.int .i64 0, .int .i64 0, .int .i64 0, .int .i64 0, .int .i64 0, .int .i64 0, .int .i64 0] ?_ ?_ ?_ ?_ ?_); rfl; rfl; kernel_rfl; exact zero26; intro w1 b1 hb1 hu1 hv1 hs1; have H1 := hid (⟨hb1, hu1, hv1, hs1⟩ : _ ∧ _ ∧ _ ∧ _); clear hb1 hu1 hv1 hs1)
      | ((with_reducible refine pl_alloc 3 28 #[.int .i64 0, .int .i64 0] ?_ ?_ ?_ ?_ ?_); rfl; rfl; kernel_rfl; exact zero28; intro w2 b2 hb2 hu2 hv2 hs2; have H2 := hid (⟨hb2, hu2, hv2, hs2⟩ : _ ∧ _ ∧ _ ∧ _); clear hb2 hu2 hv2 hs2)
      | ((with_reducible refine pl_box 18 41 (.tmp 17) #[.slice none 0 0, .int .i64 (s.size : Int), .int .i64 0, .int .i64 0] ?_ ?_ ?_ ?_ ?_); rfl; rfl; kernel_rfl; rfl; intro w3 c hb3 hu3 hv3 hs3; have H3 := hid (⟨hb3, hu3, hv3, hs3⟩ : _ ∧ _ ∧ _ ∧ _); clear hb3 hu3 hv3 hs3)
      | (go_at_call 7; refine (CL.out w3).mono ?_; rintro E w4 ⟨o4, rfl, V, l1, l2, l3⟩; obtain ⟨oa, oc, ho⟩ := l1.row.form; obtain ⟨m, hm⟩ : ∃ m, V.length = m := ⟨_, rfl⟩; rw [List.length_map, hm] at ho; subst ho; have H4 := hid (⟨l1, l2, l3, hm⟩ : _ ∧ _ ∧ _ ∧ _); clear l1 l2 l3 hm))
    have hB : Hid (w.heap.size = b1 ∧ b2 = b1 + 1 ∧ c = b1 + 2 ∧ w3.heap.size = c + 1 ∧ G w w4 ∧ w4.heap[b1]? = some (.cells #[.int .i64 0, .int .i64 0, .int .i64 0, .int .i64 0, .int .i64 0, .int .i64 0, .int .i64 0] 26 (0, 0)) ∧ w4.heap[b1 + 1]? = some (.cells #[.int .i64 0, .int .i64 0] 28 (0, 0)) ∧ w4.heap[c]? = some (.cells #[.slice none 0 0, .int .i64 (s.size : Int), .int .i64 0, .int .i64 0] 41 (0, 0))) := by
      obtain ⟨p1, p2, p3, p4⟩ := H1.out
      obtain ⟨q1, q2, q3, q4⟩ := H2.out
      obtain ⟨r1, r2, r3, r4⟩ := H3.out
      obtain ⟨t1, t2, t3, t4⟩ := H4.out
      have e2 : b2 = b1 + 1 := by omega
      refine ⟨p1, e2, by omega, r4, G.tr (G.tr (G.tr p2 q2) r2) t3, ?_, ?_, (t3.block c (by omega)).trans r3⟩
      · exact (t3.block b1 (by omega)).trans ((r2.block b1 (by omega)).trans ((q2.block b1 (by omega)).trans p3))
      · rw [← e2]; exact (t3.block b2 (by omega)).trans ((r2.block b2 (by omega)).trans q3)
    clear H1 H2 H3
    have eb2 := hB.out.2.1
    subst eb2
    have hwl : Hid (wl V = atW 0 (linesR (tl s)) ∧ (wl V).length ≤ 3000 ∧ V.length ≤ 3000) := by
      have e := wl_all H4.out.2.1
      have hc := ln_count H4.out.2.1
      refine ⟨e, ?_, by omega⟩
      rw [e]
      have := atW_len (linesR (tl s)) 0
      rw [linesR_wt, hlen] at this
      omega
    go_loopw [6] (fun x6 wr => ∃ (i : Nat), x6 = .int .i64 (i : Int) ∧ i ≤ m ∧ Hid (Lp c w4.heap.size s.size w4 (wl (V.take i)) wr)) (fun x6 _ => m - iOf x6)
    case atStart => exact ⟨0, rfl, by omega, .slice none 0 0, Kp.refl _ _, hB.out.2.2.2.2.2.2.2, by rw [List.take_zero]; exact OwL.nil _ _ _ _⟩
    case round =>
      obtain ⟨i, rfl, him, HL⟩ := hrel
      by_cases hi : i < m
      · have hiI : (i : Int) < (m : Int) := by omega
        obtain ⟨u, hk, hcb, hO⟩ : Lp c w4.heap.size s.size w4 (wl (V.take i)) wr := HL.out
        obtain ⟨ua, uk, hu⟩ := hO.form
        obtain ⟨un, hun⟩ : ∃ un, (List.map rc (wl (V.take i))).length = un := ⟨_, rfl⟩
        rw [hun] at hu
        subst hu
        obtain ⟨x, hx⟩ : ∃ x, V[i]? = some x := ⟨V[i]'(by rw [H4.out.2.2.2]; exact hi), by simp⟩
        obtain ⟨l1, l2, l3, hm⟩ := H4.out
        have hB' := hB.out
        have hxw := l1.wds x (List.mem_of_getElem? hx)
        obtain ⟨va, vc, hv⟩ := hxw.form
        obtain ⟨vn, hvn⟩ : ∃ vn, (List.map rc x.l).length = vn := ⟨_, rfl⟩
        rw [hvn] at hv
        have hxr : OwL 65 3 wr w3.heap.size (.slice va vn vc) (x.l.map rc) := by
          rw [← hv]
          refine hxw.block fun k e => hk.block k (hxw.lt k e).2 ?_
          have := (hxw.lt k e).1
          show ¬ k = c
          omega
        obtain ⟨g, o, hoa, hcell⟩ : ∃ g o, oa = some ⟨g, o, none⟩ ∧ wr.cell? ⟨g, o + i * 2, none⟩ = some (.slice va vn vc) := by
          rcases l1.row.has with ⟨_, q⟩ | ⟨g, o, cap, hq, _, hat⟩
          · have : V.length = 0 := by simpa using congrArg List.length q
            omega
          · injection hq with q1 q2 q3
            refine ⟨g, o, q1, ?_⟩
            have hL := hat i (lc x) (by rw [List.getElem?_map, hx]; rfl)
            have hgc : g ≠ c := by
              have := (l1.row.lt g (by rw [q1]; rfl)).1
              omega
            have := Lies.kp hL hk hgc 0 (.slice va vn vc) (by rw [← hv]; rfl)
            simpa using this
        subst hoa
        have hsn : Hid (wl (V.take (i + 1)) = wl (V.take i) ++ x.l) := wl_snoc hx
        have hlen2 : un + vn ≤ 3000 := by
          have h1 := wl_len (V := V) (i + 1)
          rw [wl_snoc hx, List.length_append] at h1
          have := hwl.out.2
          simp at hun hvn
          omega
        have HH := hid (⟨hk, hcb, hO, hxr, hun, hvn⟩ : _ ∧ _ ∧ _ ∧ _ ∧ _ ∧ _)
        have hcell := hid hcell
        clear hk hcb hO hxr hx l1 l2 l3 hm hB' hxw hv hun hvn
        go_upto_region 8 with fail
        refine regh8 c un uk g o m oc i vn vc ua va (fun _ W => G wr W)
          (fun r W => ∃ W0, G wr W0 ∧ OwL 65 3 W w4.heap.size (r 1) ((wl (V.take (i + 1))).map rc) ∧ W0.grownBy W (Value.slice ua un uk).ownBlock)
          (fun _ W => Lp c w4.heap.size s.size w4 (wl (V.take (i + 1))) W)
          (fun W => W.cell? ⟨c, 0, none⟩ = some (.slice ua un uk) ∧ W.cell? ⟨g, o + i * 2, none⟩ = some (.slice va vn vc)) _ wr rfl rfl rfl rfl (by omega) ?b0 ?c1 ?c2 ?l4 ?l9 ?st ?fin
        case b0 =>
          intro _ W q
          have e := (q.block c (Array.getElem?_eq_some_iff.1 HH.out.2.1).1).trans HH.out.2.1
          refine ⟨by rw [cell_heap e]; rfl, ?_⟩
          rw [q.cell (World.block_lt_of_cell? wr _ hcell.out)]; exact hcell.out
        case c1 =>
          intro r W q
          obtain ⟨hk, hcb, hO, hxr, hun, hvn⟩ := HH.out
          have hD := hk.size
          have hD2 := q.size
          obtain ⟨v', W', r1, r2, r3, _⟩ := app_run ek39 39 (hO.up q) (hxr.up q).has (fun y hy => by obtain ⟨z, _, rfl⟩ := List.mem_map.1 hy; exact ⟨rfl, rc_one z⟩) (by omega) (by rw [hun, hvn]; omega)
          refine ⟨v', W', r1, W, q, ?_, r3⟩
          rw [ups_same, hsn.out, List.map_append]
          exact r2
        case c2 =>
          rintro r W ⟨W0, q, o2, gr⟩
          obtain ⟨hk, hcb, hO, hxr, hun, hvn⟩ := HH.out
          have hcl := (Array.getElem?_eq_some_iff.1 hcb).1
          have hc4 := (Array.getElem?_eq_some_iff.1 hB.out.2.2.2.2.2.2.2).1
          have hne : (Value.slice ua un uk).ownBlock ≠ some c := fun e => by have := (hO.lt c e).1; omega
          have e0 := (q.block c hcl).trans hcb
          have eW := (gr.block c (by have := q.size; omega) (fun e => hne e.symm)).trans e0
          obtain ⟨pa, pc, hp⟩ := o2.form
          have kset := Kp.set W c 0 (r 1)
          have kgr : Kp (fun g => (Value.slice ua un uk).ownBlock = some g) W0 W := Kp.grown gr
          refine ⟨⟨_, by rw [cell_heap eW]; rfl⟩, by simp [World.frozen?, eW], ⟨_, _, _, hp⟩, r 1, ?_, ?_, ?_⟩
          · have kk : Kp (fun g => g = c ∨ (Value.slice ua un uk).ownBlock = some g) wr (W.setCell ⟨c, 0, none⟩ (r 1)) := ((Kp.of q).snd (kgr.mono fun g _ e => Or.inr e)).snd (kset.mono fun g _ e => Or.inl e)
            refine hk.trans kk fun g hg e => ?_
            rcases e with e | e
            · exact e
            · have := (hO.lt g e).1
              omega
          · rw [heap_setCell_at _ eW]; rfl
          · refine o2.block fun g eg => kset.block g (o2.lt g eg).2 ?_
            have := (o2.lt g eg).1
            show ¬ g = c
            omega
        case l4 => exact fun W q => q.1
        case l9 => exact fun W q => q.2
        case st => exact fun _ => G.drew wr
        case fin =>
          intro r W q
          rw [foldh8]
          have HQ : Hid (Lp c w4.heap.size s.size w4 (wl (V.take (i + 1))) W) := q
          clear q
          generalize r 1 = u1
          have hwi : IntKind.i64.wrap ((i : Int) + 1) = ((i + 1 : Nat) : Int) := by rw [IntKind.wrap_i64]; have := hwl.out; have := H4.out.2.2.2; omega
          go_simp
          go_wp2
          go_roundw
          case rel => exact ⟨i + 1, rfl, by omega, HQ.out⟩
          case measure => simp; omega
      · have hiI : ¬ (i : Int) < (m : Int) := by omega
        obtain ⟨u, hk, hcb, hO⟩ : Lp c w4.heap.size s.size w4 (wl (V.take i)) wr := HL.out
        rw [List.take_of_length_le (by have := H4.out.2.2.2; omega), hwl.out.1] at hO
        have hwsx : ∀ x ∈ atW 0 (linesR (tl s)), x.text.length ≤ 100000 := fun x hx => by
          have := atW_tx _ 0 x hx
          rw [linesR_wt, tl_len] at this
          omega
        obtain ⟨WS, hWS⟩ : ∃ WS, atW 0 (linesR (tl s)) = WS := ⟨_, rfl⟩
        rw [hWS] at hO hwsx
        obtain ⟨TG, hTG⟩ : ∃ TG, setupW WS s.size = TG := ⟨_, rfl⟩
        have ht : Hid (setupT (tl s) = TG) := by show _ = _; rw [ht.out, hWS, hTG]
        have hK : Hid (kN 0 1099511627776 s.size (fun st L => k2 s.size (wordS namesT st s.size) L) 3 (wordS bytesT (.ok WS) s.size) [] = TG) := by
          rw [← hTG, ← k0_setup]; exact rfl
        have hSS : Hid (G w wr ∧ wr.heap[b1]? = some (.cells #[.int .i64 0, .int .i64 0, .int .i64 0, .int .i64 0, .int .i64 0, .int .i64 0, .int .i64 0] 26 (0, 0)) ∧ wr.heap[b1 + 1]? = some (.cells #[.int .i64 0, .int .i64 0] 28 (0, 0)) ∧ Rr c s.size (.ok WS) wr ∧ Tx 100000 (.ok WS) ∧ w.heap.size = b1 ∧ c = b1 + 2 ∧ c < wr.heap.size) := by
          obtain ⟨z1, z2, z3, z4, z5, z6, z7, z8⟩ := hB.out
          refine ⟨Below.trans (B := w.heap.size) z5 (hk.below z5.size (fun g e => by have e : g = c := e; omega)), (hk.block b1 (Array.getElem?_eq_some_iff.1 z6).1 (by omega)).trans z6, (hk.block (b1 + 1) (Array.getElem?_eq_some_iff.1 z7).1 (by omega)).trans z7, ?_, fun ws q x hx => by injection q with q; subst q; exact hwsx x hx, z1, z3, (Array.getElem?_eq_some_iff.1 hcb).1⟩
          obtain ⟨ua, uk, hu⟩ := hO.form
          subst hu
          rw [List.length_map] at hcb
          have hc4 := (Array.getElem?_eq_some_iff.1 z8).1
          refine ⟨ua, uk, hcb, fun hn => ?_⟩
          obtain ⟨hl, ⟨e1, e2⟩ | ⟨g, cap, cur, hv, hg, hh, hcap, _⟩⟩ := hO.own
          · exact absurd (List.length_eq_zero_iff.1 (by simpa using e2)) hn
          · injection hv with a1 a2 a3
            subst a1; subst a3
            refine ⟨g, 0, rfl, by omega, ⟨cur, _, hh⟩, by simpa using hcap, fun i x hi => ?_⟩
            rcases hO.has with ⟨q, _⟩ | ⟨g', o', cap', hq, _, hat⟩
            · cases q
            · injection hq with d1 _ _
              injection d1 with d1
              injection d1 with d1 d2 _
              subst d1; subst d2
              exact hat i x hi
        clear hk hcb hO hwsx hWS hTG HL hwl hB H4
        go_upto_region 10 with (first
          | ((with_reducible refine pl_alloc 7 26 #[.int .i64 0, .int .i64 0, .int .i64 0, .int .i64 0, .int .i64 0, .int .i64 0, .int .i64 0] ?_ ?_ ?_ ?_ ?_); rfl; rfl; kernel_rfl; exact zero26; intro w5 S hb5 hu5 hv5 hs5; have H5 := hid (⟨hb5, hu5, hv5, hs5⟩ : _ ∧ _ ∧ _ ∧ _); clear hb5 hu5 hv5 hs5)
          | ((with_reducible refine pl_store 26 (.tmp 7) (.tmp 40) S #[.int .i64 0, .int .i64 0, .int .i64 0, .int .i64 0, .int .i64 0, .int .i64 0, .int .i64 0] #[.int .i64 0, .int .i64 0, .int .i64 0, .int .i64 0, .int .i64 0, .int .i64 0, .int .i64 0] ?_ ?_ ?_ ?_ ?_ ?_ ?_ ?_ ?_ ?_); rfl; rfl; kernel_rfl; rfl; rfl; exact H5.out.2.2.1; exact siz26; exact rfl; exact (by simp [Value.oneCell']); intro w6 k6 v6 s6; have H6 := hid (⟨k6, v6, s6⟩ : _ ∧ _ ∧ _); clear k6 v6 s6))
        have hS0 : Hid (Sr b1 c S s.size (.ok WS) [] w w6) := by
          obtain ⟨z1, z2, z3, z4, z5, z6, z7, z8⟩ := hSS.out
          obtain ⟨p1, p2, p3, p4⟩ := H5.out
          obtain ⟨q1, q2, q3⟩ := H6.out
          have g6 : G wr w6 := g_new p2 q1 (by omega)
          exact ⟨z1.tr g6, (g6.block b1 (by omega)).trans z2, (g6.block (b1 + 1) (by omega)).trans z3, z4.up g6, q2, z6, by omega, by omega, z5⟩
        clear H5 H6 hSS
        obtain ⟨d6, hd6⟩ : ∃ d6, w6.heap.size = d6 := ⟨_, rfl⟩
        obtain ⟨w7, hw7⟩ : ∃ w7, w7 = w6.alloc (.cells #[.string ⟨#[98, 121, 116, 101, 115]⟩] 9) := ⟨_, rfl⟩
        have CO : Hid (Calls Tryd.prog 8 #[.pointer (some ⟨c, 0, none⟩), .slice (some ⟨d6, 0, none⟩) 1 1] w7 fun E w2 => (∃ v, E = .returned v) ∧ Sr b1 c S s.size (wordS bytesT (.ok WS) s.size) [] w w2) := by
          have := hS0.out.one ⟨#[98, 121, 116, 101, 115]⟩
          rw [show tl ⟨#[98, 121, 116, 101, 115]⟩ = bytesT from by simp [tl, ByteArray.toList_eq, bytesT]] at this
          rw [hd6, ← hw7] at this
          exact this
        have HW := hid (⟨hw7, hd6⟩ : _ ∧ _)
        clear hw7 hd6
        go_upto_region 12 with (first
          | ((with_reducible refine pl_val 42 (.slice (some ⟨d6, 0, none⟩) 1 1) w7 ?_ ?_ ?_ ?_); rfl; kernel_rfl; (rw [HW.out.1]; exact exec_slice1 ek63 (.const (.string ⟨#[98, 121, 116, 101, 115]⟩)) rfl (.string ⟨#[98, 121, 116, 101, 115]⟩) #[.string ⟨#[98, 121, 116, 101, 115]⟩] rfl rfl rfl w6 _ HW.out.2))
          | (go_at_call 8; refine CO.out.mono ?_; rintro E w8 ⟨⟨v8, rfl⟩, h8⟩; have HS := hid h8; clear h8))
        go_loopw [8] (fun x8 wq => ∃ (j : Nat), x8 = .int .i64 (j : Int) ∧ j ≤ 3 ∧ Hid (∃ st L, Sr b1 c S s.size st L w wq ∧ L.length = j ∧ kN 0 1099511627776 s.size (fun st L => k2 s.size (wordS namesT st s.size) L) (3 - j) st L = TG)) (fun x8 _ => 3 - iOf x8)
        case atStart => exact ⟨0, rfl, by omega, _, [], HS.out, rfl, hK.out⟩
        case round =>
          obtain ⟨j, rfl, hj3, HJ⟩ := hrel
          obtain ⟨st, L, hSr, hLj, hKj⟩ : ∃ st L, Sr b1 c S s.size st L w wr ∧ L.length = j ∧ kN 0 1099511627776 s.size (fun st L => k2 s.size (wordS namesT st s.size) L) (3 - j) st L = TG := HJ.out
          by_cases hj : j < 3
          · have hjI : (j : Int) < 3 := by omega
            have _hjn : ¬ 3 ≤ j := by omega
            have hwj : IntKind.i64.wrap ((j : Int) + 1) = ((j + 1 : Nat) : Int) := by rw [IntKind.wrap_i64]; omega
            have CN := hSr.num 0 1099511627776
            obtain ⟨nv, hnv⟩ : ∃ nv, numV (numS 0 1099511627776 st s.size) = nv := ⟨_, rfl⟩
            rw [hnv] at CN
            have hK2 : Hid (kN 0 1099511627776 s.size (fun st L => k2 s.size (wordS namesT st s.size) L) (3 - (j + 1)) (numT (numS 0 1099511627776 st s.size)) (L ++ [nv]) = TG) := by
              rw [show 3 - j = (3 - (j + 1)) + 1 by omega, kN, hnv] at hKj
              exact hKj
            have CN := hid CN
            have HLj := hid hLj
            clear hSr hKj hLj hnv
            go_wp2_with (first
              | (go_at_call 9; refine CN.out.mono ?_; rintro E w9 ⟨rfl, h9⟩; have hcc := cell_some h9.sc (j := j) (by rw [pad_len (by have := HLj.out; omega)]; omega); obtain ⟨o9, hcc⟩ := hcc; have hfz : w9.frozen? ⟨S, j, none⟩ = false := (by simp [World.frozen?, h9.sc]); obtain ⟨w10, hw10⟩ : ∃ w10, w10 = w9.setCell ⟨S, j, none⟩ (.int .i64 nv) := ⟨_, rfl⟩; have hS10 : Hid (Sr b1 c S s.size (numT (numS 0 1099511627776 st s.size)) (L ++ [nv]) w w10) := (by have := h9.put (by have := HLj.out; omega) nv; rw [HLj.out, ← hw10] at this; exact this); have HW10 := hid hw10; clear hw10 h9)
              | ((with_reducible refine st_at 3 (.tmp 53) (.tmp 50) w10 ?_ ?_ ?_ ?_ ?_); rfl; rfl; kernel_rfl; (rw [HW10.out]; unfold execOp; simp [hcc, hfz, go_sem])))
            go_roundw
            case rel => exact ⟨j + 1, rfl, by omega, _, _, hS10.out, by have := HLj.out; simp; omega, hK2.out⟩
            case measure => simp; omega
          · have hjI : ¬ (j : Int) < 3 := by omega
            have hj0 : 3 - j = 0 := by omega
            rw [hj0] at hKj
            have hj3 : j = 3 := by omega
            subst hj3
            obtain ⟨dn, hdn⟩ : ∃ d, wr.heap.size = d := ⟨_, rfl⟩
            obtain ⟨wn, hwn⟩ : ∃ w7, w7 = wr.alloc (.cells #[.string ⟨#[110, 97, 109, 101, 115]⟩] 9) := ⟨_, rfl⟩
            have COn : Hid (Calls Tryd.prog 8 #[.pointer (some ⟨c, 0, none⟩), .slice (some ⟨dn, 0, none⟩) 1 1] wn fun E w2 => (∃ v, E = .returned v) ∧ Sr b1 c S s.size (wordS namesT st s.size) L w w2) := by
              have := hSr.one ⟨#[110, 97, 109, 101, 115]⟩
              rw [show tl ⟨#[110, 97, 109, 101, 115]⟩ = namesT from by simp [tl, ByteArray.toList_eq, namesT]] at this
              rw [hdn, ← hwn] at this
              exact this
            have HWn := hid (⟨hwn, hdn⟩ : _ ∧ _)
            clear hwn hdn
            go_upto_region 17 with (first
              | ((with_reducible refine pl_val 55 (.slice (some ⟨dn, 0, none⟩) 1 1) wn ?_ ?_ ?_ ?_); rfl; kernel_rfl; (rw [HWn.out.1]; exact exec_slice1 ek63 (.const (.string ⟨#[110, 97, 109, 101, 115]⟩)) rfl (.string ⟨#[110, 97, 109, 101, 115]⟩) #[.string ⟨#[110, 97, 109, 101, 115]⟩] rfl rfl rfl wr _ HWn.out.2))
              | (go_at_call 8; refine COn.out.mono ?_; rintro E w8n ⟨⟨v8n, rfl⟩, h8⟩; have HSn := hid h8; clear h8))
            have hKn : Hid (kN 0 2097152 s.size (fun st L => kM s.size (wordS mostT st s.size) L) 3 (wordS namesT st s.size) L = TG) := hKj
            have HLn := hid hLj
            clear hKj hLj hSr
            go_loopw [9] (fun x9 wq => ∃ (j : Nat), x9 = .int .i64 (j : Int) ∧ j ≤ 3 ∧ Hid (∃ st L, Sr b1 c S s.size st L w wq ∧ L.length = 3 + j ∧ kN 0 2097152 s.size (fun st L => kM s.size (wordS mostT st s.size) L) (3 - j) st L = TG)) (fun x9 _ => 3 - iOf x9)
            case atStart => exact ⟨0, rfl, by omega, _, L, HSn.out, HLn.out, hKn.out⟩
            case round =>
              obtain ⟨j, rfl, hj3, HJ⟩ := hrel
              obtain ⟨st, L, hSr, hLj, hKj⟩ : ∃ st L, Sr b1 c S s.size st L w wr ∧ L.length = 3 + j ∧ kN 0 2097152 s.size (fun st L => kM s.size (wordS mostT st s.size) L) (3 - j) st L = TG := HJ.out
              by_cases hj : j < 3
              · have hjI : (j : Int) < 3 := by omega
                have _hjn : ¬ 3 ≤ j := by omega
                have hwj : IntKind.i64.wrap ((j : Int) + 1) = ((j + 1 : Nat) : Int) := by rw [IntKind.wrap_i64]; omega
                have CN := hSr.num 0 2097152
                obtain ⟨nv, hnv⟩ : ∃ nv, numV (numS 0 2097152 st s.size) = nv := ⟨_, rfl⟩
                rw [hnv] at CN
                have hK2 : Hid (kN 0 2097152 s.size (fun st L => kM s.size (wordS mostT st s.size) L) (3 - (j + 1)) (numT (numS 0 2097152 st s.size)) (L ++ [nv]) = TG) := by
                  rw [show 3 - j = (3 - (j + 1)) + 1 by omega, kN, hnv] at hKj
                  exact hKj
                have CN := hid CN
                have HLj := hid hLj
                clear hSr hKj hLj hnv
                go_wp2_with (first
                  | (go_at_call 9; refine CN.out.mono ?_; rintro E w9 ⟨rfl, h9⟩; have hcc := cell_some h9.sc (j := 3 + j) (by rw [pad_len (by have := HLj.out; omega)]; omega); obtain ⟨o9, hcc⟩ := hcc; have hfz : w9.frozen? ⟨S, 3 + j, none⟩ = false := (by simp [World.frozen?, h9.sc]); obtain ⟨w10, hw10⟩ : ∃ w10, w10 = w9.setCell ⟨S, 3 + j, none⟩ (.int .i64 nv) := ⟨_, rfl⟩; have hS10 : Hid (Sr b1 c S s.size (numT (numS 0 2097152 st s.size)) (L ++ [nv]) w w10) := (by have := h9.put (by have := HLj.out; omega) nv; rw [HLj.out, ← hw10] at this; exact this); have HW10 := hid hw10; clear hw10 h9)
                  | ((with_reducible refine st_at 3 (.tmp 66) (.tmp 63) w10 ?_ ?_ ?_ ?_ ?_); rfl; rfl; kernel_rfl; (rw [HW10.out]; unfold execOp; simp [hcc, hfz, go_sem])))
                go_roundw
                case rel => exact ⟨j + 1, rfl, by omega, _, _, hS10.out, by have := HLj.out; simp; omega, hK2.out⟩
                case measure => simp; omega
              · have hjI : ¬ (j : Int) < 3 := by omega
                have hj0 : 3 - j = 0 := by omega
                rw [hj0] at hKj
                have hj3 : j = 3 := by omega
                subst hj3
                obtain ⟨dm, hdm⟩ : ∃ d, wr.heap.size = d := ⟨_, rfl⟩
                obtain ⟨wm, hwm⟩ : ∃ w7, w7 = wr.alloc (.cells #[.string ⟨#[109, 111, 115, 116]⟩] 9) := ⟨_, rfl⟩
                have COm : Hid (Calls Tryd.prog 8 #[.pointer (some ⟨c, 0, none⟩), .slice (some ⟨dm, 0, none⟩) 1 1] wm fun E w2 => (∃ v, E = .returned v) ∧ Sr b1 c S s.size (wordS mostT st s.size) L w w2) := by
                  have := hSr.one ⟨#[109, 111, 115, 116]⟩
                  rw [show tl ⟨#[109, 111, 115, 116]⟩ = mostT from by simp [tl, ByteArray.toList_eq, mostT]] at this
                  rw [hdm, ← hwm] at this
                  exact this
                have HWm := hid (⟨hwm, hdm⟩ : _ ∧ _)
                clear hwm hdm
                go_upto_region 21 with (first
                  | ((with_reducible refine pl_val 68 (.slice (some ⟨dm, 0, none⟩) 1 1) wm ?_ ?_ ?_ ?_); rfl; kernel_rfl; (rw [HWm.out.1]; exact exec_slice1 ek63 (.const (.string ⟨#[109, 111, 115, 116]⟩)) rfl (.string ⟨#[109, 111, 115, 116]⟩) #[.string ⟨#[109, 111, 115, 116]⟩] rfl rfl rfl wr _ HWm.out.2))
                  | (go_at_call 8; refine COm.out.mono ?_; rintro E w8m ⟨⟨v8m, rfl⟩, h8⟩; have HSm := hid h8; clear h8))
                have hKm : Hid (kM s.size (wordS mostT st s.size) L = TG) := hKj
                have HLm := hid hLj
                clear hKj hLj hSr
                have hTG : Hid (kE (numT (numS (-1099511627776) 1099511627776 (wordS mostT st s.size) s.size)) (L ++ [numV (numS (-1099511627776) 1099511627776 (wordS mostT st s.size) s.size)]) = TG) := hKm.out
                have CN := HSm.out.num (-1099511627776) 1099511627776
                obtain ⟨nv, hnv⟩ : ∃ nv, numV (numS (-1099511627776) 1099511627776 (wordS mostT st s.size) s.size) = nv := ⟨_, rfl⟩
                obtain ⟨sv, hsv⟩ : ∃ sv, numT (numS (-1099511627776) 1099511627776 (wordS mostT st s.size) s.size) = sv := ⟨_, rfl⟩
                rw [hnv, hsv] at CN
                have hTG : Hid (kE sv (L ++ [nv]) = TG) := by have := hTG.out; rw [hnv, hsv] at this; exact this
                have CN := hid CN
                clear hKm hnv hsv
                go_upto_region 23 with (first
                  | (go_at_call 9; refine CN.out.mono ?_; rintro E w9 ⟨rfl, h9⟩; have hcc := cell_some h9.sc (j := 6) (by rw [pad_len (by have := HLm.out; omega)]; omega); obtain ⟨o9, hcc⟩ := hcc; have hfz : w9.frozen? ⟨S, 6, none⟩ = false := (by simp [World.frozen?, h9.sc]); obtain ⟨w10, hw10⟩ : ∃ w10, w10 = w9.setCell ⟨S, 6, none⟩ (.int .i64 nv) := ⟨_, rfl⟩; have hS10 : Hid (Sr b1 c S s.size sv (L ++ [nv]) w w10) := (by have := h9.put (by have := HLm.out; omega) nv; rw [show L.length = 6 from HLm.out, ← hw10] at this; exact this); have HW10 := hid hw10; clear hw10 h9)
                  | ((with_reducible refine st_at 3 (.tmp 72) (.tmp 71) w10 ?_ ?_ ?_ ?_ ?_); rfl; rfl; kernel_rfl; (rw [HW10.out]; unfold execOp; simp [hcc, hfz, go_sem]))
                  | (go_at_call 10; refine (hS10.out.rest).mono ?_; rintro E w11 ⟨rfl, h11⟩; have HR := hid h11; clear h11))
                have hL7 : Hid ((L ++ [nv]).length = 7) := by have := HLm.out; show _ = _; simp; omega
                obtain ⟨LL, hLL⟩ : ∃ LL, L ++ [nv] = LL := ⟨_, rfl⟩
                have HR : Hid (Sr b1 c S s.size (restS sv) LL w w11) := by rw [← hLL]; exact HR.out
                have hTG : Hid (kE sv LL = TG) := by rw [← hLL]; exact hTG.out
                have hL7 : Hid (LL.length = 7) := by rw [← hLL]; exact hL7.out
                clear hS10 HW10 CN HSm HLm hLL hcc hfz
                have hb := HR.out.hB
                have hc2 := HR.out.hc
                have hcS := HR.out.hS
                have hSl := (Array.getElem?_eq_some_iff.1 HR.out.sc).1
                have hpd : (pad LL).toArray.size = 7 := by rw [List.size_toArray, pad_len (Nat.le_of_eq hL7.out)]
                have hp1 : (pad LL).toArray.all (·.oneCell') = true := by simp [pad, vi, Value.oneCell']
                obtain ⟨PL, hPL⟩ : ∃ PL, (pad LL).toArray = PL := ⟨_, rfl⟩
                rw [hPL] at hpd hp1
                have hpe : Hid (PL = (LL.map vi).toArray) := by show _ = _; rw [← hPL, pad, hL7.out]; simp
                have hsc : Hid (w11.heap[S]? = some (.cells PL 26 (0, 0))) := by rw [← hPL]; exact HR.out.sc
                clear hPL
                cases hF : restS sv with
                | ok ws =>
                  have HT : Hid (TG = .ok LL) := by show _ = _; rw [← hTG.out, kE, hF]
                  have hRR : Rr c s.size (.ok ws) w11 := by have := HR.out.rr; rw [hF] at this; exact this
                  obtain ⟨p9, cap9, hcb, _⟩ := hRR
                  have c3 : w11.cell? ⟨c, 3, none⟩ = some (.int .i64 0) := by rw [cell_heap hcb]; rfl
                  clear hcb hF
                  go_wp2_with (first
                    | ((with_reducible refine pl_load 86 26 (.tmp 7) S 0 PL _ ?_ ?_ ?_ ?_ ?_ Tryd.underlying26 ?_ ?_ ?_); rfl; rfl; kernel_rfl; rfl; exact (Lies.of_heap hsc.out); rfl; exact (by rw [siz26, hpd]))
                    | ((with_reducible refine pl_store 26 (.tmp 2) (.tmp 86) b1 PL #[.int .i64 0, .int .i64 0, .int .i64 0, .int .i64 0, .int .i64 0, .int .i64 0, .int .i64 0] ?_ ?_ ?_ ?_ ?_ ?_ ?_ ?_ ?_ ?_); rfl; rfl; kernel_rfl; rfl; rfl; exact HR.out.b0; exact (by rw [siz26, hpd]); exact hpd.symm; exact hp1; intro w12 k12 v12 s12; have H12 := hid (⟨k12, v12, s12⟩ : _ ∧ _ ∧ _); clear k12 v12 s12)
                    | ((with_reducible refine pl_store 28 (.tmp 3) (.tmp 87) (b1 + 1) #[.int .i64 0, .int .i64 0] #[.int .i64 0, .int .i64 0] ?_ ?_ ?_ ?_ ?_ ?_ ?_ ?_ ?_ ?_); rfl; rfl; kernel_rfl; rfl; rfl; exact ((H12.out.1.block (b1 + 1) (by omega) (by omega)).trans HR.out.b1); exact siz28; exact rfl; exact (by simp [Value.oneCell']); intro w13 k13 v13 s13; have H13 := hid (⟨k13, v13, s13⟩ : _ ∧ _ ∧ _); clear k13 v13 s13))
                  obtain ⟨r1, r2, r3⟩ := H12.out
                  obtain ⟨t1, t2, t3⟩ := H13.out
                  refine bodyPost_ret (results_q (p := 2) (u := 3) rfl _ _ b1 (b1 + 1) PL #[.int .i64 0, .int .i64 0] rfl rfl ((t1.block b1 (by omega) (by omega)).trans r2) hpd t2 rfl) rfl ?_
                  refine ⟨g_new (g_new HR.out.g r1 (by omega)) t1 (by omega), ?_⟩
                  rw [ht.out, HT.out, hpe.out]
                  exact ⟨rfl, hL7.out⟩
                | error y =>
                  have HT : Hid (TG = .error y) := by show _ = _; rw [← hTG.out, kE, hF]
                  have hRR : Rr c s.size (.error y) w11 := by have := HR.out.rr; rw [hF] at this; exact this
                  obtain ⟨h0, p9, n9, cap9, hcb⟩ := hRR
                  have c3 : w11.cell? ⟨c, 3, none⟩ = some (.int .i64 (y.2 : Int)) := by rw [cell_heap hcb]; rfl
                  have bne : ((y.2 : Int) != 0) = true := by simp; omega
                  have hcb := hid hcb
                  clear hF h0
                  go_upto_region 24 with fail
                  have hG := HR.out.g
                  have hb0 := HR.out.b0
                  have hb1 := HR.out.b1
                  refine regh24 c b1 (b1 + 1) #[.int .i64 (y.1 : Int), .int .i64 (y.2 : Int)] (fun _ W => G w11 W) (fun _ W => ∃ W0, G w11 W0 ∧ W = W0.setRow b1 #[.int .i64 0, .int .i64 0, .int .i64 0, .int .i64 0, .int .i64 0, .int .i64 0, .int .i64 0])
                    (fun _ W => G w W ∧ W.heap[b1]? = some (.cells #[.int .i64 0, .int .i64 0, .int .i64 0, .int .i64 0, .int .i64 0, .int .i64 0, .int .i64 0] 26 (0, 0)) ∧ W.heap[b1 + 1]? = some (.cells #[.int .i64 (y.1 : Int), .int .i64 (y.2 : Int)] 28 (0, 0)))
                    (fun W => W.heap[c]? = some (.cells #[.slice p9 n9 cap9, .int .i64 (s.size : Int), .int .i64 (y.1 : Int), .int .i64 (y.2 : Int)] 41 (0, 0))) _ w11 rfl rfl rfl rfl rfl (by simp [Value.oneCell']) rfl ?b0 ?b1 ?w1 ?w2 ?l4 ?dr ?fin
                  case b0 => exact fun _ W q => (q.block c (Array.getElem?_eq_some_iff.1 hcb.out).1).trans hcb.out
                  case b1 =>
                    rintro _ W ⟨W0, q, rfl⟩
                    rw [setRow_other _ b1 c _ (by omega)]
                    exact (q.block c (Array.getElem?_eq_some_iff.1 hcb.out).1).trans hcb.out
                  case w1 => exact fun r W q => ⟨_, (q.block b1 (by omega)).trans hb0, rfl, W, q, rfl⟩
                  case w2 =>
                    rintro r W ⟨W0, q, rfl⟩
                    have e0 := (q.block b1 (by omega)).trans hb0
                    have e1 := (q.block (b1 + 1) (by omega)).trans hb1
                    have e2 : (W0.setRow b1 #[.int .i64 0, .int .i64 0, .int .i64 0, .int .i64 0, .int .i64 0, .int .i64 0, .int .i64 0]).heap[b1 + 1]? = some (.cells #[.int .i64 0, .int .i64 0] 28 (0, 0)) := by rw [setRow_other _ b1 (b1 + 1) _ (by omega)]; exact e1
                    refine ⟨_, e2, rfl, ?_, ?_, setRow_heap _ _ _ _ _ _ e2⟩
                    · have k1 : Kp (fun g => g = b1) W0 (W0.setRow b1 #[.int .i64 0, .int .i64 0, .int .i64 0, .int .i64 0, .int .i64 0, .int .i64 0, .int .i64 0]) := ⟨rfl, rfl, rfl, by simp, fun b _ hn => setRow_other _ b1 b _ hn⟩
                      have k2 : Kp (fun g => g = b1 + 1) (W0.setRow b1 #[.int .i64 0, .int .i64 0, .int .i64 0, .int .i64 0, .int .i64 0, .int .i64 0, .int .i64 0]) ((W0.setRow b1 #[.int .i64 0, .int .i64 0, .int .i64 0, .int .i64 0, .int .i64 0, .int .i64 0, .int .i64 0]).setRow (b1 + 1) #[.int .i64 (y.1 : Int), .int .i64 (y.2 : Int)]) := ⟨rfl, rfl, rfl, by simp, fun b _ hn => setRow_other _ (b1 + 1) b _ hn⟩
                      exact g_new (g_new (G.tr hG q) k1 (by omega)) k2 (by omega)
                    · rw [setRow_other _ (b1 + 1) b1 _ (by omega)]
                      exact setRow_heap _ _ _ _ _ _ e0
                  case l4 => 
                    intro W q j v hj
                    have := (Lies.of_heap q) (j + 2) v (by match j, hj with | 0, hj => exact hj | 1, hj => exact hj)
                    rw [Nat.zero_add, Nat.add_comm] at this
                    exact this
                  case dr => exact fun _ => G.drew w11
                  case fin =>
                    rintro r W ⟨q1, q2, q3⟩
                    rw [foldh24]
                    have HQ := hid (⟨q1, q2, q3⟩ : _ ∧ _ ∧ _)
                    clear q1 q2 q3
                    go_simp
                    go_wp2
                    refine bodyPost_ret (results_q (p := 2) (u := 3) rfl _ _ b1 (b1 + 1) #[.int .i64 0, .int .i64 0, .int .i64 0, .int .i64 0, .int .i64 0, .int .i64 0, .int .i64 0] #[.int .i64 (y.1 : Int), .int .i64 (y.2 : Int)] rfl rfl HQ.out.2.1 rfl HQ.out.2.2 rfl) rfl ?_
                    refine ⟨HQ.out.1, ?_⟩
                    rw [ht.out, HT.out]
end Go.Proofs.YtfigneaaeakbcaaDoor
