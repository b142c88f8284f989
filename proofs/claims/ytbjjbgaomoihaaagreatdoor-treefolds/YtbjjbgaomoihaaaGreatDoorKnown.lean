import Derived.Test.YtbjjbgaomoihaaaGreatDoorKnownP
import Derived.Test.YtbjjbgaomoihaaaGreatDoorSwap
set_option maxRecDepth 100000
set_option maxHeartbeats 4000000
namespace Go.Proofs.YtbjjbgaomoihaaaGreatDoor
open Go.RowKit
def LayTo (R : Nat) (w : World) (s : Sg) (w' : World) (s' : Sg) (kv : Value) (f : F) : Prop :=
  RM w' R s' ∧ To R w s w' s' ∧ s'.ls.length = s.ls.length + f.size + 1 ∧ HasSD w' (fun b => w.heap.size ≤ b ∧ b < w'.heap.size ∧ ¬ XB R s' b) kv f
theorem owns_lit30 (w : World) : (w.alloc (.cells #[] 30)).ownsRow w.heap.size 30 41 (.slice (some ⟨w.heap.size, 0, none⟩) 0 0) 0 [] :=
  ⟨by simp, .inr ⟨_, 0, #[], rfl, Nat.le_refl _, World.alloc_heap_new w _, Nat.le_refl _, Nat.zero_le _, by simp, by simp⟩⟩
def L1 (R : Nat) (w : World) (s : Sg) (f : F) (wr : World) (j : Nat) (u : Value) : Prop := ∃ (sr : Sg) (xs : List Value) (T : Nat → Prop), LS R w s wr sr u j xs T ∧ RCellsD wr (f.take j) T xs ∧ sr.ls.length = s.ls.length + (f.take j).size
def L2 (R : Nat) (w : World) (s : Sg) (f : F) (wr : World) (j : Nat) (u : Value) : Prop := ∃ (sr : Sg) (xs : List Value) (T : Nat → Prop), LS R w s wr sr u (f.len + j) (xs ++ markC Vd.zero Md.zero j) T ∧ RCellsD wr f T xs ∧ sr.ls.length = s.ls.length + f.size
theorem L1.start {R : Nat} {w : World} {s : Sg} {f : F} (hm : RM w R s) : L1 R w s f (w.alloc (.cells #[] 30)) 0 (.slice (some ⟨w.heap.size, 0, none⟩) 0 0) := by
  have hR : R < w.heap.size := hm.lt (.inl (.inl rfl))
  have hg : Below w.heap.size w (w.alloc (.cells #[] 30)) := G.alloc _ _
  refine ⟨s, [], fun _ => False, ⟨hm.grow hg, To.grow hg (by omega), owns_lit30 w, fun b hb e => ?_, fun b hb => hb.elim⟩, ?_, ?_⟩
  · simp [Value.ownBlock] at hb
    have := hm.lt e
    omega
  · rw [F.take_zero]; rfl
  · rw [F.take_zero]; rfl
theorem L1.next {R : Nat} {w wr w2 w4 : World} {s sr s2 : Sg} {f ks : F} {j : Nat} {u u' kv : Value} {xs : List Value} {T : Nat → Prop} {nm : ByteArray} {v : Vd} {m : Md} (hR : R < w.heap.size) (hl : LS R w s wr sr u j xs T) (hc : RCellsD wr (f.take j) T xs) (hn : sr.ls.length = s.ls.length + (f.take j).size)
    (hd : f.drop j = .cons nm v m ks (f.drop (j + 1))) (ht : LayTo R wr sr w2 s2 kv ks) (ho : w4.ownsRow w.heap.size 30 41 u' (j + 1) (xs ++ (nc nm v m kv).toList)) (hg : (w2.alloc (.cells (nc nm v m kv) 30)).grownBy w4 u.ownBlock) (hat : u'.ownBlock = u.ownBlock ∨ u'.ownBlock = some (w2.alloc (.cells (nc nm v m kv) 30)).heap.size) : L1 R w s f w4 (j + 1) u' := by
  obtain ⟨h1, h2, h3, h4⟩ := ht
  obtain ⟨k1, k2⟩ := hl.call h1 h2
  obtain ⟨k3, k4⟩ := k1.app (by omega) ho hg hat
  refine ⟨s2, _, _, k3, ?_, ?_⟩
  · rw [F.take_more f j nm v m ks _ hd]
    refine RCellsD.snoc (S2 := fun b => wr.heap.size ≤ b ∧ b < w2.heap.size ∧ ¬ XB R s2 b) (h4.keep fun b hb => ⟨k4 b (.inr hb), hb⟩) (fun b hb e => ?_) (hc.keep (S' := T) fun b hb => ⟨(k4 b (.inl hb)).trans (k2 b hb), hb⟩)
    have := (hl.ts b hb).2.1
    have := e.1
    omega
  · rw [h3, hn, F.take_more f j nm v m ks _ hd, F.app_size]
    simp only [F.size]
    omega
theorem L2.start {R : Nat} {w wr : World} {s : Sg} {f : F} {u : Value} {N : Nat} (h : L1 R w s f wr N u) (hN : f.len = N) : L2 R w s f wr 0 u := by
  obtain ⟨sr, xs, T, h1, h2, h3⟩ := h
  rw [F.take_all f N (by omega)] at h2 h3
  subst hN
  exact ⟨sr, xs, T, by simpa [markC] using h1, h2, h3⟩
theorem L2.next {R : Nat} {w wr w4 : World} {s sr : Sg} {f : F} {j : Nat} {u u' : Value} {xs : List Value} {T : Nat → Prop} (hR : R < w.heap.size) (hl : LS R w s wr sr u (f.len + j) (xs ++ markC Vd.zero Md.zero j) T) (hc : RCellsD wr f T xs) (hn : sr.ls.length = s.ls.length + f.size)
    (ho : w4.ownsRow w.heap.size 30 41 u' (f.len + j + 1) ((xs ++ markC Vd.zero Md.zero j) ++ (nc (wordB j) Vd.zero Md.zero (.slice none 0 0)).toList)) (hg : (wr.alloc (.cells (nc (wordB j) Vd.zero Md.zero (.slice none 0 0)) 30)).grownBy w4 u.ownBlock) (hat : u'.ownBlock = u.ownBlock ∨ u'.ownBlock = some (wr.alloc (.cells (nc (wordB j) Vd.zero Md.zero (.slice none 0 0)) 30)).heap.size) : L2 R w s f w4 (j + 1) u' := by
  obtain ⟨k3, k4⟩ := hl.app (by omega) ho hg hat
  refine ⟨sr, xs, T, ?_, hc.keep fun b hb => ⟨k4 b hb, hb⟩, hn⟩
  rw [markC, ← List.append_assoc]
  exact k3
theorem RM.at {w : World} {R : Nat} {s : Sg} (h : RM w R s) {j : Nat} (hj : j < s.ls.length) : ∃ b1 c1 b2 c2 e, w.cell? ⟨R, 22, none⟩ = some (.slice (some ⟨b1, 0, none⟩) s.ls.length c1) ∧ w.cell? ⟨R, 23, none⟩ = some (.slice (some ⟨b2, 0, none⟩) s.ls.length c2) ∧
    w.cell? ⟨b1, j, none⟩ = some (Kr.v e) ∧ w.cell? ⟨b2, j, none⟩ = some (.int .i64 e.n) ∧ Mk w e.g e.n e.k ∧ s.ls[j]? = some e := by
  obtain ⟨n, hn⟩ : ∃ n, s.ls.length = n + 1 := ⟨s.ls.length - 1, by omega⟩
  have o1 := h.o1
  have o2 := h.o2
  rw [hn] at o1 o2
  obtain ⟨b1, c1, e1⟩ := row_form o1
  obtain ⟨b2, c2, e2⟩ := row_form o2
  have he : s.ls[j]? = some s.ls[j] := by simp [hj]
  refine ⟨b1, c1, b2, c2, s.ls[j], by rw [h.c22, e1, hn], by rw [h.c23, e2, hn], ?_, ?_, (h.rows _ (List.getElem_mem hj)).2, he⟩
  · have := World.ownsRow.cells o1 (g := b1) (by rw [e1]; rfl) j (Kr.v s.ls[j]) (by rw [List.getElem?_map, he]; rfl)
    rwa [Addr.add_mid, Nat.zero_add] at this
  · have := World.ownsRow.cells o2 (g := b2) (by rw [e2]; rfl) j (.int .i64 s.ls[j].n) (by rw [List.getElem?_map, he]; rfl)
    rwa [Addr.add_mid, Nat.zero_add] at this
def Rw (w : World) (b : Nat) : Prop := ∃ s i, w.cell? ⟨b, 0, none⟩ = some (.string s) ∧ w.cell? ⟨b, 1, none⟩ = some (.int .i64 i)
theorem rw_of_lies {w : World} {g : Nat} {nm : ByteArray} {v : Vd} {m : Md} {kv : Value} (h : Lies w g 0 (nc nm v m kv)) : Rw w g := ⟨nm, v.kind, lies_cell h 0 _ (nc_name ..), lies_cell h 1 _ (by simp [nc, vx])⟩
theorem HasRD.rw {w : World} : ∀ {f : F} {S : Nat → Prop} {g o : Nat}, HasRD w f S g o → HasRD w f (fun b => S b ∧ Rw w b) g o
  | .nil, _, _, _, _ => trivial
  | .cons _ _ _ ks _, S, g, o, ⟨S1, S2, a, cap, h1, h2, hc, hl, hk, hr⟩ => by
    refine ⟨fun b => S1 b ∧ Rw w b, fun b => S2 b ∧ Rw w b, a, cap, fun b hb => ⟨⟨(h1 b hb.1).1, hb.2⟩, fun e => (h1 b hb.1).2 e.1⟩, fun b hb => ⟨h2 b hb.1, hb.2⟩, hc, hl, ?_, hr.rw⟩
    rcases hk with hk | ⟨g', ha, hs, hf, h⟩
    · exact .inl hk
    · cases ks with
      | nil => exact .inl rfl
      | cons nm' v' m' ks' r' =>
        have hg : Rw w g' := by obtain ⟨_, _, _, _, _, _, hc', _⟩ := h; exact rw_of_lies hc'
        exact .inr ⟨g', ha, ⟨hs, hg⟩, hf, h.rw.keep (fun b hb => ⟨rfl, ⟨hb.1.1, hb.2⟩, hb.1.2⟩) rfl⟩
theorem HasSD.rw {w : World} {S : Nat → Prop} {v : Value} {f : F} (h : HasSD w S v f) : HasSD w (fun b => S b ∧ Rw w b) v f := by
  obtain ⟨a, cap, hv, hl, h⟩ := h
  refine ⟨a, cap, hv, hl, ?_⟩
  rcases h with hk | ⟨g', ha, hs, hf, h⟩
  · exact .inl hk
  · cases f with
    | nil => exact .inl rfl
    | cons nm' v' m' ks' r' =>
      have hg : Rw w g' := by obtain ⟨_, _, _, _, _, _, hc', _⟩ := h; exact rw_of_lies hc'
      exact .inr ⟨g', ha, ⟨hs, hg⟩, hf, h.rw.keep (fun b hb => ⟨rfl, ⟨hb.1.1, hb.2⟩, hb.1.2⟩) rfl⟩
theorem tc_not {w : World} {p : Nat} {v : Vd} {m : Md} {pk : Value} (h : Lies w p 0 (tc v m pk)) : ¬ Rw w p := fun ⟨s, i, h0, _⟩ => by
  have := lies_cell h 0 (.int .i64 v.kind) (by simp [tc, vx])
  rw [this] at h0; cases h0
theorem kc_not {w : World} {q p : Nat} {nm : ByteArray} {pa pb : Value} {a b d : Nat} (h : Lies w q 0 (kc nm p pa pb a b d)) : ¬ Rw w q := fun ⟨s, i, _, h1⟩ => by
  have := lies_cell h 1 (.pointer (some ⟨p, 0, none⟩)) (by simp [kc])
  rw [this] at h1; cases h1
variable {P : Nat → Prop}
theorem drop_root (p : Nat) (t : T3) (s : ByteArray) (w : World) (ht : AtTF P w p t.1 t.2.1 t.2.2) (hr : t.2.2.rises) (hs : s.size ≤ 1048576) (hw : wayE t s = 0) (hc : cutN s = []) :
    Calls Tryz.prog 16 #[.pointer (some ⟨p, 0, none⟩), .string s] w fun e w' => e = .returned (.tuple #[.pointer none, .int .i64 46]) ∧ G w w' := by
  have C1 := way_any p t s w ht hr hs
  rw [hw, hc] at C1
  clear ht hr hw hc
  go_enter Tryz.func16, Tryz.ntmps16
  go_wp2_with (go_at_call 30; refine C1.mono ?_; rintro e w1 ⟨an, n, cn, rfl, hn, hg1⟩; obtain ⟨rfl, _, _⟩ := hn rfl; have HG1 := hid hg1; clear hn hg1; simp only [List.length_nil])
  go_ret2
  exact ⟨rfl, HG1.out⟩
theorem drop_none (p : Nat) (t : T3) (s : ByteArray) (w : World) (ht : AtTF P w p t.1 t.2.1 t.2.2) (hr : t.2.2.rises) (hs : s.size ≤ 1048576) (hw : wayE t s = 0) (hc : cutN s ≠ []) (hd : dn t (cutN s) = none) :
    Calls Tryz.prog 16 #[.pointer (some ⟨p, 0, none⟩), .string s] w fun e w' => e = .returned (.tuple #[.pointer none, .int .i64 45]) ∧ G w w' := by
  have C1 := way_any p t s w ht hr hs
  rw [hw] at C1
  have HT := hid (⟨ht, hr⟩ : _ ∧ _)
  obtain ⟨n0, hn0⟩ : ∃ n, (cutN s).length = n + 1 := ⟨(cutN s).length - 1, by have := List.length_pos_iff.2 hc; omega⟩
  clear ht hr hw hc
  go_enter Tryz.func16, Tryz.ntmps16
  go_wp2_with (first
    | (go_at_call 30; refine C1.mono ?_; rintro e w1 ⟨an, n, cn, rfl, hn, hg1⟩; obtain ⟨rfl, hn2, hn3⟩ := hn rfl; have CD := down_any p t _ _ w1 (HT.out.1.grow hg1) HT.out.2 hn2 (by omega); rw [hd] at CD; have HG1 := hid hg1; rw [hn0] at CD ⊢; clear hn hn2 hg1)
    | (go_at_call 32; refine CD.mono ?_; rintro e w2 ⟨⟨u, rfl, hu⟩, e2⟩; subst e2; have hu2 : u = .pointer none := hu; subst hu2; clear hu))
  go_ret2
  exact ⟨rfl, HG1.out⟩
theorem K.all_true : ∀ k : K, k.all fun _ => True
  | .nil => trivial
  | .node _ _ _ _ _ k a b => ⟨trivial, trivial, K.all_true k, K.all_true a, K.all_true b⟩
theorem AtTF.of {w : World} {p : Nat} {v : Vd} {m : Md} {k : K} {f : F} (h : AtT w p v m k) (e : k.flat = f) : AtTF (fun _ => True) w p v m f := ⟨k, h, e, K.all_true k, trivial⟩
theorem exec_slice2 {o : Oper} {a : Act} (x y : Operand) (ho : o.op = .buildSlice 28 2 #[(0, x), (1, y)]) (c d : Array Value) (hx : a.eval x = .agg c) (hy : a.eval y = .agg d) (hs : c.size = 41) (hd : d.size = 41) (w : World) :
    (execOp a.eval o).run Tryz.prog w = .ok (.value (.slice (some ⟨w.heap.size, 0, none⟩) 2 2)) (w.alloc (.cells (c ++ d) 30)) := by
  have hf : Instr.fill (fun i => some (i * 41, 41)) ((Array.range (2 * 41)).map (z30[· % z30.size]!)) [(0, .agg c), (1, .agg d)] = some (c ++ d) := by
    obtain ⟨z, hz, hzl⟩ : ∃ z : List Value, ((Array.range (2 * 41)).map (z30[· % z30.size]!)) = z.toArray ∧ z.length = 82 := ⟨((Array.range (2 * 41)).map (z30[· % z30.size]!)).toList, Array.toArray_toList.symm, by simp⟩
    have h1 : (over z 0 c.toList).length = 82 := by simp [over, hs]; omega
    rw [hz, fill_cons _ z 0 0 41 _ c.toList _ rfl (by simp [Value.cells]) (by simpa using hs) (by omega), fill_cons _ _ 1 41 41 _ d.toList _ rfl (by simp [Value.cells]) (by simpa using hd) (by omega), Instr.fill]
    have e : over (over z 0 c.toList) 41 d.toList = c.toList ++ d.toList := by
      have h41 : c.toList.length = 41 := by simpa using hs
      have h41' : d.toList.length = 41 := by simpa using hd
      unfold over
      rw [List.take_zero, List.nil_append, Nat.zero_add, h41, h41']
      rw [List.take_append_of_le_length (by omega), List.take_of_length_le (by omega), List.drop_append, List.drop_of_length_le (l := c.toList) (by omega), h41, List.drop_drop, List.drop_of_length_le (l := z) (by omega)]
      simp
    rw [e]
    congr 1
    cases c
    cases d
    simp
  obtain ⟨i0, hi, hz0, hz1, hz2⟩ := info_parts info30
  have hsz : (sizeOf 30).run Tryz.prog w = .ok 41 w := by simp [sizeOf, typeInfo, hi, hz1]
  have hzv := run_zero30 w
  generalize z30 = zz at hf hzv
  have hb : (Instr.buildSlice 28 2 #[(0, .agg c), (1, .agg d)]).run Tryz.prog w = .ok (.slice (some ⟨w.heap.size, 0, none⟩) 2 2) (w.alloc (.cells (c ++ d) 30)) := by
    unfold Instr.buildSlice
    simp only [Sem.run_bind, run_underlying Tryz.underlying28, Result.andThen_ok, hsz]
    have h1 : ¬ (2 * 41 > 2 ^ 24) := by omega
    have h2 : ¬ (2 * 41 = 0) := by omega
    simp only [h1, h2, if_false, Sem.run_bind, Sem.run_pure, Result.andThen_ok, hzv, Value.cells, hf]
    rfl
  unfold execOp
  simp only [ho]
  have hmap : (#[(0, x), (1, y)].map fun (p : Nat × Operand) => match p with | (i, x) => (i, a.eval x)) = #[(0, .agg c), (1, .agg d)] := by simp [hx, hy]
  rw [hmap]
  simp only [Sem.run_bind, hb, Result.andThen_ok, Sem.run_pure]
def cA : Array Value := nc bA vA Md.zero (.slice none 0 0)
def cD : Array Value := nc bD vD Md.zero (.slice none 0 0)
def cN (R : Nat) : Array Value := nc ⟨#[]⟩ v0 Md.zero (.slice (some ⟨R, 0, none⟩) 2 2)
def cL : Array Value := nc ⟨#[]⟩ vL Md.zero (.slice none 0 0)
def Row2 (w : World) (R : Nat) (c d : Array Value) : Prop := Lies w R 0 c ∧ Lies w R 41 d ∧ ∀ j, w.frozen? ⟨R, j, none⟩ = false
theorem Row2.grow {w w' : World} {R : Nat} {c d : Array Value} (h : Row2 w R c d) (hR : R < w.heap.size) (hg : G w w') : Row2 w' R c d := ⟨hg.lies h.1, hg.lies h.2.1, fun j => frozen_sameB (hg.block R hR) (h.2.2 j)⟩
theorem row2_has {w : World} {R : Nat} {n1 n2 : ByteArray} {v1 v2 : Vd} (h : Row2 w R (nc n1 v1 Md.zero (.slice none 0 0)) (nc n2 v2 Md.zero (.slice none 0 0))) : HasN w (cN R) ⟨#[]⟩ v0 Md.zero (.cons n1 v1 Md.zero .nil (.cons n2 v2 Md.zero .nil .nil)) :=
  ⟨_, rfl, _, 2, rfl, Nat.le_refl _, .inr ⟨R, 0, rfl, ⟨none, 0, h.1, Nat.le_refl _, .inl rfl⟩, ⟨none, 0, by rw [Nat.zero_add]; exact h.2.1, Nat.le_refl _, .inl rfl⟩, trivial⟩⟩
theorem row2_new (w : World) : Row2 (w.alloc (.cells (cA ++ cD) 30)) w.heap.size cA cD := by
  have hA : cA.size = 41 := nc_size ..
  have hl := lies_new w (cA ++ cD) 30
  refine ⟨fun j u hj => ?_, fun j u hj => ?_, fun j => ?_⟩
  · have hlt := (Array.getElem?_eq_some_iff.1 hj).1
    exact hl j u (by rw [Array.getElem?_append_left hlt]; exact hj)
  · have := hl (41 + j) u (by rw [Array.getElem?_append_right (by omega), hA]; simpa using hj)
    rwa [Nat.zero_add] at this
  · have h := World.alloc_heap_new w (.cells (cA ++ cD) 30)
    simp only [World.frozen?, h]
    simp
theorem setCells_GB (w : World) (R o : Nat) (vs : List Value) : GB R w (w.setCells R o vs) := by
  obtain ⟨h1, h2, h3, h4⟩ := setCells_os R vs o w
  exact ⟨h1, h2, h3, Nat.le_of_eq h4.symm, fun b _ hb => setCells_blockB R vs o w b hb⟩
theorem cA_one : cA.all (·.oneCell') = true := nc_one _ _ _ _ rfl
theorem cD_one : cD.all (·.oneCell') = true := nc_one _ _ _ _ rfl
theorem row2_swap {w w1 : World} {R : Nat} (h : Row2 w R cA cD) (hg : G (w.setCells R 0 cD.toList) w1) (hR : R < w.heap.size) : w1.there R 41 41 ∧ Row2 (w1.setCells R 41 cA.toList) R cD cA ∧ (∀ b, b ≠ R → b < w.heap.size → (w1.setCells R 41 cA.toList).heap[b]? = w.heap[b]?) := by
  have hA : cA.size = 41 := nc_size ..
  have hD : cD.size = 41 := nc_size ..
  have hAl : cA.toList.length = 41 := by simpa using hA
  have hDl : cD.toList.length = 41 := by simpa using hD
  have l1 : Lies (w.setCells R 0 cD.toList) R 0 cD := lies_in h.1 hA hD
  have l2 : Lies (w.setCells R 0 cD.toList) R 41 cD := lies_out h.2.1 hD (.inr (by omega))
  have f1 : ∀ j, (w.setCells R 0 cD.toList).frozen? ⟨R, j, none⟩ = false := fun j => (World.frozen?_setCells R _ _ w _).trans (h.2.2 j)
  have hs := (setCells_os R cD.toList 0 w).2.2.2
  have f2 : ∀ j, w1.frozen? ⟨R, j, none⟩ = false := fun j => frozen_sameB (hg.block R (by rw [hs]; exact hR)) (f1 j)
  have m1 := hg.lies l1
  have m2 := hg.lies l2
  refine ⟨lies_there m2 hD f2, ⟨lies_out m1 hD (.inl (by omega)), lies_in m2 hD hA, fun j => (World.frozen?_setCells R _ _ w1 _).trans (f2 j)⟩, fun b hb hlt => ?_⟩
  exact (setCells_blockB R _ _ w1 b hb).trans ((hg.block b (by rw [hs]; exact hlt)).trans (setCells_blockB R _ _ w b hb))
theorem countF_any {p : Nat} {v : Vd} {m : Md} {f : F} {w : World} (h : AtTF P w p v m f) (hs : f.size + 1 ≤ 9223372036854775807) : Calls Tryz.prog 6 #[.pointer (some ⟨p, 0, none⟩)] w fun e w' => e = .returned (.int .i64 ((1 + f.size : Nat) : Int)) ∧ w' = w := by
  obtain ⟨k, h, rfl, _⟩ := h
  exact count_any p v m k w h hs
theorem new_var24 (w : World) (c : Array Value) : G w ((w.alloc (.cells (vx Vd.zero).toArray 24)).setRow w.heap.size c) ∧ Var24 ((w.alloc (.cells (vx Vd.zero).toArray 24)).setRow w.heap.size c) w.heap.size c := by
  have h := (But.setRow (K := w.heap.size) ((But.refl _ w).alloc (.cells (vx Vd.zero).toArray 24)) c)
  exact ⟨h.below (Nat.le_refl _) (Nat.le_refl _), setRow_heap _ _ _ c 24 _ (World.alloc_heap_new w _)⟩
theorem Var24.cell {w : World} {g : Nat} {v : Vd} (h : Var24 w g (vx v).toArray) : w.cell? ⟨g, 0, none⟩ = some (.int .i64 v.kind) := by
  have h' : w.heap[g]? = some (.cells (vx v).toArray 24 (0, 0)) := h
  simp only [World.cell?, h']
  rfl
structure Kn (w0 w : World) (R B p : Nat) (c d : Array Value) : Prop where
  row : Row2 w R c d
  var : Var w B (cN R)
  tree : AtTF (fun _ => True) w p v0 Md.zero fAD
  g : G w0 w
  ne : B = R + 1
theorem Kn.grow {w0 w w' : World} {R B p : Nat} {c d : Array Value} (h : Kn w0 w R B p c d) (hg : G w w') : Kn w0 w' R B p c d :=
  ⟨h.row.grow (by have := h.var.lt; have := h.ne; omega) hg, h.var.grow hg, h.tree.grow hg, h.g.trans hg, h.ne⟩
theorem Kn.swap {w0 w w1 : World} {R B p : Nat} (h : Kn w0 w R B p cA cD) (hg : G (w.setCells R 0 cD.toList) w1) (hR : w0.heap.size ≤ R) : w1.there R 41 41 ∧ Kn w0 (w1.setCells R 41 cA.toList) R B p cD cA := by
  have hlt : R < w.heap.size := by have := h.var.lt; have := h.ne; omega
  obtain ⟨h1, h2, h3⟩ := row2_swap h.row hg hlt
  have hs := (setCells_os R cD.toList 0 w)
  have hs1 := (setCells_os R cA.toList 41 w1)
  refine ⟨h1, h2, (h3 B (by have := h.ne; omega) h.var.lt).trans h.var, ?_, ⟨?_, ?_, ?_, ?_, fun b hb => ?_⟩, h.ne⟩
  · obtain ⟨k, hk, e⟩ := h.tree
    have hl := hk
    refine ⟨k, ?_, e⟩
    obtain ⟨pk, hp, hat⟩ := hk
    have hb : ∀ b, b < w.heap.size ∧ b ≠ R → (w1.setCells R 41 cA.toList).heap[b]? = w.heap[b]? := fun b hb => h3 b hb.2 hb.1
    have hRw : Rw w R := rw_of_lies h.row.1
    have nR : ∀ {k : K} {u : Value}, At w k u → k.all (· ≠ R) := by
      intro k
      induction k with
      | nil => intro _ _; trivial
      | node q p nm v m kids ah be ih1 ih2 ih3 =>
        rintro u ⟨_, pk, pa, pb, ⟨h2, h3⟩, h4, h5, h6⟩
        exact ⟨fun e => kc_not h2 (e ▸ hRw), fun e => tc_not h3 (e ▸ hRw), ih1 h4, ih2 h5, ih3 h6⟩
    refine ⟨pk, hp.sameB (hb p ⟨World.block_lt_of_cell? w _ (lies_cell hp 39 _ (tc_kids ..)), fun e => tc_not hp (e ▸ hRw)⟩), hat.keepP hb (K.all_and hat.lt (nR hat))⟩
  · exact hs1.1.trans (hg.os.trans (hs.1.trans h.g.os))
  · exact hs1.2.1.trans (hg.tape.trans (hs.2.1.trans h.g.tape))
  · exact hs1.2.2.1.trans (hg.output.trans (hs.2.2.1.trans h.g.output))
  · have h5 := hg.size
    have h6 := h.g.size
    rw [hs1.2.2.2]
    rw [hs.2.2.2] at h5
    omega
  · exact (h3 b (by omega) (by have := h.g.size; omega)).trans (h.g.block b hb)
theorem known_any (w : World) : Calls Tryz.prog 4 #[] w fun e w' => e = .returned (.bool true) ∧ G w w' := by
  obtain ⟨N1, N2, N3⟩ := new_var (w.alloc (.cells (cA ++ cD) 30)) (cN w.heap.size)
  have hR2 := (row2_new w).grow (by simp) N1
  have HF : Hid (Row2 (((w.alloc (.cells (cA ++ cD) 30)).alloc (.cells z30 30)).setRow (w.alloc (.cells (cA ++ cD) 30)).heap.size (cN w.heap.size)) w.heap.size cA cD ∧ Var (((w.alloc (.cells (cA ++ cD) 30)).alloc (.cells z30 30)).setRow (w.alloc (.cells (cA ++ cD) 30)).heap.size (cN w.heap.size)) (w.alloc (.cells (cA ++ cD) 30)).heap.size (cN w.heap.size) ∧ G w (((w.alloc (.cells (cA ++ cD) 30)).alloc (.cells z30 30)).setRow (w.alloc (.cells (cA ++ cD) 30)).heap.size (cN w.heap.size)) ∧ (w.alloc (.cells (cA ++ cD) 30)).heap.size = w.heap.size + 1) := ⟨hR2, N2, (G.alloc _ _).trans N1, by simp⟩
  clear N1 N2 N3 hR2
  go_enter Tryz.func4, Tryz.ntmps4
  go_upto_region 2 with (first
    | ((with_reducible refine wpList_execW (.slice (some ⟨w.heap.size, 0, none⟩) 2 2) (w.alloc (.cells (cA ++ cD) 30)) ?_ ?_ ?_); exact exec_slice2 _ _ rfl cA cD rfl rfl (nc_size ..) (nc_size ..) _; kernel_rfl)
    | ((with_reducible refine wpList_execW (.pointer (some ⟨(w.alloc (.cells (cA ++ cD) 30)).heap.size, 0, none⟩)) ((w.alloc (.cells (cA ++ cD) 30)).alloc (.cells z30 30)) ?_ ?_ ?_); exact exec_alloc30 rfl _; kernel_rfl)
    | ((with_reducible refine wpList_skipW (((w.alloc (.cells (cA ++ cD) 30)).alloc (.cells z30 30)).setRow (w.alloc (.cells (cA ++ cD) 30)).heap.size (cN w.heap.size)) ?_ ?_ ?_); exact exec_store30 _ _ rfl (w.alloc (.cells (cA ++ cD) 30)).heap.size _ z30 rfl rfl _ (Var.new _ z30) (nc_size ..) z30_size (nc_one _ _ _ _ rfl); kernel_rfl))
  try simp only [Act.put, List.setIfInBounds_toArray, List.set_cons_zero, List.set_cons_succ]
  generalize ((w.alloc (.cells (cA ++ cD) 30)).alloc (.cells z30 30)).setRow (w.alloc (.cells (cA ++ cD) 30)).heap.size (cN w.heap.size) = w1 at *
  generalize (w.alloc (.cells (cA ++ cD) 30)).heap.size = B at *
  obtain ⟨R, hR⟩ : ∃ R, w.heap.size = R := ⟨_, rfl⟩
  have HR := hid hR
  rw [hR] at HF ⊢
  clear hR
  have HBR : Hid (B = R + 1) := HF.out.2.2.2
  have C10 := of_any (cN R) ⟨#[]⟩ v0 Md.zero fAD w1 (row2_has HF.out.1) (by decide)
  rw [check0] at C10
  go_wp2_with ((with_reducible refine wpList_exec (.agg (cN R)) ?_ ?_ ?_); exact exec_load30 _ rfl B 0 rfl (cN R) (nc_size ..) HF.out.2.1.lies; kernel_rfl)
  refine C10.mono ?_
  rintro e w2 ⟨u, rfl, hg2, hO⟩
  obtain ⟨p, hp, hT⟩ : ∃ p, u = .pointer (some ⟨p, 0, none⟩) ∧ AtTF (fun _ => True) w2 p v0 Md.zero fAD := by
    rcases hO with ⟨h, _⟩ | ⟨_, p, k, h, hT, hk⟩
    · exact absurd rfl h
    · exact ⟨p, h, AtTF.of hT hk⟩
  subst hp
  have HK : Hid (Kn w w2 R B p cA cD) := ⟨HF.out.1.grow (by have := HF.out.2.1.lt; have := HBR.out; omega) hg2, HF.out.2.1.grow hg2, hT, HF.out.2.2.1.trans hg2, HBR.out⟩
  have C53 : Calls Tryz.prog 6 #[.pointer (some ⟨p, 0, none⟩)] w2 fun e w' => e = .returned (.int .i64 3) ∧ w' = w2 := countF_any hT (by decide)
  have C54 : Calls Tryz.prog 13 #[.pointer (some ⟨p, 0, none⟩)] w2 fun e w' => e = .returned (.int .i64 1) ∧ w' = w2 := depthF_any hT
  clear hO hT hg2 C10 HF
  go_upto_region 5 with (first
    | (go_at_call 6; refine C53.mono ?_; rintro e w3 ⟨rfl, e2⟩; subst e2)
    | (go_at_call 13; refine C54.mono ?_; rintro e w3 ⟨rfl, e2⟩; subst e2))
  clear C53 C54
  refine wp_region_M 13 15 R ?_
  replace HK := hid (HK.out.grow (G.drew _))
  generalize World.drew _ = w4 at *
  have c40 := lies_cell HK.out.var.lies 40 (.slice (some ⟨R, 0, none⟩) 2 2) (nc_kids ..)
  have HR2 := hid HK.out.row
  refine takeM 0 48 (.pointer (some ⟨B, 40, none⟩)) rfl rfl (by kernel_rfl) (by kernel_rfl) (by kernel_rfl) (by kernel_rfl) (by kernel_rfl) (fun _ _ _ h => h) (by kernel_rfl) (fun wz hz => ?_) ?_
  · go_simp
  try simp only [Act.put, List.setIfInBounds_toArray, List.set_cons_zero, List.set_cons_succ]
  refine takeM 1 49 (.slice (some ⟨R, 0, none⟩) 2 2) rfl rfl (by kernel_rfl) (by kernel_rfl) (by kernel_rfl) (by kernel_rfl) (by kernel_rfl) (fun _ _ _ h => h) (by kernel_rfl) (fun wz hz => ?_) ?_
  · have y := hz.cell (a := ⟨B, 40, none⟩) (by show B ≠ R; have := HBR.out; omega) c40; go_simp
  try simp only [Act.put, List.setIfInBounds_toArray, List.set_cons_zero, List.set_cons_succ]
  refine takeM 2 50 (.pointer (some ⟨B, 40, none⟩)) rfl rfl (by kernel_rfl) (by kernel_rfl) (by kernel_rfl) (by kernel_rfl) (by kernel_rfl) (fun _ _ _ h => h) (by kernel_rfl) (fun wz hz => ?_) ?_
  · go_simp
  try simp only [Act.put, List.setIfInBounds_toArray, List.set_cons_zero, List.set_cons_succ]
  refine takeM 3 51 (.slice (some ⟨R, 0, none⟩) 2 2) rfl rfl (by kernel_rfl) (by kernel_rfl) (by kernel_rfl) (by kernel_rfl) (by kernel_rfl) (fun _ _ _ h => h) (by kernel_rfl) (fun wz hz => ?_) ?_
  · have y := hz.cell (a := ⟨B, 40, none⟩) (by show B ≠ R; have := HBR.out; omega) c40; go_simp
  try simp only [Act.put, List.setIfInBounds_toArray, List.set_cons_zero, List.set_cons_succ]
  refine takeM 4 52 (.pointer (some ⟨B, 40, none⟩)) rfl rfl (by kernel_rfl) (by kernel_rfl) (by kernel_rfl) (by kernel_rfl) (by kernel_rfl) (fun _ _ _ h => h) (by kernel_rfl) (fun wz hz => ?_) ?_
  · go_simp
  try simp only [Act.put, List.setIfInBounds_toArray, List.set_cons_zero, List.set_cons_succ]
  refine takeM 5 53 (.slice (some ⟨R, 0, none⟩) 2 2) rfl rfl (by kernel_rfl) (by kernel_rfl) (by kernel_rfl) (by kernel_rfl) (by kernel_rfl) (fun _ _ _ h => h) (by kernel_rfl) (fun wz hz => ?_) ?_
  · have y := hz.cell (a := ⟨B, 40, none⟩) (by show B ≠ R; have := HBR.out; omega) c40; go_simp
  try simp only [Act.put, List.setIfInBounds_toArray, List.set_cons_zero, List.set_cons_succ]
  refine takeM 6 54 (.pointer (some ⟨R, 41, none⟩)) rfl rfl (by kernel_rfl) (by kernel_rfl) (by kernel_rfl) (by kernel_rfl) (by kernel_rfl) (fun _ _ _ h => h) (by kernel_rfl) (fun wz hz => ?_) ?_
  · go_simp
  try simp only [Act.put, List.setIfInBounds_toArray, List.set_cons_zero, List.set_cons_succ]
  refine takeMd 7 55 (.agg cD) rfl rfl (by kernel_rfl) (by kernel_rfl) (by kernel_rfl) (by kernel_rfl) (by kernel_rfl) (fun _ _ _ h => h) (by kernel_rfl) (fun wz hz => ?_) ?_
  · exact exec_load30 _ rfl R 41 rfl cD (nc_size ..) (hz.lies HR2.out.2.1)
  try simp only [Act.put, List.setIfInBounds_toArray, List.set_cons_zero, List.set_cons_succ]
  refine takeM 8 56 (.pointer (some ⟨B, 40, none⟩)) rfl rfl (by kernel_rfl) (by kernel_rfl) (by kernel_rfl) (by kernel_rfl) (by kernel_rfl) (fun _ _ _ h => h) (by kernel_rfl) (fun wz hz => ?_) ?_
  · go_simp
  try simp only [Act.put, List.setIfInBounds_toArray, List.set_cons_zero, List.set_cons_succ]
  refine takeM 9 57 (.slice (some ⟨R, 0, none⟩) 2 2) rfl rfl (by kernel_rfl) (by kernel_rfl) (by kernel_rfl) (by kernel_rfl) (by kernel_rfl) (fun _ _ _ h => h) (by kernel_rfl) (fun wz hz => ?_) ?_
  · have y := hz.cell (a := ⟨B, 40, none⟩) (by show B ≠ R; have := HBR.out; omega) c40; go_simp
  try simp only [Act.put, List.setIfInBounds_toArray, List.set_cons_zero, List.set_cons_succ]
  refine takeM 10 58 (.pointer (some ⟨R, 0, none⟩)) rfl rfl (by kernel_rfl) (by kernel_rfl) (by kernel_rfl) (by kernel_rfl) (by kernel_rfl) (fun _ _ _ h => h) (by kernel_rfl) (fun wz hz => ?_) ?_
  · go_simp
  try simp only [Act.put, List.setIfInBounds_toArray, List.set_cons_zero, List.set_cons_succ]
  refine takeMd 11 59 (.agg cA) rfl rfl (by kernel_rfl) (by kernel_rfl) (by kernel_rfl) (by kernel_rfl) (by kernel_rfl) (fun _ _ _ h => h) (by kernel_rfl) (fun wz hz => ?_) ?_
  · exact exec_load30 _ rfl R 0 rfl cA (nc_size ..) (hz.lies HR2.out.1)
  try simp only [Act.put, List.setIfInBounds_toArray, List.set_cons_zero, List.set_cons_succ]
  refine takeM 12 60 (.pointer (some ⟨R, 0, none⟩)) rfl rfl (by kernel_rfl) (by kernel_rfl) (by kernel_rfl) (by kernel_rfl) (by kernel_rfl) (fun _ _ _ h => h) (by kernel_rfl) (fun wz hz => ?_) ?_
  · go_simp
  try simp only [Act.put, List.setIfInBounds_toArray, List.set_cons_zero, List.set_cons_succ]
  refine storeM rfl rfl (by kernel_rfl) (by kernel_rfl) (fun w5 hg5 => ?_)
  have HK5 := hid (HK.out.grow hg5)
  refine ⟨w5.setCells R 0 cD.toList, exec_store30m _ _ rfl R 0 cD rfl rfl _ (lies_there HK5.out.row.1 (nc_size ..) HK5.out.row.2.2) (nc_size ..) cD_one, setCells_GB _ _ _ _, ?_⟩
  refine takeS 14 61 (.pointer (some ⟨R, 41, none⟩)) rfl rfl (by kernel_rfl) (by kernel_rfl) (by kernel_rfl) (by kernel_rfl) (fun _ _ _ h => h) (by kernel_rfl) (fun wz hz => ?_) ?_
  · go_simp
  try simp only [Act.put, List.setIfInBounds_toArray, List.set_cons_zero, List.set_cons_succ]
  refine lastS rfl rfl (by kernel_rfl) (by kernel_rfl) (by kernel_rfl) (fun w6 hg6 => ?_)
  obtain ⟨hth, hkn⟩ := HK5.out.swap hg6 (by have := HR.out; omega)
  refine ⟨w6.setCells R 41 cA.toList, exec_store30m _ _ rfl R 41 cA rfl rfl _ hth (nc_size ..) cA_one, ?_⟩
  replace HK := hid hkn
  clear hth hkn HK5 hg6 hg5 c40 HR2
  generalize w6.setCells R 41 cA.toList = w7 at *
  have C9 := tcheck_any (cN R) ⟨#[]⟩ v0 Md.zero fDA w7 (row2_has HK.out.row) (by decide)
  rw [check1.1, show checkP v0 Md.zero fDA = ⟨#[97]⟩ from check1.2] at C9
  have hPP : ((⟨#[97]⟩ : ByteArray).toList != (⟨#[97]⟩ : ByteArray).toList) = false := by simp
  go_wp2_with ((with_reducible refine wpList_exec (.agg (cN R)) ?_ ?_ ?_); exact exec_load30 _ rfl B 0 rfl (cN R) (nc_size ..) HK.out.var.lies; kernel_rfl)
  refine C9.mono ?_
  rintro e w8 ⟨rfl, hg8⟩
  have HT := hid (⟨HK.out.tree.grow hg8, HK.out.g.trans hg8⟩ : AtTF (fun _ => True) w8 p v0 Md.zero fAD ∧ G w w8)
  have CL := of_any cL ⟨#[]⟩ vL Md.zero .nil w8 ⟨_, rfl, none, 0, rfl, Nat.le_refl _, .inl rfl⟩ (by decide)
  rw [checkL] at CL
  clear C9 hg8 HK HBR HR
  go_wp2_with fail
  refine CL.mono ?_
  rintro e w9 ⟨u, rfl, hg9, hO⟩
  obtain ⟨pl, hpl, hTL⟩ : ∃ p, u = .pointer (some ⟨p, 0, none⟩) ∧ AtTF (fun _ => True) w9 p vL Md.zero .nil := by
    rcases hO with ⟨h, _⟩ | ⟨_, p, k, h, hT, hk⟩
    · exact absurd rfl h
    · exact ⟨p, h, AtTF.of hT hk⟩
  subst hpl
  replace HT := hid (⟨HT.out.1.grow hg9, hTL, HT.out.2.trans hg9⟩ : AtTF (fun _ => True) w9 p v0 Md.zero fAD ∧ AtTF (fun _ => True) w9 pl vL Md.zero .nil ∧ G w w9)
  have C18 := put_any p pl t0 tL pDX w9 HT.out.1 HT.out.2.1 rises0 (by decide) (by decide) (fun _ _ => trivial)
  rw [put_dx, putT_dx] at C18
  clear hO hTL hg9 CL
  go_wp2_with fail
  refine C18.mono ?_
  rintro e w10 ⟨u, rfl, hg10, _, hu⟩
  obtain ⟨px, hpx, hTX⟩ := hu (by trivial)
  subst hpx
  replace HT := hid (⟨HT.out.1.grow hg10, HT.out.2.1.grow hg10, hTX, HT.out.2.2.trans hg10⟩ : AtTF (fun _ => True) w10 p v0 Md.zero fAD ∧ AtTF (fun _ => True) w10 pl vL Md.zero .nil ∧ AtTF (fun _ => True) w10 px v0 Md.zero fADX ∧ G w w10)
  have C18b := put_any p pl t0 tL pAX w10 HT.out.1 HT.out.2.1 rises0 (by decide) (by decide) (fun _ _ => trivial)
  rw [put_ax] at C18b
  clear hTX hg10 C18 hu
  go_wp2_with fail
  refine C18b.mono ?_
  rintro e w11 ⟨u, rfl, hg11, hu, _⟩
  obtain rfl := hu (by decide)
  replace HT := hid (⟨HT.out.1.grow hg11, HT.out.2.2.1.grow hg11, HT.out.2.2.2.trans hg11⟩ : AtTF (fun _ => True) w11 p v0 Md.zero fAD ∧ AtTF (fun _ => True) w11 px v0 Md.zero fADX ∧ G w w11)
  have C55 := drop_none p t0 pE w11 HT.out.1 rises0 (by decide) way_e (by rw [cut_e]; simp) dn_e
  clear hg11 C18b hu
  go_wp2_with fail
  refine C55.mono ?_
  rintro e w12 ⟨rfl, hg12⟩
  replace HT := hid (⟨HT.out.1.grow hg12, HT.out.2.1.grow hg12, HT.out.2.2.trans hg12⟩ : AtTF (fun _ => True) w12 p v0 Md.zero fAD ∧ AtTF (fun _ => True) w12 px v0 Md.zero fADX ∧ G w w12)
  have C55b := drop_root p t0 ⟨#[]⟩ w12 HT.out.1 rises0 (by decide) way_0 cut_0
  clear hg12 C55
  go_wp2_with fail
  refine C55b.mono ?_
  rintro e w13 ⟨rfl, hg13⟩
  replace HT := hid (⟨HT.out.1.grow hg13, HT.out.2.1.grow hg13, HT.out.2.2.trans hg13⟩ : AtTF (fun _ => True) w13 p v0 Md.zero fAD ∧ AtTF (fun _ => True) w13 px v0 Md.zero fADX ∧ G w w13)
  have C56 := at_any px tX pDX w13 HT.out.2.1 risesX (by decide)
  rw [show atV tX pDX = vL by unfold atV; rw [sub_dx]; rfl, sub_dx] at C56
  clear hg13 C55b
  go_wp2_with fail
  refine C56.mono ?_
  rintro e w14 ⟨rfl, hg14⟩
  obtain ⟨N1, N2⟩ := new_var24 w14 (vx vL).toArray
  replace HT := hid (⟨(HT.out.1.grow hg14).grow N1, (HT.out.2.1.grow hg14).grow N1, (HT.out.2.2.trans hg14).trans N1, N2⟩ : AtTF (fun _ => True) ((w14.alloc (.cells (vx Vd.zero).toArray 24)).setRow w14.heap.size (vx vL).toArray) p v0 Md.zero fAD ∧ AtTF (fun _ => True) ((w14.alloc (.cells (vx Vd.zero).toArray 24)).setRow w14.heap.size (vx vL).toArray) px v0 Md.zero fADX ∧ G w ((w14.alloc (.cells (vx Vd.zero).toArray 24)).setRow w14.heap.size (vx vL).toArray) ∧ Var24 ((w14.alloc (.cells (vx Vd.zero).toArray 24)).setRow w14.heap.size (vx vL).toArray) w14.heap.size (vx vL).toArray)
  clear hg14 C56 N1 N2
  go_upto_region 17 with (first
    | ((with_reducible refine wpList_execW (.pointer (some ⟨w14.heap.size, 0, none⟩)) (w14.alloc (.cells (vx Vd.zero).toArray 24)) ?_ ?_ ?_); exact exec_alloc24 rfl _; kernel_rfl)
    | ((with_reducible refine wpList_skipW ((w14.alloc (.cells (vx Vd.zero).toArray 24)).setRow w14.heap.size (vx vL).toArray) ?_ ?_ ?_); exact exec_store24 _ _ rfl w14.heap.size _ (vx Vd.zero).toArray rfl rfl _ (World.alloc_heap_new _ _) (vx_size _) (vx_size _) (vx_one _); kernel_rfl))
  try simp only [Act.put, List.setIfInBounds_toArray, List.set_cons_zero, List.set_cons_succ]
  generalize (w14.alloc (.cells (vx Vd.zero).toArray 24)).setRow w14.heap.size (vx vL).toArray = w15 at *
  generalize w14.heap.size = B2 at *
  have C56b := at_any p t0 pDX w15 HT.out.1 rises0 (by decide)
  rw [show atV t0 pDX = Vd.zero by unfold atV; rw [sub_no], sub_no] at C56b
  go_wp2_with fail
  refine C56b.mono ?_
  rintro e w16 ⟨rfl, hg16⟩
  obtain ⟨N1, N2⟩ := new_var24 w16 (vx Vd.zero).toArray
  replace HT := hid (⟨(HT.out.2.1.grow hg16).grow N1, (HT.out.2.2.1.trans hg16).trans N1, (HT.out.2.2.2.grow hg16).grow N1⟩ : AtTF (fun _ => True) ((w16.alloc (.cells (vx Vd.zero).toArray 24)).setRow w16.heap.size (vx Vd.zero).toArray) px v0 Md.zero fADX ∧ G w ((w16.alloc (.cells (vx Vd.zero).toArray 24)).setRow w16.heap.size (vx Vd.zero).toArray) ∧ Var24 ((w16.alloc (.cells (vx Vd.zero).toArray 24)).setRow w16.heap.size (vx Vd.zero).toArray) B2 (vx vL).toArray)
  clear hg16 C56b N1 N2
  go_upto_region 18 with (first
    | ((with_reducible refine wpList_execW (.pointer (some ⟨w16.heap.size, 0, none⟩)) (w16.alloc (.cells (vx Vd.zero).toArray 24)) ?_ ?_ ?_); exact exec_alloc24 rfl _; kernel_rfl)
    | ((with_reducible refine wpList_skipW ((w16.alloc (.cells (vx Vd.zero).toArray 24)).setRow w16.heap.size (vx Vd.zero).toArray) ?_ ?_ ?_); exact exec_store24 _ _ rfl w16.heap.size _ (vx Vd.zero).toArray rfl rfl _ (World.alloc_heap_new _ _) (vx_size _) (vx_size _) (vx_one _); kernel_rfl))
  try simp only [Act.put, List.setIfInBounds_toArray, List.set_cons_zero, List.set_cons_succ]
  generalize (w16.alloc (.cells (vx Vd.zero).toArray 24)).setRow w16.heap.size (vx Vd.zero).toArray = w17 at *
  generalize w16.heap.size = B3 at *
  have c0 : w17.cell? ⟨B2, 0, none⟩ = some (.int .i64 3) := HT.out.2.2.cell
  have C53 : Calls Tryz.prog 6 #[.pointer (some ⟨px, 0, none⟩)] w17 fun e w' => e = .returned (.int .i64 4) ∧ w' = w17 := countF_any HT.out.1 (by decide)
  go_wp2_with (go_at_call 6; refine C53.mono ?_; rintro e w18 ⟨rfl, e2⟩; subst e2)
  go_ret
  exact ⟨rfl, HT.out.2.1⟩
end Go.Proofs.YtbjjbgaomoihaaaGreatDoor
