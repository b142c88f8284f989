import Derived.Shelf.Strings.OnBuilder
import Derived.RangeFuncBox
import Derived.Test.YtbjjbgaomoihaaaGreatDoorFault
import Derived.Test.YtbjjbgaomoihaaaGreatDoorKids
set_option maxRecDepth 100000
set_option maxHeartbeats 1000000
namespace Go.Proofs.YtbjjbgaomoihaaaGreatDoor
open Go.Shelf
def Tryz.lays156_ren : Go.Shelf.Ren := ⟨fun | 156 => 61 | 165 => 91 | 166 => 92 | 169 => 93 | 240 => 136 | 241 => 137 | 276 => 149 | 277 => 150 | n => n, fun | 31 => 56 | 9 => 9 | 3 => 3 | 4 => 4 | 0 => 0 | 20 => 20 | 72 => 154 | 76 => 158 | 70 => 152 | 37 => 121 | 75 => 157 | 127 => 200 | 164 => 207 | 5 => 5 | 80 => 160 | n => n, fun | n => n⟩
theorem Tryz.lays156 : Go.Proofs.Lays.n156 Tryz.prog Tryz.lays156_ren := {
  mixed := by kernel_rfl
  f156 := Tryz.func61.trans (congrArg some (by kernel_rfl))
  f165 := Tryz.func91.trans (congrArg some (by kernel_rfl))
  f166 := Tryz.func92.trans (congrArg some (by kernel_rfl))
  f169 := Tryz.func93.trans (congrArg some (by kernel_rfl))
  f240 := Tryz.func136.trans (congrArg some (by kernel_rfl))
  f241 := Tryz.func137.trans (congrArg some (by kernel_rfl))
  f276 := Tryz.func149.trans (congrArg some (by kernel_rfl))
  f277 := Tryz.func150.trans (congrArg some (by kernel_rfl))
  t0 := Tryz.underlying0
  a0 := Tryz.isAgg0
  z0 := Tryz.sizeOf0
  v0 := Tryz.zeroValue0
  t3 := Tryz.underlying3
  a3 := Tryz.isAgg3
  z3 := Tryz.sizeOf3
  v3 := Tryz.zeroValue3
  t4 := Tryz.underlying4
  a4 := Tryz.isAgg4
  z4 := Tryz.sizeOf4
  v4 := Tryz.zeroValue4
  t9 := Tryz.underlying9
  a9 := Tryz.isAgg9
  z9 := Tryz.sizeOf9
  v9 := Tryz.zeroValue9
  t20 := Tryz.underlying20
  a20 := Tryz.isAgg20
  z20 := Tryz.sizeOf20
  v20 := Tryz.zeroValue20
  t31 := Tryz.underlying56
  a31 := Tryz.isAgg56
  z31 := Tryz.sizeOf56
  v31 := Tryz.zeroValue56
  t37 := Tryz.underlying121
  a37 := Tryz.isAgg121
  z37 := Tryz.sizeOf121
  v37 := Tryz.zeroValue121
  t70 := Tryz.underlying152
  a70 := Tryz.isAgg152
  z70 := Tryz.sizeOf152
  v70 := Tryz.zeroValue152
  t72 := Tryz.underlying154
  a72 := Tryz.isAgg154
  z72 := Tryz.sizeOf154
  v72 := Tryz.zeroValue154
  t75 := Tryz.underlying157
  a75 := Tryz.isAgg157
  z75 := Tryz.sizeOf157
  v75 := Tryz.zeroValue157
  t76 := Tryz.underlying158
  a76 := Tryz.isAgg158
  z76 := Tryz.sizeOf158
  v76 := Tryz.zeroValue158
  t127 := Tryz.underlying200
  a127 := Tryz.isAgg200
  z127 := Tryz.sizeOf200
  v127 := Tryz.zeroValue200
  t164 := Tryz.underlying207
  a164 := Tryz.isAgg207
  z164 := Tryz.sizeOf207
  v164 := Tryz.zeroValue207 }
theorem Tryz.Builder_Extra_156 : Builder.Extra Tryz.prog Tryz.lays156_ren := {
  sizeBuilder := by kernel_rfl
  liesBuilder := by kernel_rfl
  t5 := Tryz.underlying5
  a5 := Tryz.isAgg5
  z5 := Tryz.sizeOf5
  v5 := Tryz.zeroValue5
  infoByte := by kernel_rfl
  cellsByte := by kernel_rfl
  sizeByte := by kernel_rfl
  neB5 := by decide }
open Go.RowKit in
theorem Tryz.strings_Join_none (a : Option Addr) (c : Nat) (sep : ByteArray) (w : World) :
    Calls Tryz.prog 61 #[.slice a 0 c, .string sep] w fun e w' => e = .returned (.string ⟨#[]⟩) ∧ w' = w := Any.strings_Join_none Tryz.lays156 Tryz.Builder_Extra_156 a c sep w
open Go.RowKit in
theorem Tryz.strings_Join (bk o c : Nat) (xs : List ByteArray) (sep : ByteArray) (w : World) (hcells : ∀ (j : Nat) x, xs[j]? = some x → w.cell? ⟨bk, o + j, none⟩ = some (.string x)) (hbk : bk < w.heap.size) (hN : xs.length ≤ 140737488355328) (hcap : xs.length ≤ c) (hlen : (Lib.join (xs.map (·.data.toList)) sep.data.toList).length ≤ 140737488355328) :
    Calls Tryz.prog 61 #[.slice (some ⟨bk, o, none⟩) xs.length c, .string sep] w fun e w' => e = .returned (.string ⟨(Lib.join (xs.map (·.data.toList)) sep.data.toList).toArray⟩) ∧ Below w.heap.size w w' := Any.strings_Join Tryz.lays156 Tryz.Builder_Extra_156 bk o c xs sep w hcells hbk hN hcap hlen
end Go.Proofs.YtbjjbgaomoihaaaGreatDoor
namespace Go.Proofs.YtbjjbgaomoihaaaGreatDoor
open Go.RowKit
theorem lib_join : ∀ L : List By, Lib.join L [47] = joinL L
  | [] => rfl
  | [x] => Lib.join_one x [47]
  | x :: y :: t => by
    have ih := lib_join (y :: t)
    unfold Lib.join at ih ⊢
    rw [joinL, ← ih]
    simp [List.intercalate]
def ofB (l : By) : ByteArray := ⟨l.toArray⟩
theorem tl_ofB (l : By) : tl (ofB l) = l := by simp [tl, ofB]
theorem ofB_tl (s : ByteArray) : ofB (tl s) = s := ext_of _ _ (tl_ofB _)
theorem sJoin_any (v : Value) (L : List ByteArray) (w : World) (hv : HasT w v L) (hn : L.length ≤ 1048577) (hs : (joinL (L.map tl)).length ≤ 1048576) :
    Calls Tryz.prog 61 #[v, .string ⟨#[47]⟩] w fun e w' => e = .returned (.string (ofB (joinL (L.map tl)))) ∧ Below w.heap.size w w' := by
  rcases hv with ⟨rfl, rfl⟩ | ⟨a, cap, rfl, hc, hcell⟩
  · exact (Tryz.strings_Join_none none 0 ⟨#[47]⟩ w).mono fun e w' h => ⟨h.1, by rw [h.2]; exact Below.refl _ _⟩
  · cases L with
    | nil => exact (Tryz.strings_Join_none (some a) cap ⟨#[47]⟩ w).mono fun e w' h => ⟨h.1, by rw [h.2]; exact Below.refl _ _⟩
    | cons x L =>
      have h0 := hcell 0 x rfl
      have hadd : a.add 0 = a := by simp [Addr.add]
      rw [hadd] at h0
      obtain ⟨bk, o, sp⟩ := a
      have hsp : sp = none := by
        cases sp with
        | none => rfl
        | some q => simp only [World.cell?] at h0; split at h0 <;> simp at h0
      subst hsp
      have hE : (fun s : ByteArray => s.data.toList) = tl := by funext s; rw [tl, ByteArray.toList_eq]
      have hlen : (Lib.join ((x :: L).map (·.data.toList)) (ByteArray.data ⟨#[47]⟩).toList).length ≤ 140737488355328 := by
        rw [hE]
        show (Lib.join _ [47]).length ≤ _
        rw [lib_join]; omega
      refine (Tryz.strings_Join bk o cap (x :: L) ⟨#[47]⟩ w (fun j y hj => ?_) (World.block_lt_of_cell? w _ h0) (by omega) hc hlen).mono fun e w' h => ⟨?_, h.2⟩
      · have := hcell j y hj
        by_cases e : j = 0
        · subst e; rw [hadd] at this; exact this
        · simpa [Addr.add, e] using this
      · rw [h.1, hE]
        show Ending.returned (.string ⟨(Lib.join _ [47]).toArray⟩) = _
        rw [lib_join]; rfl
theorem pathJoin_any (v : Value) (L : List ByteArray) (w : World) (hv : HasT w v L) (hn : L.length ≤ 1048577) (hs : (joinL (L.map tl)).length ≤ 1048576) :
    Calls Tryz.prog 29 #[v] w fun e w' => e = .returned (.string (ofB (joinL (L.map tl)))) ∧ Below w.heap.size w w' := by
  have C := sJoin_any v L w hv hn hs
  obtain ⟨ao, cap, rfl, _⟩ := hv.form
  clear hv hs
  generalize ofB (joinL (L.map tl)) = z at *
  go_enter Tryz.func29, Tryz.ntmps29
  go_wp2_with (go_at_call 61; refine C.mono ?_; rintro e w1 ⟨rfl, b1⟩)
  go_ret
  exact ⟨rfl, b1⟩
def wsum : List ByteArray → Nat
  | [] => 0
  | s :: L => 1 + s.size + wsum L
theorem wsum_append (a b : List ByteArray) : wsum (a ++ b) = wsum a + wsum b := by
  induction a with
  | nil => simp [wsum]
  | cons x a ih => simp only [List.cons_append, wsum, ih]; omega
theorem len_wsum (a : List ByteArray) : a.length ≤ wsum a := by
  induction a with
  | nil => simp
  | cons x a ih => simp only [List.length_cons, wsum]; omega
theorem join_wsum : ∀ a : List ByteArray, (joinL (a.map tl)).length ≤ wsum a
  | [] => by simp [joinL]
  | [x] => by simp [joinL, wsum, tl_len]
  | x :: y :: a => by
    have ih := join_wsum (y :: a)
    simp only [List.map_cons, joinL, List.length_append, List.length_cons, tl_len] at ih ⊢
    simp only [wsum] at ih ⊢
    omega
theorem fault_wsum : ∀ (f : F) (prev : Option ByteArray) (L P : List ByteArray) (e : Int), faultF f prev L = some (P, e) → wsum P ≤ wsum L + f.weight
  | .nil, _, _, _, _, h => by cases h
  | .cons nm v m ks r, prev, L, P, e, h => by
    rw [faultF] at h
    have hw : wsum (L ++ [nm]) = wsum L + (1 + nm.size) := by rw [wsum_append]; simp [wsum]
    split at h
    · injection h with h; injection h with h1; subst h1; rw [hw, F.weight]; omega
    · split at h
      · injection h with h; injection h with h1; subst h1; rw [hw, F.weight]; omega
      · cases hx : faultF ks none (L ++ [nm]) with
        | some x =>
          rw [hx] at h
          injection h with h
          subst h
          have := fault_wsum ks none (L ++ [nm]) P e hx
          rw [hw] at this
          rw [F.weight]; omega
        | none =>
          rw [hx] at h
          have := fault_wsum r (some nm) L P e h
          rw [F.weight]; omega
theorem faultN_wsum {v : Vd} {m : Md} {ks : F} {P : List ByteArray} {e : Int} (h : faultN v m ks [] = some (P, e)) : wsum P ≤ ks.weight := by
  unfold faultN at h
  split at h
  · injection h with h; injection h with h1; subst h1; simp [wsum]
  · have := fault_wsum ks none [] P e h
    simpa [wsum] using this
theorem F.ok_of_weight : ∀ f : F, f.weight ≤ 9223372036854775807 → f.ok
  | .nil, _ => trivial
  | .cons nm v m ks r, h => by
    simp only [F.weight] at h
    have h1 := F.size_le_weight ks
    have h2 := F.len_le_size ks
    exact ⟨by omega, by omega, F.ok_of_weight ks (by omega), F.ok_of_weight r (by omega)⟩
theorem F.okL_of_weight (f : F) (h : f.weight ≤ 9223372036854775807) : f.okL := Nat.le_trans (F.size_le_weight f) h
def namesOf : Option (List ByteArray × Int) → List ByteArray
  | none => []
  | some (P, _) => P
def errOf : Option (List ByteArray × Int) → Int
  | none => 0
  | some (_, e) => e
theorem FaultRes.both {w : World} {u : Value} {er : Int} {r : Option (List ByteArray × Int)} (h : FaultRes w u er r) : HasT w u (namesOf r) ∧ er = errOf r := by
  cases r with
  | none => exact ⟨.inl ⟨h.2, rfl⟩, h.1⟩
  | some x => exact ⟨h.2.2, h.1⟩
theorem G.of_grown {w w' : World} (h : w.grownBy w' none) : G w w' := ⟨h.os, h.tape, h.output, h.size, fun k hk => h.block k hk (by simp)⟩
def checkP (v : Vd) (m : Md) (ks : F) : ByteArray := ofB (joinL ((namesOf (faultN v m ks [])).map tl))
def checkE (v : Vd) (m : Md) (ks : F) : Int := errOf (faultN v m ks [])
theorem names_wsum (v : Vd) (m : Md) (ks : F) : wsum (namesOf (faultN v m ks [])) ≤ ks.weight := by
  cases h : faultN v m ks [] with
  | none => simp [namesOf, wsum]
  | some x => exact faultN_wsum (e := x.2) h
theorem tcheck_any (c : Array Value) (nm : ByteArray) (v : Vd) (m : Md) (ks : F) (w : World) (hN : HasN w c nm v m ks) (hw : ks.weight ≤ 100000) :
    Calls Tryz.prog 14 #[.agg c] w fun e w' => e = .returned (.tuple #[.string (checkP v m ks), .int .i64 (checkE v m ks)]) ∧ G w w' := by
  obtain ⟨kv, hc, hS⟩ := hN
  have hB : G w (w.alloc (.cells c 30)) := G.alloc _ _
  have hl := lies_new w c 30
  rw [hc] at hl
  have C1 := fault_any (w.alloc (.cells (nc nm v m kv) 30)) (ks.size + 1) ks (Nat.lt_succ_self _) w.heap.size 0 nm v m kv hl (by rw [← hc]; exact hS.below hB) (F.okL_of_weight _ (by omega)) (F.ok_of_weight _ (by omega)) (w.alloc (.cells (nc nm v m kv) 30)) (.slice none 0 0) [] (Below.refl _ _) (OwnsT.nil _ _) (by simp)
  rw [← hc] at C1
  have HG : Hid (G w (w.alloc (.cells c 30))) := hB
  have hws := names_wsum v m ks
  have C2 : Hid (∀ (W : World) (u : Value), HasT W u (namesOf (faultN v m ks [])) → Calls Tryz.prog 29 #[u] W fun e w' => e = .returned (.string (checkP v m ks)) ∧ G W w') := fun W u h => pathJoin_any u _ W h (by have := len_wsum (namesOf (faultN v m ks [])); omega) (by have := join_wsum (namesOf (faultN v m ks [])); omega)
  have HE : Hid (errOf (faultN v m ks []) = checkE v m ks) := rfl
  generalize checkP v m ks = cp at *
  generalize checkE v m ks = ce at *
  clear hl hc hS hB hw hws
  go_enter Tryz.func14, Tryz.ntmps14
  go_upto_region 1 with fail
  generalize w.alloc (.cells c 30) = w1 at *
  generalize w.heap.size = H at *
  go_wp2_with (first
    | (go_at_call 28; refine C1.mono ?_; rintro e w2 ⟨u, er, rfl, hg2, _, hres⟩; obtain ⟨hT, her⟩ := hres.both; rw [HE.out] at her; subst her; have CJ := C2.out w2 u hT; have HG2 : Hid (G w w2) := HG.out.trans (G.of_grown hg2); obtain ⟨au, cu, hu, _⟩ := hT.form; subst hu; clear C1 C2 hT hg2 hres)
    | (go_at_call 29; refine CJ.mono ?_; rintro e w3 ⟨rfl, g3⟩))
  go_ret2
  exact ⟨rfl, HG2.out.trans g3⟩
def OfRes (w : World) (u : Value) (ce : Int) (v : Vd) (m : Md) (ks : F) : Prop := (ce ≠ 0 ∧ u = .pointer none) ∨ (ce = 0 ∧ ∃ p k, u = .pointer (some ⟨p, 0, none⟩) ∧ AtT w p v m k ∧ k.flat = ks)
theorem of_any (c : Array Value) (nm : ByteArray) (v : Vd) (m : Md) (ks : F) (w : World) (hN : HasN w c nm v m ks) (hw : ks.weight ≤ 100000) :
    Calls Tryz.prog 12 #[.agg c] w fun e w' => ∃ u, e = .returned (.tuple #[u, .int .i64 (checkE v m ks)]) ∧ G w w' ∧ OfRes w' u (checkE v m ks) v m ks := by
  have hB : G w (w.alloc (.cells c 30)) := G.alloc _ _
  have C1 := tcheck_any c nm v m ks (w.alloc (.cells c 30)) (hN.below hB) hw
  obtain ⟨kv, hc, hS⟩ := hN
  have hl := lies_new w c 30
  have HL : Hid (Lies (w.alloc (.cells c 30)) w.heap.size 0 c ∧ c.size = 41) := ⟨hl, by rw [hc]; exact nc_size ..⟩
  have C2 := hid (fun (W : World) (hW : G (w.alloc (.cells c 30)) W) => made_any w.heap.size 0 nm v m kv ks W (by have := hW.lies hl; rw [hc] at this; exact this) ((hS.below hB).below hW) (F.okL_of_weight _ (by omega)) (children_any (ks.size + 1) ks (Nat.lt_succ_self _)))
  have HG : Hid (G w (w.alloc (.cells c 30))) := hB
  generalize checkP v m ks = cp at *
  generalize checkE v m ks = ce at *
  clear hl hc hS hB hw
  go_enter Tryz.func12, Tryz.ntmps12
  go_upto_region 1 with fail
  generalize w.alloc (.cells c 30) = w1 at *
  generalize w.heap.size = H at *
  by_cases h0 : ce = 0
  · subst h0
    go_wp2_with (first
      | (with_reducible refine wpList_exec (.agg c) ?_ ?_ ?_; exact exec_load30 _ rfl H 0 rfl c HL.out.2 HL.out.1; kernel_rfl)
      | (go_at_call 14; refine C1.mono ?_; rintro e w2 ⟨rfl, g2⟩; have CM := C2.out w2 g2; have HG2 : Hid (G w w2) := HG.out.trans g2; clear C1 C2 g2)
      | (go_at_call 26; refine CM.mono ?_; rintro e w3 ⟨p, k, rfl, h3⟩; have H3 := hid h3; clear h3 CM))
    go_ret2
    exact ⟨_, rfl, HG2.out.trans H3.out.2.2, .inr ⟨rfl, p, k, rfl, H3.out.1, H3.out.2.1⟩⟩
  · have h0' : (ce != 0) = true := by simpa using h0
    have H0 : Hid (ce ≠ 0) := h0
    clear h0
    go_wp2_with (first
      | (with_reducible refine wpList_exec (.agg c) ?_ ?_ ?_; exact exec_load30 _ rfl H 0 rfl c HL.out.2 HL.out.1; kernel_rfl)
      | (go_at_call 14; refine C1.mono ?_; rintro e w2 ⟨rfl, g2⟩; have HG2 : Hid (G w w2) := HG.out.trans g2; clear C1 C2 g2))
    go_ret2
    exact ⟨_, rfl, HG2.out, .inl ⟨H0.out, rfl⟩⟩
theorem wpList_execW {ops : Array Oper} {rest : List Oper} {o : Oper} {a : Act} {w : World} {Q : Exit → Act → World → Prop} (v : Value) (w' : World)
    (he : (execOp a.eval o).run Tryz.prog w = .ok (.value v) w') (hw : Region.wanted o (yielded ops a.tmps) = true) (h : wpList Tryz.prog ops Q rest (a.put o.dst v) w') : wpList Tryz.prog ops Q (o :: rest) a w := by
  refine wpList_step fun K hK => ?_
  rw [if_pos hw]
  unfold Oper.wp
  rw [he, Oper.upon_value]
  exact hK _ _ h
theorem wpList_skipW {ops : Array Oper} {rest : List Oper} {o : Oper} {a : Act} {w : World} {Q : Exit → Act → World → Prop} (w' : World)
    (he : (execOp a.eval o).run Tryz.prog w = .ok .skip w') (hw : Region.wanted o (yielded ops a.tmps) = true) (h : wpList Tryz.prog ops Q rest (a.put o.dst undef) w') : wpList Tryz.prog ops Q (o :: rest) a w := by
  refine wpList_step fun K hK => ?_
  rw [if_pos hw]
  unfold Oper.wp
  rw [he, Oper.upon_skip]
  exact hK _ _ h
def Vd.zero : Vd := ⟨0, 0, 0, zeros, by simp [zeros]⟩
def z30 : Array Value := nc ⟨#[]⟩ Vd.zero Md.zero (.slice none 0 0)
theorem zero30 : (Tryz.prog.info? 30).bind (·.zero) = some (.agg z30) := by kernel_rfl
theorem z30_size : z30.size = 41 := nc_size ..
theorem run_zero30 (w : World) : (zeroValue 30).run Tryz.prog w = .ok (.agg z30) w := by
  have h := zero30
  cases hq : Tryz.prog.info? 30 with
  | none => rw [hq] at h; cases h
  | some i =>
    rw [hq] at h
    simp only [Option.bind_some] at h
    simp [zeroValue, typeInfo, hq, h]
theorem exec_alloc30 {o : Oper} {a : Act} (ho : o.op = .alloc 30) (w : World) : (execOp a.eval o).run Tryz.prog w = .ok (.value (.pointer (some ⟨w.heap.size, 0, none⟩))) (w.alloc (.cells z30 30)) := by
  unfold execOp
  simp only [ho, Instr.alloc, Sem.run_bind, run_zero30, Result.andThen_ok]
  simp [newVar, newRow, newObj, Value.cells]
  rfl
def Var (w : World) (g : Nat) (c : Array Value) : Prop := w.heap[g]? = some (.cells c 30 (0, 0))
theorem Var.lies {w : World} {g : Nat} {c : Array Value} (h : Var w g c) : Lies w g 0 c := fun j u hj => by
  have h' : w.heap[g]? = some (.cells c 30 (0, 0)) := h
  simp only [World.cell?, h', Nat.zero_add]
  exact hj
theorem Var.lt {w : World} {g : Nat} {c : Array Value} (h : Var w g c) : g < w.heap.size := (Array.getElem?_eq_some_iff.1 h).1
theorem Var.new (w : World) (c : Array Value) : Var (w.alloc (.cells c 30)) w.heap.size c := World.alloc_heap_new w _
theorem Var.grow {w w' : World} {g : Nat} {c : Array Value} (h : Var w g c) (hg : G w w') : Var w' g c := (Below.block hg g h.lt).trans h
theorem exec_store30 {o : Oper} {a : Act} (x y : Operand) (ho : o.op = .store 30 x y) (g : Nat) (c old : Array Value) (hx : a.eval x = .pointer (some ⟨g, 0, none⟩)) (hy : a.eval y = .agg c) (w : World) (hg : Var w g old)
    (hs : c.size = 41) (hs' : old.size = 41) (h1 : c.all (·.oneCell') = true) : (execOp a.eval o).run Tryz.prog w = .ok .skip (w.setRow g c) := by
  unfold execOp
  simp only [ho, hx, hy, Instr.storeAt, Instr.sureAddr, Sem.run_bind, Sem.run_pure, Result.andThen_ok, run_storeVar_row (P := Tryz.prog) w g 30 30 old c hg (by rw [size30, hs]) (by rw [hs, hs']) h1]
theorem Var.set {w : World} {g : Nat} {c old : Array Value} (h : Var w g old) : Var (w.setRow g c) g c := setRow_heap w g old c 30 _ h
theorem But.setRow {K : Nat} {a b : World} (h : But K a b) (cs : Array Value) : But K a (b.setRow K cs) :=
  ⟨h.os, h.tape, h.output, by simpa using h.size, fun j hj hn => (setRow_other b K j cs (fun e => hn e)).trans (h.block j hj hn)⟩
theorem nc_one (nm : ByteArray) (v : Vd) (m : Md) (kv : Value) (h : kv.oneCell' = true) : (nc nm v m kv).all (·.oneCell') = true := by
  rw [Array.all_eq_true_iff_forall_mem]
  intro x hx
  simp only [nc, vx, mx, List.mem_toArray, List.mem_cons, List.mem_append, List.mem_map, List.not_mem_nil, or_false] at hx
  rcases hx with rfl | (rfl | rfl | rfl | ⟨b, _, rfl⟩) | (rfl | rfl | rfl | rfl) | rfl <;> first | rfl | exact h
theorem new_var (w : World) (c : Array Value) : G w ((w.alloc (.cells z30 30)).setRow w.heap.size c) ∧ Var ((w.alloc (.cells z30 30)).setRow w.heap.size c) w.heap.size c ∧ ((w.alloc (.cells z30 30)).setRow w.heap.size c).heap.size = w.heap.size + 1 := by
  have h := (But.setRow (K := w.heap.size) ((But.refl _ w).alloc (.cells z30 30)) c)
  exact ⟨h.below (Nat.le_refl _) (Nat.le_refl _), (Var.new w z30).set, by simp⟩
def HasRP (w : World) (P : Nat → Prop) : F → Nat → Nat → Prop
  | .nil, _, _ => True
  | .cons nm v m kids rest, g, o => (∃ a cap, Lies w g o (nc nm v m (.slice a kids.len cap)) ∧ (kids.len ≤ cap ∧ (kids = .nil ∨ ∃ g' o', a = some ⟨g', o', none⟩ ∧ P g' ∧ HasRP w P kids g' o'))) ∧ HasRP w P rest g (o + 41)
def HasSP (w : World) (P : Nat → Prop) (v : Value) (f : F) : Prop := ∃ a cap, v = .slice a f.len cap ∧ f.len ≤ cap ∧ (f = .nil ∨ ∃ g o, a = some ⟨g, o, none⟩ ∧ P g ∧ HasRP w P f g o)
def HasNP (w : World) (P : Nat → Prop) (c : Array Value) (nm : ByteArray) (v : Vd) (m : Md) (ks : F) : Prop := ∃ kv, c = nc nm v m kv ∧ HasSP w P kv ks
theorem HasRP.has {w : World} {P : Nat → Prop} : ∀ {f : F} {g o : Nat}, HasRP w P f g o → HasR w f g o
  | .nil, _, _, _ => trivial
  | .cons _ _ _ _ _, _, _, ⟨⟨a, cap, hc, hl, hk⟩, hr⟩ => ⟨⟨a, cap, hc, hl, hk.imp id fun ⟨g', o', ha, _, h⟩ => ⟨g', o', ha, HasRP.has h⟩⟩, HasRP.has hr⟩
theorem HasSP.has {w : World} {P : Nat → Prop} {v : Value} {f : F} (h : HasSP w P v f) : HasS w v f := by
  obtain ⟨a, cap, hv, hl, h⟩ := h
  exact ⟨a, cap, hv, hl, h.imp id fun ⟨g, o, ha, _, h⟩ => ⟨g, o, ha, h.has⟩⟩
theorem HasNP.has {w : World} {P : Nat → Prop} {c : Array Value} {nm : ByteArray} {v : Vd} {m : Md} {ks : F} (h : HasNP w P c nm v m ks) : HasN w c nm v m ks := by
  obtain ⟨kv, hc, h⟩ := h
  exact ⟨kv, hc, h.has⟩
theorem Lies.same {w w' : World} {g o : Nat} {c : Array Value} (h : Lies w g o c) (hb : w'.heap[g]? = w.heap[g]?) : Lies w' g o c := fun j u hj => (World.cell?_of_block (w := w) (a := ⟨g, o + j, none⟩) hb).trans (h j u hj)
theorem HasRP.keep {w w' : World} {P P' : Nat → Prop} (hP : ∀ b, P b → w'.heap[b]? = w.heap[b]? ∧ P' b) : ∀ {f : F} {g o : Nat}, HasRP w P f g o → w'.heap[g]? = w.heap[g]? → HasRP w' P' f g o
  | .nil, _, _, _, _ => trivial
  | .cons _ _ _ _ _, _, _, ⟨⟨a, cap, hc, hl, hk⟩, hr⟩, hg => ⟨⟨a, cap, hc.same hg, hl, hk.imp id fun ⟨g', o', ha, hp, h⟩ => ⟨g', o', ha, (hP _ hp).2, HasRP.keep hP h (hP _ hp).1⟩⟩, HasRP.keep hP hr hg⟩
theorem HasSP.keep {w w' : World} {P P' : Nat → Prop} {v : Value} {f : F} (h : HasSP w P v f) (hP : ∀ b, P b → w'.heap[b]? = w.heap[b]? ∧ P' b) : HasSP w' P' v f := by
  obtain ⟨a, cap, hv, hl, h⟩ := h
  exact ⟨a, cap, hv, hl, h.imp id fun ⟨g, o, ha, hp, h⟩ => ⟨g, o, ha, (hP _ hp).2, h.keep hP (hP _ hp).1⟩⟩
def RCells (w : World) (P : Nat → Prop) : F → List Value → Prop
  | .nil, xs => xs = []
  | .cons nm v m ks r, xs => ∃ kv xs', xs = (nc nm v m kv).toList ++ xs' ∧ HasSP w P kv ks ∧ RCells w P r xs'
theorem RCells.len {w : World} {P : Nat → Prop} : ∀ {f : F} {xs : List Value}, RCells w P f xs → xs.length = f.len * 41
  | .nil, _, h => by rw [h]; simp [F.len]
  | .cons nm v m ks r, xs, ⟨kv, xs', h, _, hr⟩ => by rw [h, List.length_append, RCells.len hr, F.len]; simp [nc_size]; omega
theorem RCells.snoc {w : World} {P : Nat → Prop} {nm : ByteArray} {v : Vd} {m : Md} {kv : Value} {ks : F} (hk : HasSP w P kv ks) : ∀ {f : F} {xs : List Value}, RCells w P f xs → RCells w P (f.app (.cons nm v m ks .nil)) (xs ++ (nc nm v m kv).toList)
  | .nil, xs, h => ⟨kv, [], by rw [h]; simp, hk, rfl⟩
  | .cons _ _ _ _ r, xs, ⟨kv', xs', h, hs, hr⟩ => ⟨kv', xs' ++ (nc nm v m kv).toList, by rw [h, List.append_assoc], hs, RCells.snoc hk hr⟩
theorem RCells.keep {w w' : World} {P P' : Nat → Prop} (hP : ∀ b, P b → w'.heap[b]? = w.heap[b]? ∧ P' b) : ∀ {f : F} {xs : List Value}, RCells w P f xs → RCells w' P' f xs
  | .nil, _, h => h
  | .cons _ _ _ _ _, _, ⟨kv, xs', h, hs, hr⟩ => ⟨kv, xs', h, hs.keep hP, RCells.keep hP hr⟩
theorem RCells.row {w : World} {P : Nat → Prop} {g : Nat} : ∀ {f : F} {xs : List Value} {o : Nat}, RCells w P f xs → (∀ j u, xs[j]? = some u → w.cell? ⟨g, o + j, none⟩ = some u) → HasRP w P f g o
  | .nil, _, _, _, _ => trivial
  | .cons nm v m ks r, xs, o, ⟨kv, xs', h, hs, hr⟩, hc => by
    subst h
    obtain ⟨a, cap, rfl, hl, hk⟩ := hs
    have h41 : (nc nm v m (.slice a ks.len cap)).toList.length = 41 := by simp [nc_size]
    refine ⟨⟨a, cap, fun j u hj => hc j u ?_, hl, hk⟩, RCells.row hr fun j u hj => ?_⟩
    · have hlt := (Array.getElem?_eq_some_iff.1 hj).1
      rw [nc_size] at hlt
      rw [List.getElem?_append_left (by omega)]
      simpa using hj
    · have := hc (41 + j) u (by rw [List.getElem?_append_right (by omega), h41]; simpa using hj)
      rw [show o + 41 + j = o + (41 + j) by omega]
      exact this
theorem RCells.slice {w : World} {P : Nat → Prop} {lo : Nat} {f : F} {xs : List Value} {v : Value} (h : RCells w P f xs) (ho : w.ownsRow lo 30 41 v f.len xs) (hP : ∀ g, v.ownBlock = some g → P g) : HasSP w P v f := by
  have h0 := ho
  obtain ⟨_, q | ⟨g, cap, cur, rfl, hb, hh, hn, hm, hs, ht⟩⟩ := ho
  · obtain ⟨rfl, hl⟩ := q
    have : f = .nil := by
      cases f with
      | nil => rfl
      | cons => simp [F.len] at hl
    subst this
    exact ⟨none, 0, rfl, Nat.le_refl _, .inl rfl⟩
  · refine ⟨_, cap, rfl, hn, .inr ⟨g, 0, rfl, hP g rfl, h.row fun j u hj => ?_⟩⟩
    have := World.ownsRow.cells h0 (g := g) rfl j u hj
    rwa [show ((⟨g, 0, none⟩ : Addr).add j) = ⟨g, 0 + j, none⟩ from Addr.add_mid g 0 j] at this
theorem info30 : (Tryz.prog.info? 30).map (fun i => (i.zero, i.size, i.bytes)) = some (some (.agg z30), 41, 128) := by kernel_rfl
theorem exec_slice1 {o : Oper} {a : Act} (x : Operand) (ho : o.op = .buildSlice 28 1 #[(0, x)]) (c : Array Value) (hx : a.eval x = .agg c) (hs : c.size = 41) (w : World) :
    (execOp a.eval o).run Tryz.prog w = .ok (.value (.slice (some ⟨w.heap.size, 0, none⟩) 1 1)) (w.alloc (.cells c 30)) := by
  obtain ⟨i0, hi, hz0, hz1, hz2⟩ := info_parts info30
  have hf : Instr.fill (fun i => some (i * 41, 41)) ((Array.range (1 * 41)).map (z30[· % z30.size]!)) [(0, .agg c)] = some c := by
    obtain ⟨z, hz, hzl⟩ : ∃ z : List Value, ((Array.range (1 * 41)).map (z30[· % z30.size]!)) = z.toArray ∧ z.length = 41 := ⟨((Array.range (1 * 41)).map (z30[· % z30.size]!)).toList, Array.toArray_toList.symm, by simp⟩
    rw [hz, fill_cons _ z 0 0 41 _ c.toList _ rfl (by simp [Value.cells]) (by simpa using hs) (by omega), Instr.fill]
    have hd : z.drop 41 = [] := List.drop_of_length_le (by omega)
    simp [over, hs, hd]
  have hsz : (sizeOf 30).run Tryz.prog w = .ok 41 w := by simp [sizeOf, typeInfo, hi, hz1]
  have hzv := run_zero30 w
  generalize z30 = zz at hf hzv
  have hb : (Instr.buildSlice 28 1 #[(0, .agg c)]).run Tryz.prog w = .ok (.slice (some ⟨w.heap.size, 0, none⟩) 1 1) (w.alloc (.cells c 30)) := by
    unfold Instr.buildSlice
    simp only [Sem.run_bind, run_underlying Tryz.underlying28, Result.andThen_ok, hsz]
    have h1 : ¬ (1 * 41 > 2 ^ 24) := by omega
    have h2 : ¬ (1 * 41 = 0) := by omega
    simp only [h1, h2, if_false, Sem.run_bind, Sem.run_pure, Result.andThen_ok, hzv, Value.cells, hf]
    rfl
  unfold execOp
  simp only [ho]
  have hmap : (#[(0, x)].map fun (p : Nat × Operand) => match p with | (i, x) => (i, a.eval x)) = #[(0, .agg c)] := by simp [hx]
  rw [hmap]
  simp only [Sem.run_bind, hb, Result.andThen_ok, Sem.run_pure]
theorem nc_kset (nm : ByteArray) (v : Vd) (m : Md) (kv kv' : Value) : (nc nm v m kv).setIfInBounds 40 kv' = nc nm v m kv' := by
  simp only [nc, List.setIfInBounds_toArray, List.set_cons_succ]
  rw [List.set_append_right _ _ (by simp [vx_len]), vx_len, List.set_append_right _ _ (by simp [mx_len])]
  simp [mx_len]
theorem nc_nset (nm nm' : ByteArray) (v : Vd) (m : Md) (kv : Value) : (nc nm v m kv).setIfInBounds 0 (.string nm') = nc nm' v m kv := by
  simp [nc]
end Go.Proofs.YtbjjbgaomoihaaaGreatDoor
