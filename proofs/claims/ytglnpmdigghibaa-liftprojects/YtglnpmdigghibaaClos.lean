/-
  lift.Project's own function by contract: it gives names, and drops what a version has no room for.
-/
import Derived.Test.YtglnpmdigghibaaProj
import Derived.Test.YtglnpmdigghibaaNode
namespace Go.Proofs.Ytglnpmdigghibaa
open Go.RowKit

def F.nameL : F → List ByteArray
  | .nil => []
  | .cons n _ _ _ r => n :: r.nameL
def F.blank : F → F
  | .nil => .nil
  | .cons _ v m k r => .cons ⟨#[]⟩ v m k r.blank
/-- the first i things have the names of a list -/
def F.nm : F → List ByteArray → Nat → F
  | .cons _ v m k r, x :: L, i + 1 => .cons x v m k (r.nm L i)
  | f, _, _ => f
theorem F.nm_zero : ∀ (f : F) (L : List ByteArray), f.nm L 0 = f
  | .nil, _ => rfl
  | .cons .., [] => rfl
  | .cons .., _ :: _ => rfl
theorem F.nm_blank : ∀ f : F, f.blank.nm f.nameL f.len = f
  | .nil => rfl
  | .cons n v m k r => by rw [F.blank, F.nameL, F.len, F.nm, F.nm_blank r]
theorem F.nm_len : ∀ (f : F) (L : List ByteArray) (i : Nat), (f.nm L i).len = f.len
  | .nil, L, i => by cases L <;> cases i <;> rfl
  | .cons .., [], _ => rfl
  | .cons .., _ :: _, 0 => rfl
  | .cons n v m k r, x :: L, i + 1 => by rw [F.nm, F.len, F.len, F.nm_len r L i]
theorem F.blank_len : ∀ f : F, f.blank.len = f.len
  | .nil => rfl
  | .cons _ _ _ _ r => by rw [F.blank, F.len, F.len, F.blank_len r]
theorem F.nameL_len : ∀ f : F, f.nameL.length = f.len
  | .nil => rfl
  | .cons _ _ _ _ r => by rw [F.nameL, F.len, List.length_cons, F.nameL_len r]
theorem RCells.nm {w : World} {T : Nat → Prop} : ∀ {f : F} {L : List ByteArray} {i : Nat} {x : ByteArray} {xs : List Value}, RCells w T (f.nm L i) xs → L[i]? = some x → i < f.len → RCells w T (f.nm L (i + 1)) (xs.set (i * 41) (.string x))
  | .nil, _, _, _, _, _, _, h => by simp [F.len] at h
  | .cons .., [], _, _, _, _, h, _ => by simp at h
  | .cons n v m k r, y :: L, 0, x, xs, ⟨kv, xs', h1, h2, h3⟩, h, _ => by
    simp at h
    subst h
    rw [F.nm, F.nm_zero]
    refine ⟨kv, xs', ?_, h2, h3⟩
    rw [h1]
    simp [nc]
  | .cons n v m k r, y :: L, i + 1, x, xs, ⟨kv, xs', h1, h2, h3⟩, h, hl => by
    rw [F.nm]
    refine ⟨kv, xs'.set (i * 41) (.string x), ?_, h2, RCells.nm h3 (by simpa using h) (by simp only [F.len] at hl; omega)⟩
    rw [h1, List.set_append_right _ _ (by simp [nc_size]; omega)]
    congr 2
    simp [nc_size]
    omega
def Var24 (w : World) (g : Nat) (c : Array Value) : Prop := w.heap[g]? = some (.cells c 24 (0, 0))
theorem Var24.lt {w : World} {g : Nat} {c : Array Value} (h : Var24 w g c) : g < w.heap.size := (Array.getElem?_eq_some_iff.1 h).1
theorem Var24.grow {w w' : World} {g : Nat} {c : Array Value} (h : Var24 w g c) (hg : G w w') : Var24 w' g c := (Below.block hg g h.lt).trans h
theorem vx_size (v : Vd) : (vx v).toArray.size = 35 := by simp [vx_len]
theorem Var24.setCell {w : World} {g : Nat} {c : Array Value} (h : Var24 w g c) (j : Nat) (x : Value) : Var24 (w.setCell ⟨g, j, none⟩ x) g (c.setIfInBounds j x) := by
  have h' : w.heap[g]? = some (.cells c 24 (0, 0)) := h
  unfold Var24 World.setCell
  simp only []
  rw [Array.getElem?_modify]
  simp [h']
theorem vx_mset (v : Vd) (x : Int) : (vx v).toArray.setIfInBounds 1 (.int .i64 x) = (vx { v with mode := x }).toArray := by simp [vx]
theorem Var24.lies {w : World} {g : Nat} {c : Array Value} (h : Var24 w g c) : Lies w g 0 c := fun j u hj => by
  rw [Nat.zero_add, World.cell?, h]
  exact hj
set_option maxRecDepth 100000 in
/-- a thing of its value and its children -/
theorem build30k (v : Vd) (a : Option Addr) (n cap : Nat) (w : World) : (Instr.build 30 #[(1, .agg (vx v).toArray), (3, .slice a n cap)]).run Try.prog w = .ok (.agg (nc ⟨#[]⟩ v Md.zero (.slice a n cap))) w := by
  refine run_build w 30 _ _ ?_
  have hz : ∃ z : List Value, (Try.prog.info? 30).bind (·.zero) = some (.agg (List.toArray (.string ⟨#[]⟩ :: (z ++ (mx Md.zero ++ [.slice none 0 0]))))) ∧ z.length = 35 := ⟨vx Vd.zero, by kernel_rfl, by kernel_rfl⟩
  obtain ⟨z, hz, hl⟩ := hz
  have hp : (Try.prog.fieldsOf 30).toList.mapM (fun f => (Try.prog.info? f.type).map fun i => (f.offset, i.size)) = some [(0, 1), (1, 35), (36, 4), (40, 1)] := by kernel_rfl
  have hu2 : Try.prog.underlying 30 = some (.struct (Try.prog.fieldsOf 30)) := by kernel_rfl
  unfold Program.built
  cases hi : Try.prog.info? 30 with
  | none => rw [hi] at hz; cases hz
  | some it =>
    rw [hi] at hz
    simp only [Option.bind_some] at hz
    simp only [hu2, hz, hp]
    show Instr.fill _ (List.toArray _) _ = _
    have hx := vx_len v
    have hm := mx_len Md.zero
    rw [fill_cons _ _ 1 1 35 _ (vx v) _ rfl rfl hx (by simp; omega), fill_cons _ _ 3 40 1 _ [.slice a n cap] _ rfl rfl rfl (by simp [over, hx]; omega), Instr.fill]
    simp only [over, nc, hx]
    refine congrArg some (congrArg List.toArray ?_)
    simp only [List.take_succ_cons, List.take_zero, List.cons_append, List.nil_append, List.drop_succ_cons, Nat.reduceAdd, List.length_cons, List.length_nil]
    have d1 : (z ++ (mx Md.zero ++ [Value.slice none 0 0])).drop 35 = mx Md.zero ++ [Value.slice none 0 0] := by
      rw [List.drop_append, hl, List.drop_of_length_le (by omega)]; rfl
    rw [d1]
    have t1 : (vx v ++ (mx Md.zero ++ [Value.slice none 0 0])).take 39 = vx v ++ mx Md.zero := by
      rw [List.take_append, hx, List.take_of_length_le (by omega)]; rfl
    have t2 : (vx v ++ (mx Md.zero ++ [Value.slice none 0 0])).drop 40 = [] := by
      rw [List.drop_of_length_le (by simp [hx, hm])]
    rw [t1, t2]
    simp
theorem exec_build30k {o : Oper} {a : Act} (parts : Array (Nat × Operand)) (ho : o.op = .build 30 parts) (v : Vd) (X : Array Value) (hX : X = (vx v).toArray) (aa : Option Addr) (n cap : Nat)
    (hp : (parts.map fun (p : Nat × Operand) => (p.1, a.eval p.2)) = #[(1, .agg X), (3, .slice aa n cap)]) (w : World) : (execOp a.eval o).run Try.prog w = .ok (.value (.agg (nc ⟨#[]⟩ v Md.zero (.slice aa n cap)))) w := by
  subst hX
  unfold execOp
  simp only [ho]
  have : (parts.map fun (x : Nat × Operand) => match x with | (i, x) => (i, a.eval x)) = #[(1, .agg (vx v).toArray), (3, .slice aa n cap)] := hp
  rw [this]
  simp only [Sem.run_bind, build30k v aa n cap w, Result.andThen_ok, Sem.run_pure]
/-- what the loop holds -/
structure CL (w wr : World) (B lo n k : Nat) (X : Array Value) (ut : Value) (T : Nat → Prop) (fs : F) (L : List ByteArray) : Prop where
  g : (w.grownBy wr ut.ownBlock)
  x : Var24 wr B X
  z : Var wr (B + 2) z30
  r : ∃ xs, wr.ownsRow lo 30 41 ut n xs ∧ RCells wr T (fs.nm L k) xs
theorem CL.step {w wr : World} {B lo n k : Nat} {X : Array Value} {g cap : Nat} {T : Nat → Prop} {fs : F} {L : List ByteArray} {x : ByteArray} (h : CL w wr B lo n k X (.slice (some ⟨g, 0, none⟩) n cap) T fs L) (hB : w.heap.size = B) (hg : g < w.heap.size) (hT : ∀ b, T b → b < w.heap.size ∧ b ≠ g) (hx : L[k]? = some x) (hk : k < fs.len) :
    CL w (wr.setCell ⟨g, k * 41, none⟩ (.string x)) B lo n (k + 1) X (.slice (some ⟨g, 0, none⟩) n cap) T fs L := by
  obtain ⟨xs, h1, h2⟩ := h.r
  obtain ⟨r1, r2⟩ := h1.stored (k * 41) (.string x)
  have hb : ∀ b, b ≠ g → (wr.setCell ⟨g, k * 41, none⟩ (.string x)).heap[b]? = wr.heap[b]? := fun b hb => Below.heap_setCell _ _ _ _ hb
  refine ⟨h.g.trans r2, (hb B (by omega)).trans h.x, (hb (B + 2) (by omega)).trans h.z, xs.set (k * 41) (.string x), r1, ?_⟩
  exact RCells.keep (fun b hT2 => ⟨hb b (hT b hT2).2, hT2⟩) (h2.nm hx hk)
set_option maxRecDepth 100000 in
set_option maxHeartbeats 4000000 in
theorem clos_any (ver : Int) (q : ByteArray) (v : Vd) (m : Md) (un : Value) (a : Option Addr) (n cap : Nat) (L : List ByteArray) (fs : F) (xs : List Value) (T : Nat → Prop) (lo Bv : Nat) (w : World)
    (hver : w.cell? ⟨Bv, 0, none⟩ = some (.int .i64 ver)) (hL : L.length = n) (hf : fs.len = n) (hn : n ≤ 100000) (hU : ∀ W, w.grownBy W (Value.slice a n cap).ownBlock → HasT W un L)
    (hO : w.ownsRow lo 30 41 (.slice a n cap) n xs) (hR : RCells w T fs xs) (hT : ∀ b, T b → b < w.heap.size ∧ some b ≠ (Value.slice a n cap).ownBlock) :
    Calls Try.prog 21 #[.string q, .agg (vx v).toArray, .agg (mx m).toArray, un, .slice a n cap, .pointer (some ⟨Bv, 0, none⟩)] w fun e w' => ∃ xs', e = .returned (.agg (nc ⟨#[]⟩ (pv ver v) Md.zero (.slice a n cap))) ∧ w.grownBy w' (Value.slice a n cap).ownBlock ∧ w'.ownsRow lo 30 41 (.slice a n cap) n xs' ∧ RCells w' T (fs.nm L n) xs' := by
  obtain ⟨ao, cu, rfl, _⟩ := (hU w ⟨rfl, rfl, rfl, Nat.le_refl _, fun _ _ _ => rfl⟩).form
  rw [hL] at hU ⊢
  obtain ⟨X, hX⟩ : ∃ X, (vx v).toArray = X := ⟨_, rfl⟩
  obtain ⟨M, hM⟩ : ∃ M, (mx m).toArray = M := ⟨_, rfl⟩
  rw [hX, hM]
  obtain ⟨B, hB⟩ : ∃ B, w.heap.size = B := ⟨_, rfl⟩
  have hG1 : G w (((w.alloc (.cells X 24)).alloc (.cells M 27)).alloc (.cells z30 30)) := ((G.alloc _ _).trans (G.alloc _ _)).trans (G.alloc _ _)
  have hVX : Var24 (((w.alloc (.cells X 24)).alloc (.cells M 27)).alloc (.cells z30 30)) B X := by
    have h : Var24 (w.alloc (.cells X 24)) w.heap.size X := World.alloc_heap_new w _
    rw [hB] at h
    exact (h.grow (G.alloc _ _)).grow (G.alloc _ _)
  have hVZ : Var (((w.alloc (.cells X 24)).alloc (.cells M 27)).alloc (.cells z30 30)) (B + 2) z30 := by
    have h := Var.new ((w.alloc (.cells X 24)).alloc (.cells M 27)) z30
    rw [World.size_alloc, World.size_alloc, hB] at h
    exact h
  have hcv := hG1.cell hver
  have H1 := hid (⟨hG1, hVX, hVZ⟩ : _ ∧ _ ∧ _)
  have hk0 := lies_cell hVX.lies 0 (.int .i64 v.kind) (by rw [← hX]; rfl)
  have hk1 := lies_cell hVX.lies 1 (.int .i64 v.mode) (by rw [← hX]; rfl)
  have hfz : (((w.alloc (.cells X 24)).alloc (.cells M 27)).alloc (.cells z30 30)).frozen? ⟨B, 1, none⟩ = false := by
    have h' : (((w.alloc (.cells X 24)).alloc (.cells M 27)).alloc (.cells z30 30)).heap[B]? = some (.cells X 24 (0, 0)) := hVX
    simp [World.frozen?, h']
  obtain ⟨kd, hkd⟩ : ∃ kd, v.kind = kd := ⟨_, rfl⟩
  rw [hkd] at hk0
  have HK := hid (⟨hkd, hX⟩ : v.kind = kd ∧ (vx v).toArray = X)
  have HA := hid (⟨hL, hf, hU, hO, hR, hT⟩ : _ ∧ _ ∧ _ ∧ _ ∧ _ ∧ _)
  have HB := hid hB
  obtain ⟨X1, hX1⟩ : ∃ X1, (vx (pv ver v)).toArray = X1 := ⟨_, rfl⟩
  have HX1 := hid hX1
  have hX1s : X1.size = 35 := by rw [← hX1]; exact vx_size _
  obtain ⟨CN, hCN⟩ : ∃ CN, nc ⟨#[]⟩ (pv ver v) Md.zero (.slice a n cap) = CN := ⟨_, rfl⟩
  have hco : CN.all (·.oneCell') = true := by rw [← hCN]; exact nc_one _ _ _ _ rfl
  have hcz : CN.size = 41 := by rw [← hCN]; exact nc_size ..
  rw [hCN]
  have HCN := hid hCN
  clear hCN
  clear hver hG1 hVX hVZ hX hM hL hf hU hO hR hT hkd hX1
  go_enter Try.func21, Try.ntmps21
  go_upto_region 1 with (with_reducible refine wpList_execW (.pointer (some ⟨((w.alloc (.cells X 24)).alloc (.cells M 27)).heap.size, 0, none⟩)) (((w.alloc (.cells X 24)).alloc (.cells M 27)).alloc (.cells z30 30)) ?_ ?_ ?_; exact exec_alloc30 rfl _; kernel_rfl)
  try simp only [Act.put, List.setIfInBounds_toArray, List.set_cons_zero, List.set_cons_succ, World.size_alloc]
  generalize ((w.alloc (.cells X 24)).alloc (.cells M 27)).alloc (.cells z30 30) = w1 at *
  try rw [hB]
  clear hB
  try rw [show B + 1 + 1 = B + 2 from rfl]
  have key : (ver = 1 ∧ kd ≠ 3) ∨ (ver = 1 ∧ kd = 3) ∨ ver ≠ 1 := by omega
  rcases key with ⟨h1, h3⟩ | ⟨h1, h3⟩ | h1
  · have HH1 := hid h1
    have b1 : (ver == 1) = true := by simp [h1]
    have b3 : (kd != 3) = true := by simp [h3]
    have HH3 := hid h3
    have HC : Hid (CL w (w1.setCell ⟨B, 1, none⟩ (.int .i64 8)) B lo n 0 X1 (.slice a n cap) T fs L) := by
      have hOB : OB B w1 (w1.setCell ⟨B, 1, none⟩ (.int .i64 8)) := OB.setCell w1 B 1 _
      have hg1 : w.grownBy w1 (Value.slice a n cap).ownBlock := ⟨H1.out.1.os, H1.out.1.tape, H1.out.1.output, H1.out.1.size, fun k hk _ => H1.out.1.block k hk⟩
      have hBw := HB.out
      have hgA : w.grownBy ((w1.setCell ⟨B, 1, none⟩ (.int .i64 8))) (Value.slice a n cap).ownBlock := ⟨hOB.2.2.1.trans hg1.os, hOB.2.2.2.1.trans hg1.tape, hOB.2.2.2.2.trans hg1.output, by rw [hOB.1]; exact hg1.size, fun k hk _ => (hOB.2.1 k (by omega)).trans (H1.out.1.block k hk)⟩
      have hg : G w ((w1.setCell ⟨B, 1, none⟩ (.int .i64 8))) := ⟨hgA.os, hgA.tape, hgA.output, hgA.size, fun b hb => (hOB.2.1 b (by omega)).trans (H1.out.1.block b hb)⟩
      refine ⟨hgA, ?_, (hOB.2.1 _ (by omega)).trans H1.out.2.2, xs, owns_growR HA.out.2.2.2.1 hg, ?_⟩
      · have h := H1.out.2.1.setCell 1 (.int .i64 8)
        rw [← HK.out.2, vx_mset] at h
        rw [← HX1.out]
        unfold pv unkV
        rw [if_pos HH1.out, if_neg (by rw [HK.out.1]; exact HH3.out)]
        exact h
      · rw [F.nm_zero]
        exact RCells.keep (fun b hb => ⟨Below.block hg b (HA.out.2.2.2.2.2 b hb).1, hb⟩) HA.out.2.2.2.2.1
    clear h1 h3
    go_upto_region 3 with fail
    generalize w1.setCell ⟨B, 1, none⟩ (.int .i64 8) = wA at *
    clear hk0 hk1 hfz hcv H1
    go_wp2_with fail
    go_loopw [24] (fun i wr => ∃ k : Nat, i = .int .i64 k ∧ k ≤ n ∧ Hid (CL w wr B lo n k X1 (.slice a n cap) T fs L)) (fun i _ => n - iOf i)
    case atStart => exact ⟨0, rfl, Nat.zero_le _, HC.out⟩
    case round =>
      clear HC
      obtain ⟨k, rfl, hk, HI⟩ := hrel
      by_cases hlt : k < n
      · have hltI : (k : Int) < (n : Int) := by omega
        obtain ⟨x, hx⟩ : ∃ x, L[k]? = some x := ⟨_, List.getElem?_eq_getElem (by rw [HA.out.1]; exact hlt)⟩
        obtain ⟨ad, cap', hv, hc⟩ := (HA.out.2.2.1 wr HI.out.g).at hx
        obtain rfl : ao = some ad := by injection hv
        obtain ⟨g, rfl⟩ : ∃ g, a = some ⟨g, 0, none⟩ := by
          have ho := HA.out.2.2.2.1
          rw [show n = (n - 1) + 1 by omega] at ho
          obtain ⟨g, cp, e⟩ := row_form ho
          injection e with e1
          exact ⟨g, e1⟩
        have hst := CL.step HI.out HB.out (World.ownsRow.lt HA.out.2.2.2.1 g rfl).2 (fun b hb => ⟨(HA.out.2.2.2.2.2 b hb).1, fun e => (HA.out.2.2.2.2.2 b hb).2 (by rw [e]; rfl)⟩) hx (by rw [HA.out.2.1]; exact hlt)
        have HST := hid hst
        obtain ⟨ys, hoy, hry⟩ := HI.out.r
        have hfr : wr.frozen? ⟨g, k * 41, none⟩ = false := hoy.frozenAt _
        obtain ⟨u0, hu0⟩ : ∃ u0, wr.cell? ⟨g, k * 41, none⟩ = some u0 := by
          have hl : k * 41 < ys.length := by
            have := hry.len
            rw [F.nm_len, HA.out.2.1] at this
            omega
          have := hoy.cells (g := g) rfl (k * 41) (ys[k * 41]'hl) (by simp)
          rw [Addr.add_mid, Nat.zero_add] at this
          exact ⟨_, this⟩
        clear hv hst hoy hry HI
        go_wp2_with fail
        go_roundw
        case rel => exact ⟨k + 1, by go_num, by omega, HST.out⟩
        case measure => simp; omega
      · have hltI : ¬ (k : Int) < (n : Int) := by omega
        obtain rfl : k = n := by omega
        go_wp2_with (first
          | ((with_reducible refine wpList_exec (.agg X1) ?_ ?_ ?_); exact exec_load24 _ rfl B 0 rfl X1 hX1s HI.out.x.lies; kernel_rfl)
          | ((with_reducible refine wpList_exec (.agg CN) ?_ ?_ ?_); (rw [← HCN.out]; exact exec_build30k _ rfl (pv ver v) X1 HX1.out.symm a k cap (by go_simp) _); kernel_rfl)
          | ((with_reducible refine wpList_skipW (wr.setRow (B + 2) CN) ?_ ?_ ?_); exact exec_store30 _ _ rfl (B + 2) _ z30 rfl rfl _ HI.out.z hcz z30_size hco; kernel_rfl))
        refine bodyPost_ret (results_cell_row (P := Try.prog) (p := 11) (ty := 30) rfl _ _ (B + 2) 30 CN (0, 0) _ rfl HI.out.z.set under30 rfl (by rw [size30, hcz])) rfl ?_
        obtain ⟨ys, hoy, hry⟩ := HI.out.r
        have hBw := HB.out
        have hoth : ∀ b, b ≠ B + 2 → (wr.setRow (B + 2) CN).heap[b]? = wr.heap[b]? := fun b hb => setRow_other _ (B + 2) b _ hb
        have hgz := HI.out.g
        refine ⟨rfl, ⟨hgz.os, hgz.tape, hgz.output, by simp; exact hgz.size, fun b hb hn => (hoth b (by omega)).trans (hgz.block b hb hn)⟩, ys, ?_, RCells.keep (fun b hb => ⟨hoth b (by have := (HA.out.2.2.2.2.2 b hb).1; omega), hb⟩) hry⟩
        obtain ⟨h0, h1⟩ := hoy
        refine ⟨h0, h1.imp id fun ⟨g, cp, cur, e1, e2, e3, e4⟩ => ⟨g, cp, cur, e1, e2, (hoth g ?_).trans e3, e4⟩⟩
        have hlt2 := (World.ownsRow.lt HA.out.2.2.2.1 g (by rw [e1]; rfl)).2
        omega
  · have HH1 := hid h1
    have b1 : (ver == 1) = true := by simp [h1]
    have b3 : (kd != 3) = false := by simp [h3]
    have HH3 := hid h3
    have HC : Hid (CL w w1 B lo n 0 X1 (.slice a n cap) T fs L) := by
      have hOB : OB B w1 w1 := ⟨rfl, fun _ _ => rfl, rfl, rfl, rfl⟩
      have hg1 : w.grownBy w1 (Value.slice a n cap).ownBlock := ⟨H1.out.1.os, H1.out.1.tape, H1.out.1.output, H1.out.1.size, fun k hk _ => H1.out.1.block k hk⟩
      have hBw := HB.out
      have hgA : w.grownBy w1 (Value.slice a n cap).ownBlock := ⟨hOB.2.2.1.trans hg1.os, hOB.2.2.2.1.trans hg1.tape, hOB.2.2.2.2.trans hg1.output, by rw [hOB.1]; exact hg1.size, fun k hk _ => (hOB.2.1 k (by omega)).trans (H1.out.1.block k hk)⟩
      have hg : G w w1 := ⟨hgA.os, hgA.tape, hgA.output, hgA.size, fun b hb => (hOB.2.1 b (by omega)).trans (H1.out.1.block b hb)⟩
      refine ⟨hgA, ?_, (hOB.2.1 _ (by omega)).trans H1.out.2.2, xs, owns_growR HA.out.2.2.2.1 hg, ?_⟩
      · have h := H1.out.2.1
        rw [← HK.out.2] at h
        rw [← HX1.out]
        unfold pv
        unfold unkV
        rw [if_pos HH1.out, if_pos (by rw [HK.out.1]; exact HH3.out)]
        exact h
      · rw [F.nm_zero]
        exact RCells.keep (fun b hb => ⟨Below.block hg b (HA.out.2.2.2.2.2 b hb).1, hb⟩) HA.out.2.2.2.2.1
    clear h1 h3
    go_upto_region 3 with fail
    skip
    clear hk0 hk1 hfz hcv H1
    go_wp2_with fail
    go_loopw [24] (fun i wr => ∃ k : Nat, i = .int .i64 k ∧ k ≤ n ∧ Hid (CL w wr B lo n k X1 (.slice a n cap) T fs L)) (fun i _ => n - iOf i)
    case atStart => exact ⟨0, rfl, Nat.zero_le _, HC.out⟩
    case round =>
      clear HC
      obtain ⟨k, rfl, hk, HI⟩ := hrel
      by_cases hlt : k < n
      · have hltI : (k : Int) < (n : Int) := by omega
        obtain ⟨x, hx⟩ : ∃ x, L[k]? = some x := ⟨_, List.getElem?_eq_getElem (by rw [HA.out.1]; exact hlt)⟩
        obtain ⟨ad, cap', hv, hc⟩ := (HA.out.2.2.1 wr HI.out.g).at hx
        obtain rfl : ao = some ad := by injection hv
        obtain ⟨g, rfl⟩ : ∃ g, a = some ⟨g, 0, none⟩ := by
          have ho := HA.out.2.2.2.1
          rw [show n = (n - 1) + 1 by omega] at ho
          obtain ⟨g, cp, e⟩ := row_form ho
          injection e with e1
          exact ⟨g, e1⟩
        have hst := CL.step HI.out HB.out (World.ownsRow.lt HA.out.2.2.2.1 g rfl).2 (fun b hb => ⟨(HA.out.2.2.2.2.2 b hb).1, fun e => (HA.out.2.2.2.2.2 b hb).2 (by rw [e]; rfl)⟩) hx (by rw [HA.out.2.1]; exact hlt)
        have HST := hid hst
        obtain ⟨ys, hoy, hry⟩ := HI.out.r
        have hfr : wr.frozen? ⟨g, k * 41, none⟩ = false := hoy.frozenAt _
        obtain ⟨u0, hu0⟩ : ∃ u0, wr.cell? ⟨g, k * 41, none⟩ = some u0 := by
          have hl : k * 41 < ys.length := by
            have := hry.len
            rw [F.nm_len, HA.out.2.1] at this
            omega
          have := hoy.cells (g := g) rfl (k * 41) (ys[k * 41]'hl) (by simp)
          rw [Addr.add_mid, Nat.zero_add] at this
          exact ⟨_, this⟩
        clear hv hst hoy hry HI
        go_wp2_with fail
        go_roundw
        case rel => exact ⟨k + 1, by go_num, by omega, HST.out⟩
        case measure => simp; omega
      · have hltI : ¬ (k : Int) < (n : Int) := by omega
        obtain rfl : k = n := by omega
        go_wp2_with (first
          | ((with_reducible refine wpList_exec (.agg X1) ?_ ?_ ?_); exact exec_load24 _ rfl B 0 rfl X1 hX1s HI.out.x.lies; kernel_rfl)
          | ((with_reducible refine wpList_exec (.agg CN) ?_ ?_ ?_); (rw [← HCN.out]; exact exec_build30k _ rfl (pv ver v) X1 HX1.out.symm a k cap (by go_simp) _); kernel_rfl)
          | ((with_reducible refine wpList_skipW (wr.setRow (B + 2) CN) ?_ ?_ ?_); exact exec_store30 _ _ rfl (B + 2) _ z30 rfl rfl _ HI.out.z hcz z30_size hco; kernel_rfl))
        refine bodyPost_ret (results_cell_row (P := Try.prog) (p := 11) (ty := 30) rfl _ _ (B + 2) 30 CN (0, 0) _ rfl HI.out.z.set under30 rfl (by rw [size30, hcz])) rfl ?_
        obtain ⟨ys, hoy, hry⟩ := HI.out.r
        have hBw := HB.out
        have hoth : ∀ b, b ≠ B + 2 → (wr.setRow (B + 2) CN).heap[b]? = wr.heap[b]? := fun b hb => setRow_other _ (B + 2) b _ hb
        have hgz := HI.out.g
        refine ⟨rfl, ⟨hgz.os, hgz.tape, hgz.output, by simp; exact hgz.size, fun b hb hn => (hoth b (by omega)).trans (hgz.block b hb hn)⟩, ys, ?_, RCells.keep (fun b hb => ⟨hoth b (by have := (HA.out.2.2.2.2.2 b hb).1; omega), hb⟩) hry⟩
        obtain ⟨h0, h1⟩ := hoy
        refine ⟨h0, h1.imp id fun ⟨g, cp, cur, e1, e2, e3, e4⟩ => ⟨g, cp, cur, e1, e2, (hoth g ?_).trans e3, e4⟩⟩
        have hlt2 := (World.ownsRow.lt HA.out.2.2.2.1 g (by rw [e1]; rfl)).2
        omega
  · have HH1 := hid h1
    have b1 : (ver == 1) = false := by simp [h1]
    have HC : Hid (CL w w1 B lo n 0 X1 (.slice a n cap) T fs L) := by
      have hOB : OB B w1 w1 := ⟨rfl, fun _ _ => rfl, rfl, rfl, rfl⟩
      have hg1 : w.grownBy w1 (Value.slice a n cap).ownBlock := ⟨H1.out.1.os, H1.out.1.tape, H1.out.1.output, H1.out.1.size, fun k hk _ => H1.out.1.block k hk⟩
      have hBw := HB.out
      have hgA : w.grownBy w1 (Value.slice a n cap).ownBlock := ⟨hOB.2.2.1.trans hg1.os, hOB.2.2.2.1.trans hg1.tape, hOB.2.2.2.2.trans hg1.output, by rw [hOB.1]; exact hg1.size, fun k hk _ => (hOB.2.1 k (by omega)).trans (H1.out.1.block k hk)⟩
      have hg : G w w1 := ⟨hgA.os, hgA.tape, hgA.output, hgA.size, fun b hb => (hOB.2.1 b (by omega)).trans (H1.out.1.block b hb)⟩
      refine ⟨hgA, ?_, (hOB.2.1 _ (by omega)).trans H1.out.2.2, xs, owns_growR HA.out.2.2.2.1 hg, ?_⟩
      · have h := H1.out.2.1
        rw [← HK.out.2] at h
        rw [← HX1.out]
        unfold pv
        rw [if_neg HH1.out]
        exact h
      · rw [F.nm_zero]
        exact RCells.keep (fun b hb => ⟨Below.block hg b (HA.out.2.2.2.2.2 b hb).1, hb⟩) HA.out.2.2.2.2.1
    clear h1
    go_upto_region 3 with fail
    skip
    clear hk0 hk1 hfz hcv H1
    go_wp2_with fail
    go_loopw [24] (fun i wr => ∃ k : Nat, i = .int .i64 k ∧ k ≤ n ∧ Hid (CL w wr B lo n k X1 (.slice a n cap) T fs L)) (fun i _ => n - iOf i)
    case atStart => exact ⟨0, rfl, Nat.zero_le _, HC.out⟩
    case round =>
      clear HC
      obtain ⟨k, rfl, hk, HI⟩ := hrel
      by_cases hlt : k < n
      · have hltI : (k : Int) < (n : Int) := by omega
        obtain ⟨x, hx⟩ : ∃ x, L[k]? = some x := ⟨_, List.getElem?_eq_getElem (by rw [HA.out.1]; exact hlt)⟩
        obtain ⟨ad, cap', hv, hc⟩ := (HA.out.2.2.1 wr HI.out.g).at hx
        obtain rfl : ao = some ad := by injection hv
        obtain ⟨g, rfl⟩ : ∃ g, a = some ⟨g, 0, none⟩ := by
          have ho := HA.out.2.2.2.1
          rw [show n = (n - 1) + 1 by omega] at ho
          obtain ⟨g, cp, e⟩ := row_form ho
          injection e with e1
          exact ⟨g, e1⟩
        have hst := CL.step HI.out HB.out (World.ownsRow.lt HA.out.2.2.2.1 g rfl).2 (fun b hb => ⟨(HA.out.2.2.2.2.2 b hb).1, fun e => (HA.out.2.2.2.2.2 b hb).2 (by rw [e]; rfl)⟩) hx (by rw [HA.out.2.1]; exact hlt)
        have HST := hid hst
        obtain ⟨ys, hoy, hry⟩ := HI.out.r
        have hfr : wr.frozen? ⟨g, k * 41, none⟩ = false := hoy.frozenAt _
        obtain ⟨u0, hu0⟩ : ∃ u0, wr.cell? ⟨g, k * 41, none⟩ = some u0 := by
          have hl : k * 41 < ys.length := by
            have := hry.len
            rw [F.nm_len, HA.out.2.1] at this
            omega
          have := hoy.cells (g := g) rfl (k * 41) (ys[k * 41]'hl) (by simp)
          rw [Addr.add_mid, Nat.zero_add] at this
          exact ⟨_, this⟩
        clear hv hst hoy hry HI
        go_wp2_with fail
        go_roundw
        case rel => exact ⟨k + 1, by go_num, by omega, HST.out⟩
        case measure => simp; omega
      · have hltI : ¬ (k : Int) < (n : Int) := by omega
        obtain rfl : k = n := by omega
        go_wp2_with (first
          | ((with_reducible refine wpList_exec (.agg X1) ?_ ?_ ?_); exact exec_load24 _ rfl B 0 rfl X1 hX1s HI.out.x.lies; kernel_rfl)
          | ((with_reducible refine wpList_exec (.agg CN) ?_ ?_ ?_); (rw [← HCN.out]; exact exec_build30k _ rfl (pv ver v) X1 HX1.out.symm a k cap (by go_simp) _); kernel_rfl)
          | ((with_reducible refine wpList_skipW (wr.setRow (B + 2) CN) ?_ ?_ ?_); exact exec_store30 _ _ rfl (B + 2) _ z30 rfl rfl _ HI.out.z hcz z30_size hco; kernel_rfl))
        refine bodyPost_ret (results_cell_row (P := Try.prog) (p := 11) (ty := 30) rfl _ _ (B + 2) 30 CN (0, 0) _ rfl HI.out.z.set under30 rfl (by rw [size30, hcz])) rfl ?_
        obtain ⟨ys, hoy, hry⟩ := HI.out.r
        have hBw := HB.out
        have hoth : ∀ b, b ≠ B + 2 → (wr.setRow (B + 2) CN).heap[b]? = wr.heap[b]? := fun b hb => setRow_other _ (B + 2) b _ hb
        have hgz := HI.out.g
        refine ⟨rfl, ⟨hgz.os, hgz.tape, hgz.output, by simp; exact hgz.size, fun b hb hn => (hoth b (by omega)).trans (hgz.block b hb hn)⟩, ys, ?_, RCells.keep (fun b hb => ⟨hoth b (by have := (HA.out.2.2.2.2.2 b hb).1; omega), hb⟩) hry⟩
        obtain ⟨h0, h1⟩ := hoy
        refine ⟨h0, h1.imp id fun ⟨g, cp, cur, e1, e2, e3, e4⟩ => ⟨g, cp, cur, e1, e2, (hoth g ?_).trans e3, e4⟩⟩
        have hlt2 := (World.ownsRow.lt HA.out.2.2.2.1 g (by rw [e1]; rfl)).2
        omega
end Go.Proofs.Ytglnpmdigghibaa
