import Derived.Test.YtjikkhbcbfpocaaGreatDoorMH
import Derived.Test.YtjikkhbcbfpocaaGreatDoorGJ
set_option maxRecDepth 100000
set_option maxHeartbeats 4000000
namespace Go.Proofs.YtjikkhbcbfpocaaGreatDoor
open Go.RowKit Go.Shelf
theorem cU {v : Vd} {c : Nat} {t : List Nat} (h : vOk v) (ht : Su.Bytes t) : Su.Bytes (ownT v c t) := by
 unfold ownT
 split
 ·exact jz (by decide) (jN (jy _) (jN (jy _) h.2.2))
 ·split
  ·exact jz (by decide) (jN (jy _) h.2.2)
  ·exact jz (by decide) (jN (jy _) (jN (jy _) ht))
theorem iA {v : Vd} {c : Nat} {t : List Nat} (h : vOk v) (hc : c < 9223372036854775808) (ht : t.length = 32) : 1 ≤ (ownT v c t).length ∧ (ownT v c t).length ≤ 1000000 := by
 obtain ⟨h1, h2, _⟩ := h
 have e1 := jP (n := v.mode.toNat) (by omega)
 have e2 := jP (n := v.size.toNat) (by omega)
 have e3 := jP (n := c) (by omega)
 have e4 := v.len
 unfold ownT
 split
 ·simp only [lC, lA]; omega
 ·split <;> simp only [lC, lA] <;> omega
theorem j9 {w : World} {g : Nat} {c : Array Value} {t : TypeId} (h : w.heap[g]? = some (.cells c t (0, 0))) : Lies w g 0 c := fun j u hj => by
 simp only [World.cell?, h, Nat.zero_add]; exact hj
theorem xV (v : Vd) : (vx v).toArray[0]? = some (.int .i64 v.kind) := by simp [vx]
theorem eZ (n : Nat) (a : Option Addr) (w : World) : (Instr.checkKey true (n + 1) 32 (.pointer a)).run Tryz.prog w = .ok () w := by
 rw [Instr.checkKey]
 simp only [Sem.run_bind, run_underlying Tryz.underlying32, Result.andThen_ok, Sem.run_pure]
theorem ea (a : Option Addr) (w : World) : (Instr.findKey 32 (.pointer a) []).run Tryz.prog w = .ok none w := by
 unfold Instr.findKey
 simp only [Sem.run_bind, run_underlying Tryz.underlying32, Result.andThen_ok, Instr.findNow, Sem.run_pure]
theorem l9 (a : Option Addr) (w : World) : (Instr.lookup 188 (.map none) (.pointer a) true).run Tryz.prog w = .ok (.tuple #[.agg z22, .bool false]) w := by
 unfold Instr.lookup
 have hc := eZ 9999 a w
 have hf := ea a w
 simp only [Sem.run_bind, run_underlying Tryz.underlying188, Result.andThen_ok, Sem.run_pure]
 rw [show (#[] : Array MapEntry).isEmpty = true from rfl]
 rw [show (10000 : Nat) = 9999 + 1 from rfl, hc]
 simp only [Result.andThen_ok, hf, Sem.run_bind, x9 22 z22 qY, Sem.run_pure]
 rfl
theorem sq (w : World) : (binOp .neq 188 (.map none) (.map none)).run Tryz.prog w = .ok (.bool false) w := by kernel_rfl
theorem nL (w : World) : (eqGuard .neq 188 (.tmp 48) (.const (.map none)) (.map none) (.map none)).run Tryz.prog w = .ok () w := by kernel_rfl
theorem yc {o : Oper} {a : Act} (y : Operand) (ho : o.op = .binOp .neq 188 (.tmp 48) y 188) (hy0 : y = .const (.map none)) (hx : a.eval (.tmp 48) = .map none) (w : World) : (execOp a.eval o).run Tryz.prog w = .ok (.value (.bool false)) w := by
 have hy : a.eval y = .map none := by rw [hy0]; rfl
 unfold execOp
 simp only [ho, hx, hy, Sem.run_bind]
 rw [hy0, nL]
 simp only [Result.andThen_ok, sq, Sem.run_pure]
theorem gC {o : Oper} {a : Act} (x y : Operand) (ho : o.op = .lookup 188 x y true) (b : Option Addr) (hx : a.eval x = .map none) (hy : a.eval y = .pointer b) (w : World) : (execOp a.eval o).run Tryz.prog w = .ok (.value (.tuple #[.agg z22, .bool false])) w := by
 unfold execOp
 simp only [ho, hx, hy, Sem.run_bind, l9, Result.andThen_ok, Sem.run_pure]
section
variable {St : List (List Nat) → (Nat → Prop) → World → Prop} {lo Wb : Nat} {c1 c2 c3 : Addr}
theorem nM (hC : CB St lo Wb (.pointer (some c1)) (.pointer (some c2)) (.pointer (some c3))) (v : Vd) (k : K) (hv : vOk v) (hk : v.kind ≠ 1) : cS St lo Wb c1 c2 c3 v k := by
 intro pre M w0 W p m hS hW hWM hT hA h0 hG0 hP
 have HP : Hid (pre.length < 1000000) := by unfold jd at hP; rw [if_neg hk] at hP; simp only [lC, lN] at hP; exact (by omega : pre.length < 1000000)
 clear hP
 have hb := hC.bnd hS
 obtain ⟨B, hBs⟩ : ∃ B, W.heap.size = B := ⟨_, rfl⟩
 obtain ⟨w1, hw1⟩ : ∃ w1, w1 = W.alloc (.cells z22 22) := ⟨_, rfl⟩
 have hG : G W w1 := by rw [hw1]; exact G.alloc _ _
 have hs1 : w1.heap.size = B + 1 := by rw [hw1]; simp [hBs]
 have hvB : w1.heap[B]? = some (.cells z22 22 (0, 0)) := by rw [hw1, ← hBs]; exact World.alloc_heap_new W _
 have hnB : ¬ M B := fun h => by have := (hb.2 B h).2; omega
 have CV := ke p v m k w1 ((hA.grow hG0).grow hG)
 have HX : Hid ((vx v).toArray.size = 35 ∧ (vx v).toArray.all (·.oneCell') = true ∧ (vx v).toArray[0]? = some (.int .i64 v.kind)) := ⟨by simp [jc], cW v, xV v⟩
 have CO : Hid (∀ w, Calls Tryz.prog 154 #[.agg (vx v).toArray, .int .i64 (0 : Nat), .agg (ja.map Su.vb).toArray] w fun e w' => ∃ u, e = .returned u ∧ Su.Owns w' w.heap.size u (ownT v 0 ja) ∧ G w w') := fun w => nJ v 0 ja w rfl hv.1 hv.2.1 (by decide)
 have HT : Hid (Su.Bytes (ownT v 0 ja) ∧ (1 ≤ (ownT v 0 ja).length ∧ (ownT v 0 ja).length ≤ 1000000) ∧ ((shaL (ownT v 0 ja)).map Su.vb).toArray.size = 32 ∧ ((shaL (ownT v 0 ja)).map Su.vb).toArray.all (·.oneCell') = true) := ⟨cU hv cX, iA hv (by decide) rfl, by simp [qS], kO _⟩
 unfold jd
 rw [if_neg hk]
 simp only
 generalize ownT v 0 ja = T at *
 obtain ⟨XI, hXI⟩ : ∃ XI, ((shaL T).map Su.vb).toArray = XI := ⟨_, rfl⟩
 rw [hXI] at HT ⊢
 have HXI := hid hXI
 generalize (vx v).toArray = X at *
 have hkb : (v.kind != 1) = true := by simpa using hk
 generalize v.kind = kd at *
 have HA := hid (⟨hb, hG, hs1, hvB, hnB, hWM, hW.fr (M := M) (Fr.of_G hG) hWM, hT.up hG, hC.keep hS (KeepM.of_G hG fun b h => (hb.2 b h).2)⟩ : _ ∧ _ ∧ _ ∧ _ ∧ _ ∧ _ ∧ _ ∧ _ ∧ _)
 clear hS hW hT hA hG0 hb hG hs1 hvB hnB hv hk hXI
 go_enter Tryz.func121, Tryz.ntmps121
 go_upto_region 2 with (first
  | ((with_reducible refine jA (.pointer (some ⟨B, 0, none⟩)) (W.alloc (.cells z22 22)) ?_ ?_); exact jC 22 z22 rfl qY _ _ hBs)
  | (go_at_call 19; rw [← hw1]; refine CV.mono ?_; rintro e w2 ⟨rfl, hg2⟩; have HG2 := hid hg2; clear hg2 CV; obtain ⟨B5, hB5⟩ : ∃ B5, w2.heap.size = B5 := ⟨_, rfl⟩)
  | ((with_reducible refine jA (.pointer (some ⟨B5, 0, none⟩)) (w2.alloc (.cells z24 24)) ?_ ?_); exact jC 24 z24 rfl cV _ _ hB5)
  | ((with_reducible refine j8 ((w2.alloc (.cells z24 24)).setRow B5 X) ?_ ?_); exact jE 24 _ _ rfl B5 X z24 rfl rfl _ (by rw [← hB5]; exact World.alloc_heap_new w2 _) (by rw [gD, HX.o.1]) (by rw [zJ, HX.o.1]) HX.o.2.1))
 try simp only [Act.put, sA, sB, sC]
 have N4 := qN w2 24 z24 X
 rw [hB5] at N4
 generalize (w2.alloc (.cells z24 24)).setRow B5 X = w4 at *
 have HG4 : Hid (G w1 w4 ∧ Lies w4 B5 0 X) := ⟨HG2.o.trans N4.1, j9 N4.2.1⟩
 clear N4 HG2 hB5 hw1
 have q0 := j7 HG4.o.2 0 _ HX.o.2.2
 go_wp2_with (first
  | ((with_reducible refine j0 (.agg X) ?_ ?_); exact jM _ rfl B5 0 rfl X HX.o.1 HG4.o.2)
  | (go_at_call 154; refine (CO.o w4).mono ?_; rintro e w5 ⟨u5, rfl, h5, hg5⟩; have H5 := hid (⟨h5, HG4.o.1.trans hg5⟩ : _ ∧ G w1 w5); clear h5 hg5)
  | (go_at_call 153; refine (aS hC (hC.keep HA.o.2.2.2.2.2.2.2.2 (KeepM.of_G H5.o.2 fun b h => by have := (HA.o.1.2 b h).2; have := HA.o.2.2.1; omega)) (HA.o.2.2.2.2.2.2.1.fr (M := M) (Fr.of_G H5.o.2) HA.o.2.2.2.2.2.1) (HA.o.2.2.2.2.2.2.2.1.up H5.o.2) (Su.Owns.has H5.o.1) HT.o.1 HT.o.2.1.1 HT.o.2.1.2 HP.o).mono ?_; rintro e w6 ⟨rfl, M3, hS3, hM3, hf3⟩; have h3B := (hf3.same B (by have := HA.o.2.2.1; have := H5.o.2.size; omega) HA.o.2.2.2.2.1).trans ((H5.o.2.block B (by have := HA.o.2.2.1; omega)).trans HA.o.2.2.2.1); have HE := hid (⟨hS3, hM3, hf3, h3B⟩ : _ ∧ _ ∧ _ ∧ _); clear hS3 hM3 hf3 h3B; rw [HXI.o])
  | ((with_reducible refine j8 (w6.setRow B XI) ?_ ?_); exact jE 22 _ _ rfl B XI z22 rfl rfl _ HE.o.2.2.2 (by rw [jl, HT.o.2.2.1]) (by rw [jh, HT.o.2.2.1]) HT.o.2.2.2))
 obtain ⟨hS3, hM3, hf3, h3B⟩ := HE.o
 obtain ⟨hb, hG, hs1, hvB, hnB, _⟩ := HA.o
 refine bodyPost_ret (results_cell_row (P := Tryz.prog) (p := 4) (ty := 22) rfl _ _ B 22 XI (0, 0) _ rfl (setRow_heap _ _ _ _ _ _ h3B) Tryz.underlying22 rfl (by rw [jl, HT.o.2.2.1])) rfl ⟨rfl, ?_⟩
 have z1 := hG.size
 have z5 := H5.o.2.size
 have F3 : Fr M W w6 := (Fr.of_G (hG.trans H5.o.2)).trans (fun b h => .inl h) hf3
 exact ⟨M3, hC.keep hS3 (KeepM.row _ _ _ (kH hM3 hnB (by omega))), fun b h => (hM3 b h).imp id fun h => by omega, Fr.row _ _ _ _ _ F3 (by omega)⟩
theorem iB : ∀ {l : List Kid}, fOk (yR l) → ∀ x ∈ l, x.nm.size ≤ 100000
 | [], _, _, hx => by cases hx
 | y :: t, h, x, hx => by
  obtain ⟨h1, _, _, h4⟩ := h
  rcases List.mem_cons.1 hx with rfl | hx
  ·exact h1
  ·exact iB h4 x hx
theorem iC : ∀ {l : List Kid}, fOk (yR l) → ∀ x ∈ l, vOk x.v ∧ fOk x.k.flat
 | [], _, _, hx => by cases hx
 | y :: t, h, x, hx => by
  obtain ⟨_, h2, h3, h4⟩ := h
  rcases List.mem_cons.1 hx with rfl | hx
  ·exact ⟨h2, h3⟩
  ·exact iC h4 x hx
theorem At.items {w : World} : ∀ {k : K} {u : Value}, At w k u → ∀ x ∈ k.items, AtT w x.p x.v x.m x.k
 | .nil, _, _, _, hx => by cases hx
 | .node q p nm v m kids ah be, _, ⟨_, pk, pa, pb, ⟨_, h3⟩, h4, h5, h6⟩, x, hx => by
  rw [K.items] at hx
  rcases List.mem_append.1 hx with hx | hx
  ·exact At.items h5 x hx
  ·rcases List.mem_cons.1 hx with rfl | hx
   ·exact ⟨pk, h3, h4⟩
   ·exact At.items h6 x hx
theorem iD {w : World} {p : Nat} {v : Vd} {m : Md} {k : K} (h : AtT w p v m k) : ∀ x ∈ k.items, AtT w x.p x.v x.m x.k := by
 obtain ⟨_, _, h⟩ := h
 exact h.items
theorem xW : ∀ l : List Kid, kf (yR l) = ((l.map (·.nm)).zip (qR l), qX l)
 | [] => rfl
 | x :: t => by
  rw [yR, ku, xW t]
  simp [qR, qX]
theorem nN (v : Vd) (k : K) (hk : v.kind = 1) : (jd v k.flat).2.length = (qX k.items).length + ((topT ((k.items.map (·.nm)).zip (qR k.items))).2.length + 1) := by
 unfold jd
 rw [if_pos hk, ← qQ k, xW]
 simp only [lA, lC, lN]
theorem dO (W : World) (Wb : Nat) (a : Option Addr) (cap : Nat) : Calls Tryz.prog 156 #[.pointer (some ⟨Wb, 0, none⟩), .slice a 0 cap] W fun e W' => e = .returned (.tuple #[]) ∧ W = W' := by
 go_enter Tryz.func156, Tryz.ntmps156
 go_wp2_with fail
 go_loopw [7] (fun i wr => i = .int .i64 0 ∧ W = wr) (fun _ _ => 0)
 case atStart => exact ⟨rfl, rfl⟩
 case round =>
  obtain ⟨rfl, rfl⟩ := hrel
  go_wp2_with fail
  go_end0
  exact ⟨rfl, rfl⟩
structure F8 (St : List (List Nat) → (Nat → Prop) → World → Prop) (c1 c2 c3 : Addr) (pre : List (List Nat)) (M M8 : Nat → Prop) (w0 w6 w8 : World) (Wb : Nat) (u : Value) (l : List Kid) : Prop where
 st : St (pre ++ qX l) M8 w8
 mm : ∀ b, M8 b → M b ∨ w6.heap.size ≤ b
 fr : Fr M w6 w8
 wk : qJ w8 Wb (.pointer (some c1)) (.pointer (some c2)) (.pointer (some c3))
 tb : Su.Tabs w8
 g0 : G w0 w8
 tp : ∀ W', G w8 W' → Calls Tryz.prog 157 #[.pointer (some ⟨Wb, 0, none⟩), u] W' fun e W2 => e = .returned (.agg ((topT ((l.map (·.nm)).zip (qR l))).1.map Su.vb).toArray) ∧ Po St (pre ++ qX l) (topT ((l.map (·.nm)).zip (qR l))).2 M8 W' W2
 fm : ∃ a cap, u = .slice a l.length cap
theorem nO (hC : CB St lo Wb (.pointer (some c1)) (.pointer (some c2)) (.pointer (some c3))) (l : List Kid) (w0 : World) (hl : ∀ x ∈ l, AtT w0 x.p x.v x.m x.k ∧ cS St lo Wb c1 c2 c3 x.v x.k) (hn : ∀ x ∈ l, x.nm.size ≤ 100000) (hlen : l.length ≤ 1000000) (pre : List (List Nat)) (M : Nat → Prop) (w6 w7 : World) (u : Value)
  (hS : St pre M w6) (hW : qJ w6 Wb (.pointer (some c1)) (.pointer (some c2)) (.pointer (some c3))) (hWM : ¬ M Wb) (hT : Su.Tabs w6) (h0 : w0.heap.size ≤ lo) (hG0 : G w0 w6) (h7 : w7.ownsRow w6.heap.size 267 34 u l.length (krow l)) (hg : G w6 w7) (hP : pre.length + ((qX l).length + ((topT ((l.map (·.nm)).zip (qR l))).2.length + 1)) ≤ 1000000) :
  Calls Tryz.prog 156 #[.pointer (some ⟨Wb, 0, none⟩), u] w7 fun e w8 => e = .returned (.tuple #[]) ∧ ∃ M8, F8 St c1 c2 c3 pre M M8 w0 w6 w8 Wb u l := by
 have hb := hC.bnd hS
 have hS7 : St pre M w7 := hC.keep hS (KeepM.of_G hg fun b h => (hb.2 b h).2)
 have hW7 := hW.fr (M := M) (Fr.of_G hg) hWM
 have hWl := hW.lt
 match l, h7, hl, hn, hlen, hP with
 | [], h7, _, _, _, _ =>
  obtain ⟨a, cap, rfl⟩ : ∃ a cap, u = .slice a 0 cap := by
   rcases h7.2 with ⟨h, _⟩ | ⟨g, cap, _, h, _⟩
   ·exact ⟨_, _, h⟩
   ·exact ⟨_, _, h⟩
  refine (dO w7 Wb a cap).mono ?_
  rintro e w8 ⟨rfl, rfl⟩
  refine ⟨rfl, M, ⟨by simpa [qX] using hS7, fun b h => .inl h, Fr.of_G hg, hW7, hT.up hg, hG0.trans hg, fun W' hg' => ?_, _, _, rfl⟩⟩
  have := pf hC (a := a) (cap := cap) (hC.keep hS7 (KeepM.of_G hg' fun b h => by have := (hb.2 b h).2; have := hg.size; omega))
  simpa [qX, qR] using this
 | x :: t, h7, hl, hn, hlen, hP =>
  obtain ⟨Kr, cap, cur, rfl, hKr, hcur, hc1, _, hc3, hc4⟩ : ∃ g cap cur, u = .slice (some ⟨g, 0, none⟩) (x :: t).length cap ∧ w6.heap.size ≤ g ∧ w7.heap[g]? = some (.cells cur 267 (0, 0)) ∧ (x :: t).length ≤ cap ∧ cap ≤ maxLen ∧ cur.size = cap * 34 ∧ cur.toList.take ((x :: t).length * 34) = krow (x :: t) := by
   rcases h7.2 with ⟨_, h⟩ | h
   ·simp at h
   ·exact h
  have hl1 : 1 ≤ (x :: t).length := by simp
  generalize x :: t = l at *
  have hK : KRow w7 Kr cap l [] := ⟨cur, hcur, hc3, hc1, by rw [eh]; exact hc4⟩
  have hKM : ¬ M Kr := fun h => by have := (hb.2 Kr h).2; omega
  refine (eY hC l w0 hl hlen pre M w7 Kr cap hS7 hW7 hWM (hT.up hg) h0 (hG0.trans hg) hK hKM (by omega) (by omega) (by omega)).mono ?_
  rintro e w8 ⟨rfl, ⟨M8, hS8, hM8, hf8⟩, hK8⟩
  have hz := hg.size
  have hfr : Fr M w6 w8 := ⟨hf8.os.trans hg.os, hf8.tape.trans hg.tape, hf8.output.trans hg.output, by have := hf8.size; omega, fun b hb' hn' => (hf8.same b (by omega) fun e => by rcases e with e | e; exact hn' e; omega).trans (hg.block b hb')⟩
  have hbe : Below lo w6 w8 := hfr.below (fun b h => (hb.2 b h).1) hb.1
  refine ⟨rfl, M8, ⟨hS8, fun b h => (hM8 b h).imp id fun h => by omega, hfr, hW.fr hfr hWM, hT.below hbe hC.four, Below.trans (B := w0.heap.size) hG0 (hbe.mono h0), fun W' hg' => ?_, _, _, rfl⟩⟩
  have hb8 := hC.bnd hS8
  have hnK : ¬ M8 Kr := kH hM8 hKM hK.lt
  have hnW : ¬ M8 Wb := kH hM8 hWM (by omega)
  have hzl : ((l.map (·.nm)).zip (qR l)).length = l.length := by simp [qR]
  have := gJ hC _ _ (Nat.lt_succ_self _) (by rw [hzl]; exact hl1) (by rw [hzl]; exact hlen) (fun z hz => ?_) (pre ++ qX l) M8 W' Kr 0 cap (hC.keep hS8 (KeepM.of_G hg' fun b h => (hb8.2 b h).2)) ((hW.fr hfr hWM).fr (M := M8) (Fr.of_G hg') hnW) hnW ((hT.below hbe hC.four).up hg') ((hK8.kids (aQ l)).same (hg'.block Kr hK8.lt)) (by have := hK8.lt; have := hg'.size; omega) hnK (by rw [hzl]; exact hc1) (by simp only [lA]; omega)
  ·rw [hzl, Nat.zero_mul] at this
   exact this
  ·have h1 : z.1 ∈ l.map (·.nm) := (List.of_mem_zip (a := z.1) (b := z.2) hz).1
   have h2 : z.2 ∈ qR l := (List.of_mem_zip (a := z.1) (b := z.2) hz).2
   obtain ⟨y, hy, hy2⟩ := List.mem_map.1 h1
   obtain ⟨y', _, hy3⟩ := List.mem_map.1 h2
   refine ⟨by rw [← hy2]; exact hn y hy, aQ l _ h2, ?_⟩
   rw [← hy3]
   unfold jd
   split <;> exact xD _
theorem F8.grow (hC : CB St lo Wb (.pointer (some c1)) (.pointer (some c2)) (.pointer (some c3))) {pre : List (List Nat)} {M M8 : Nat → Prop} {w0 w6 w8 W : World} {u : Value} {l : List Kid} (h : F8 St c1 c2 c3 pre M M8 w0 w6 w8 Wb u l) (hg : G w8 W) (hW : ¬ M8 Wb) : F8 St c1 c2 c3 pre M M8 w0 w6 W Wb u l :=
 ⟨hC.keep h.st (KeepM.of_G hg fun b hb => ((hC.bnd h.st).2 b hb).2), h.mm, h.fr.trans h.mm (Fr.of_G hg), h.wk.fr (M := M8) (Fr.of_G hg) hW, h.tb.up hg, h.g0.trans hg, fun W' hg' => h.tp W' (hg.trans hg'), h.fm⟩
structure PS (St : List (List Nat) → (Nat → Prop) → World → Prop) (pre ts : List (List Nat)) (M M1 : Nat → Prop) (w6 w : World) : Prop where
 st : St (pre ++ ts) M1 w
 mm : ∀ b, M1 b → M b ∨ w6.heap.size ≤ b
 fr : Fr M w6 w
theorem PS.grow (hC : CB St lo Wb (.pointer (some c1)) (.pointer (some c2)) (.pointer (some c3))) {pre ts : List (List Nat)} {M M1 : Nat → Prop} {w6 w W : World} (h : PS St pre ts M M1 w6 w) (hg : G w W) : PS St pre ts M M1 w6 W :=
 ⟨hC.keep h.st (KeepM.of_G hg fun b hb => ((hC.bnd h.st).2 b hb).2), h.mm, h.fr.trans h.mm (Fr.of_G hg)⟩
theorem PS.next {pre t1 t2 : List (List Nat)} {M M1 : Nat → Prop} {w6 w W : World} (h : PS St pre t1 M M1 w6 w) (hp : Po St (pre ++ t1) t2 M1 w W) : ∃ M2, PS St pre (t1 ++ t2) M M2 w6 W ∧ (∀ b, M2 b → M1 b ∨ w.heap.size ≤ b) ∧ Fr M1 w W := by
 obtain ⟨M2, h1, h2, h3⟩ := hp
 exact ⟨M2, ⟨by rw [← List.append_assoc]; exact h1, fun b hb => (h2 b hb).elim (h.mm b) fun hb => .inr (Nat.le_trans h.fr.size hb), h.fr.trans h.mm h3⟩, h2, h3⟩
theorem PS.at (hC : CB St lo Wb (.pointer (some c1)) (.pointer (some c2)) (.pointer (some c3))) {pre ts : List (List Nat)} {M M1 : Nat → Prop} {w6 w : World} (h : PS St pre ts M M1 w6 w) (hW : qJ w6 Wb (.pointer (some c1)) (.pointer (some c2)) (.pointer (some c3))) (hWM : ¬ M Wb) (hT : Su.Tabs w6) (hb : lo ≤ w6.heap.size ∧ ∀ b, M b → lo ≤ b ∧ b < w6.heap.size) : qJ w Wb (.pointer (some c1)) (.pointer (some c2)) (.pointer (some c3)) ∧ ¬ M1 Wb ∧ Su.Tabs w :=
 ⟨hW.fr h.fr hWM, kH h.mm hWM hW.lt, hT.below (h.fr.below (fun b hb' => (hb.2 b hb').1) hb.1) hC.four⟩
theorem pX (hC : CB St lo Wb (.pointer (some c1)) (.pointer (some c2)) (.pointer (some c3))) (v : Vd) (k : K) (hv : vOk v) (hk : v.kind = 1) (hf : fOk k.flat) (hsz : k.flat.size ≤ 100000) (ih : ∀ x ∈ k.items, cS St lo Wb c1 c2 c3 x.v x.k) : cS St lo Wb c1 c2 c3 v k := by
 intro pre M w0 W p m hS hW hWM hT hA h0 hG0 hP
 have HP : Hid (pre.length + ((qX k.items).length + ((topT ((k.items.map (·.nm)).zip (qR k.items))).2.length + 1)) ≤ 1000000) := by rw [nN v k hk] at hP; exact hP
 clear hP
 have hb := hC.bnd hS
 obtain ⟨B, hBs⟩ : ∃ B, W.heap.size = B := ⟨_, rfl⟩
 obtain ⟨w1, hw1⟩ : ∃ w1, w1 = W.alloc (.cells z22 22) := ⟨_, rfl⟩
 have hG : G W w1 := by rw [hw1]; exact G.alloc _ _
 have hs1 : w1.heap.size = B + 1 := by rw [hw1]; simp [hBs]
 have hvB : w1.heap[B]? = some (.cells z22 22 (0, 0)) := by rw [hw1, ← hBs]; exact World.alloc_heap_new W _
 have hnB : ¬ M B := fun h => by have := (hb.2 B h).2; omega
 have CV := ke p v m k w1 ((hA.grow hG0).grow hG)
 have CK : Hid (∀ w, G w1 w → Calls Tryz.prog 155 #[.pointer (some ⟨p, 0, none⟩)] w fun e w' => ∃ u, e = .returned u ∧ w'.ownsRow w.heap.size 267 34 u k.items.length (krow k.items) ∧ G w w') := fun w hg => lB p v m k w (((hA.grow hG0).grow hG).grow hg) hsz
 have HX : Hid ((vx v).toArray.size = 35 ∧ (vx v).toArray.all (·.oneCell') = true ∧ (vx v).toArray[0]? = some (.int .i64 v.kind)) := ⟨by simp [jc], cW v, xV v⟩
 generalize hX : (vx v).toArray = X at *
 rw [hk] at HX
 have HA := hid (⟨hb, hG, hs1, hvB, hnB, hWM, hW.fr (M := M) (Fr.of_G hG) hWM, hT.up hG, hC.keep hS (KeepM.of_G hG fun b h => (hb.2 b h).2)⟩ : _ ∧ _ ∧ _ ∧ _ ∧ _ ∧ _ ∧ _ ∧ _ ∧ _)
 have HB := hid (⟨hA, h0, hG0.trans hG, hv, hk, hf, hsz, ih, hX⟩ : _ ∧ _ ∧ _ ∧ _ ∧ _ ∧ _ ∧ _ ∧ _ ∧ _)
 clear hS hW hT hA hG0 hb hG hs1 hvB hnB hv hk hf hsz ih hX
 go_enter Tryz.func121, Tryz.ntmps121
 go_upto_region 2 with (first
  | ((with_reducible refine jA (.pointer (some ⟨B, 0, none⟩)) (W.alloc (.cells z22 22)) ?_ ?_); exact jC 22 z22 rfl qY _ _ hBs)
  | (go_at_call 19; rw [← hw1]; refine CV.mono ?_; rintro e w2 ⟨rfl, hg2⟩; have HG2 := hid hg2; clear hg2 CV; obtain ⟨B5, hB5⟩ : ∃ B5, w2.heap.size = B5 := ⟨_, rfl⟩)
  | ((with_reducible refine jA (.pointer (some ⟨B5, 0, none⟩)) (w2.alloc (.cells z24 24)) ?_ ?_); exact jC 24 z24 rfl cV _ _ hB5)
  | ((with_reducible refine j8 ((w2.alloc (.cells z24 24)).setRow B5 X) ?_ ?_); exact jE 24 _ _ rfl B5 X z24 rfl rfl _ (by rw [← hB5]; exact World.alloc_heap_new w2 _) (by rw [gD, HX.o.1]) (by rw [zJ, HX.o.1]) HX.o.2.1))
 try simp only [Act.put, sA, sB, sC]
 have N4 := qN w2 24 z24 X
 rw [hB5] at N4
 generalize (w2.alloc (.cells z24 24)).setRow B5 X = w4 at *
 have HG4 : Hid (G w1 w4 ∧ w4.heap[B5]? = some (.cells X 24 (0, 0)) ∧ B + 1 ≤ B5) := ⟨HG2.o.trans N4.1, N4.2.1, by have := HG2.o.size; have := HA.o.2.2.1; omega⟩
 clear N4 HG2 hB5 hw1
 have q0 := j7 (j9 HG4.o.2.1) 0 _ HX.o.2.2
 have q2 := HG4.o.1.cell (j7 HA.o.2.2.2.2.2.2.1.lies 2 _ rfl)
 obtain ⟨B6, hB6⟩ : ∃ B6, w4.heap.size = B6 := ⟨_, rfl⟩
 go_upto_region 7 with (first
  | ((with_reducible refine j0 (.tuple #[.agg z22, .bool false]) ?_ ?_); exact gC _ _ rfl _ rfl rfl _)
  | ((with_reducible refine jA (.pointer (some ⟨B6, 0, none⟩)) (w4.alloc (.cells z22 22)) ?_ ?_); exact jC 22 z22 rfl qY _ _ hB6)
  | ((with_reducible refine j8 ((w4.alloc (.cells z22 22)).setRow B6 z22) ?_ ?_); exact jE 22 _ _ rfl B6 z22 z22 rfl (by rfl) _ (by rw [← hB6]; exact World.alloc_heap_new w4 _) (by rw [jl, jh]) rfl (kO _)))
 try simp only [Act.put, sA, sB, sC]
 have N6 := qN w4 22 z22 z22
 rw [hB6] at N6
 generalize (w4.alloc (.cells z22 22)).setRow B6 z22 = w6 at *
 have HG6 : Hid (G w1 w6 ∧ w6.heap[B5]? = some (.cells X 24 (0, 0)) ∧ B + 1 ≤ B5 ∧ B5 < w6.heap.size) := by
  have hl := (gS HG4.o.2.1)
  exact ⟨HG4.o.1.trans N6.1, (N6.1.block B5 hl).trans HG4.o.2.1, HG4.o.2.2, by have := N6.1.size; omega⟩
 clear N6 HG4 hB6 q0 q2
 go_upto_region 8 with (go_at_call 155; refine (CK.o w6 HG6.o.1).mono ?_; rintro e w7 ⟨u, rfl, h7, hg7⟩; have HK7 := hid (⟨h7, hg7⟩ : _ ∧ _); clear h7 hg7 CK)
 try simp only [Act.put, sA, sB, sC]
 have H6 : Hid (St pre M w6 ∧ qJ w6 Wb (.pointer (some c1)) (.pointer (some c2)) (.pointer (some c3)) ∧ ¬ M Wb ∧ Su.Tabs w6 ∧ (lo ≤ w6.heap.size ∧ ∀ b, M b → lo ≤ b ∧ b < w6.heap.size) ∧ ¬ M B5 ∧ ¬ M B ∧ w6.heap[B]? = some (.cells z22 22 (0, 0)) ∧ B < w6.heap.size ∧ B5 < w6.heap.size ∧ B ≠ B5) := by
  obtain ⟨hb, hG, hs1, hvB, hnB, hWM, hW, hT, hS⟩ := HA.o
  obtain ⟨hg6, _, h56, h5l⟩ := HG6.o
  have hS6 := hC.keep hS (KeepM.of_G hg6 fun b h => by have := (hb.2 b h).2; omega)
  exact ⟨hS6, hW.fr (M := M) (Fr.of_G hg6) hWM, hWM, hT.up hg6, hC.bnd hS6, fun h => (by have := (hb.2 B5 h).2; omega), hnB, (hg6.block B (by omega)).trans hvB, by omega, h5l, by omega⟩
 have CN : Calls Tryz.prog 156 #[.pointer (some ⟨Wb, 0, none⟩), u] w7 fun e w8 => e = .returned (.tuple #[]) ∧ ∃ M8, F8 St c1 c2 c3 pre M M8 w0 w6 w8 Wb u k.items := by
  obtain ⟨hA, h0, hG0, hv, hk, hf, hsz, ih, hX⟩ := HB.o
  obtain ⟨a1, a2, a3, a4, _⟩ := H6.o
  refine nO hC k.items w0 (fun x hx => ⟨iD hA x hx, ih x hx⟩) (fun x hx => iB (by rw [qQ]; exact hf) x hx) (by rw [K.items_len]; have := k.flat.len_le_size; omega) pre M w6 w7 u a1 a2 a3 a4 h0 (hG0.trans HG6.o.1) HK7.o.1 HK7.o.2 HP.o
 go_upto_region 9 with (go_at_call 156; refine CN.mono ?_; rintro e w8 ⟨rfl, M8, h8⟩; have H8 := hid h8; clear h8 CN)
 try simp only [Act.put, sA, sB, sC]
 obtain ⟨a8, cap8, hu8⟩ := H8.o.fm
 subst hu8
 obtain ⟨n, hn⟩ : ∃ n, k.items.length = n := ⟨_, rfl⟩
 have hn6 : n ≤ 1000000 := by rw [← hn, K.items_len]; have := HB.o.2.2.2.2.2.2.1; have := k.flat.len_le_size; omega
 have HZ : Hid (jd v k.flat = (shaL (ownT v n (topT ((k.items.map (·.nm)).zip (qR k.items))).1), qX k.items ++ ((topT ((k.items.map (·.nm)).zip (qR k.items))).2 ++ [ownT v n (topT ((k.items.map (·.nm)).zip (qR k.items))).1]))) := by
  show _ = _
  unfold jd
  rw [if_pos HB.o.2.2.2.2.1, ← qQ k, xW]
  simp only
  rw [show ((k.items.map (·.nm)).zip (qR k.items)).length = n by simp [qR, hn]]
 have CO : Hid (∀ w, Calls Tryz.prog 154 #[.agg X, .int .i64 n, .agg ((topT ((k.items.map (·.nm)).zip (qR k.items))).1.map Su.vb).toArray] w fun e w' => ∃ u, e = .returned u ∧ Su.Owns w' w.heap.size u (ownT v n (topT ((k.items.map (·.nm)).zip (qR k.items))).1) ∧ G w w') := fun w => by
  rw [← HB.o.2.2.2.2.2.2.2.2]
  exact nJ v n _ w (xA _) HB.o.2.2.2.1.1 HB.o.2.2.2.1.2.1 (by omega)
 have HT : Hid (Su.Bytes (ownT v n (topT ((k.items.map (·.nm)).zip (qR k.items))).1) ∧ (1 ≤ (ownT v n (topT ((k.items.map (·.nm)).zip (qR k.items))).1).length ∧ (ownT v n (topT ((k.items.map (·.nm)).zip (qR k.items))).1).length ≤ 1000000) ∧ ((shaL (ownT v n (topT ((k.items.map (·.nm)).zip (qR k.items))).1)).map Su.vb).toArray.size = 32 ∧ ((shaL (ownT v n (topT ((k.items.map (·.nm)).zip (qR k.items))).1)).map Su.vb).toArray.all (·.oneCell') = true) := ⟨cU HB.o.2.2.2.1 (xY _), iA HB.o.2.2.2.1 (by omega) (xA _), by simp [qS], kO _⟩
 have H8' := H8
 rw [hn] at H8' ⊢
 have hp8 : Hid (PS St pre (qX k.items) M M8 w6 w8.drew ∧ ∀ W', G w8.drew W' → Calls Tryz.prog 157 #[.pointer (some ⟨Wb, 0, none⟩), .slice a8 n cap8] W' fun e W2 => e = .returned (.agg ((topT ((k.items.map (·.nm)).zip (qR k.items))).1.map Su.vb).toArray) ∧ Po St (pre ++ qX k.items) (topT ((k.items.map (·.nm)).zip (qR k.items))).2 M8 W' W2) := by
  have h := H8'.o
  exact ⟨PS.grow hC ⟨h.st, h.mm, h.fr⟩ (G.drew w8), fun W' hg => h.tp W' ((G.drew w8).trans hg)⟩
 clear H8 H8'
 have HI : Hid (∀ (ts : List (List Nat)) (M1 : Nat → Prop) (w : World), PS St pre ts M M1 w6 w → w.heap[B5]? = some (.cells X 24 (0, 0))) := fun ts M1 w h => (h.fr.same B5 H6.o.2.2.2.2.2.2.2.2.2.1 H6.o.2.2.2.2.2.1).trans HG6.o.2.1
 generalize qX k.items = tk at *
 generalize (topT ((k.items.map (·.nm)).zip (qR k.items))) = tp at *
 generalize ownT v n tp.1 = T at *
 generalize (tp.1.map Su.vb).toArray = XT at *
 obtain ⟨XI, hXI⟩ : ∃ XI, ((shaL T).map Su.vb).toArray = XI := ⟨_, rfl⟩
 rw [hXI] at HT
 have HXI := hid hXI
 clear hXI
 have CA : Hid (∀ (M1 : Nat → Prop) (w : World) (u7 : Value), PS St pre (tk ++ tp.2) M M1 w6 w → Su.Has w u7 T → Calls Tryz.prog 153 #[.pointer (some ⟨Wb, 0, none⟩), u7] w fun e W' => e = .returned (.agg XI) ∧ Po St (pre ++ (tk ++ tp.2)) [T] M1 w W') := fun M1 w u7 h hu => by
  obtain ⟨_, a2, a3, a4, a5, _⟩ := H6.o
  obtain ⟨g1, _, g3⟩ := h.at hC a2 a3 a4 a5
  have := aS hC h.st g1 g3 hu HT.o.1 HT.o.2.1.1 HT.o.2.1.2 (by have := HP.o; simp only [lA]; omega)
  rw [HXI.o] at this
  exact this
 have HF : Hid (∀ (wz : World) (M10 : Nat → Prop) (B9 : Nat), PS St pre (tk ++ (tp.2 ++ [T])) M M10 w6 wz → wz.heap[B9]? = some (.cells z22 22 (0, 0)) → ¬ M10 B9 → w6.heap.size ≤ B9 → PS St pre (tk ++ (tp.2 ++ [T])) M M10 w6 (wz.setRow B9 XI) ∧ (wz.setRow B9 XI).heap[B9]? = some (.cells XI 22 (0, 0))) := fun wz M10 B9 h hv hn9 hle =>
  ⟨⟨hC.keep h.st (KeepM.row _ _ _ hn9), h.mm, Fr.row _ _ _ _ _ h.fr hle⟩, setRow_heap _ _ _ _ _ _ hv⟩
 refine (wpIn_wide (n := 3)).1 ?_
 refine qw (fun w => w.heap[B5]? = some (.cells X 24 (0, 0))) ?_
 generalize w8.drew = w9 at *
 have hI9 := HI.o _ _ _ hp8.o.1
 refine tJ jB 0 36 (.pointer (some ⟨Wb, 0, none⟩)) hI9 (fun wz hz => ?_) ?_
 ·rfl
 refine tJ jB 1 37 (.agg X) hI9 (fun wz hz => ?_) ?_
 ·exact jM _ rfl B5 0 rfl X HX.o.1 (j9 hz)
 refine tJ jB 2 38 (.slice a8 n cap8) hI9 (fun wz hz => ?_) ?_
 ·rfl
 refine tJ jB 3 39 (.int .i64 n) hI9 (fun wz hz => ?_) ?_
 ·go_simp
 refine tJ jB 4 40 (.pointer (some ⟨Wb, 0, none⟩)) hI9 (fun wz hz => ?_) ?_
 ·rfl
 refine tJ jB 5 41 (.slice a8 n cap8) hI9 (fun wz hz => ?_) ?_
 ·rfl
 have HEND : Hid (∀ (M10 : Nat → Prop) (wf : World), PS St pre (tk ++ (tp.2 ++ [T])) M M10 w6 wf → Po St pre (tk ++ (tp.2 ++ [T])) M W (wf.setRow B XI)) := fun M10 wf h => by
  have hGW : G W w6 := HA.o.2.1.trans HG6.o.1
  have hz := hGW.size
  exact ⟨M10, hC.keep h.st (KeepM.row _ _ _ (kH h.mm H6.o.2.2.2.2.2.2.1 H6.o.2.2.2.2.2.2.2.2.1)), fun b hb => (h.mm b hb).imp id fun hb => by omega, Fr.row _ _ _ _ _ ((Fr.of_G hGW).trans (fun b h => .inl h) h.fr) (by omega)⟩
 have hp9 := hp8.o.1
 have hg9 : G w9 w9 := G.refl w9
 refine jU [6, 9] (by kernel_rfl) (by simp) ?_
 refine AllJ.call jB 6 42 157 #[.pointer (some ⟨Wb, 0, none⟩), .slice a8 n cap8] rfl (by kernel_rfl) (by go_simp) ((callsIn_wide.2 (hp8.o.2 w9 hg9)).mono ?_) ?_
 ·rintro e yw1 ⟨rfl, hpo⟩
  obtain ⟨yM2, yP3, yhM4, yhf5⟩ := hp9.next hpo
  refine ⟨_, rfl, HI.o _ _ _ yP3, ?_⟩
  try simp only [Act.put, sA, sB, sC]
  refine jU [7, 9] (by kernel_rfl) (by simp) ?_
  refine AllJ.call jB 7 43 154 #[.agg X, .int .i64 n, .agg XT] rfl (by kernel_rfl) (by go_simp) ((callsIn_wide.2 (CO.o yw1)).mono ?_) ?_
  ·rintro e yw6 ⟨yu7, rfl, yho8, yhg9⟩
   have yP10 := yP3.grow hC yhg9
   have yhu11 := Su.Owns.has yho8
   refine ⟨_, rfl, HI.o _ _ _ yP10, ?_⟩
   try simp only [Act.put, sA, sB, sC]
   refine jU [8, 9] (by kernel_rfl) (by simp) ?_
   refine AllJ.call jB 8 44 153 #[.pointer (some ⟨Wb, 0, none⟩), yu7] rfl (by kernel_rfl) (by go_simp) ((callsIn_wide.2 (CA.o _ yw6 yu7 yP10 yhu11)).mono ?_) ?_
   ·rintro e yw12 ⟨rfl, hpo⟩
    obtain ⟨yM13, yP14, yhM15, yhf16⟩ := yP10.next hpo
    have yP17 : PS St pre (tk ++ (tp.2 ++ [T])) M yM13 w6 yw12 := by rw [← List.append_assoc]; exact yP14
    refine ⟨_, rfl, HI.o _ _ _ yP17, ?_⟩
    try simp only [Act.put, sA, sB, sC]
    refine jU [9] (by kernel_rfl) (by simp) ?_
    obtain ⟨yB18, yhB20⟩ : ∃ B9, yw12.heap.size = B9 := ⟨_, rfl⟩
    have yP19 := yP17.grow hC (G.alloc yw12 (.cells z22 22))
    refine AllJ.value jB 9 9 (.pointer (some ⟨yB18, 0, none⟩)) (yw12.alloc (.cells z22 22)) rfl (by kernel_rfl) (jC 22 z22 rfl qY _ _ yhB20) (HI.o _ _ _ yP19) ?_ AllJ.nil
    try simp only [Act.put, sA, sB, sC]
    have yhv21 : (yw12.alloc (.cells z22 22)).heap[yB18]? = some (.cells z22 22 (0, 0)) := by rw [← yhB20]; exact World.alloc_heap_new _ _
    have yhn22 := fun h => (absurd ((hC.bnd yP17.st).2 yB18 h).2 (by omega) : False)
    have yhle23 : w6.heap.size ≤ yB18 := by have := yP17.fr.size; omega
    have yhlt24 : yB18 < (yw12.alloc (.cells z22 22)).heap.size := by rw [World.size_alloc]; omega
    generalize yw12.alloc (.cells z22 22) = yw25 at *
    refine jU [10] (by kernel_rfl) (by simp) ?_
    obtain ⟨yP26, yhx27⟩ := HF.o yw25 _ yB18 yP19 yhv21 yhn22 yhle23
    refine AllJ.skip jB 10 (yw25.setRow yB18 XI) rfl (by kernel_rfl) (jE 22 _ _ rfl yB18 XI z22 rfl rfl _ yhv21 (by rw [jl, HT.o.2.2.1]) (by rw [jh, HT.o.2.2.1]) HT.o.2.2.2) (HI.o _ _ _ yP26) ?_ AllJ.nil
    try simp only [List.setIfInBounds_toArray, List.set_cons_zero, List.set_cons_succ]
    refine zp (by kernel_rfl) ?_
    have HQ := hid (⟨yP26, yhx27⟩ : _ ∧ _)
    have hq2 := j7 (yP26.at hC H6.o.2.1 H6.o.2.2.1 H6.o.2.2.2.1 H6.o.2.2.2.2.1).1.lies 2 _ rfl
    have hqB : (yw25.setRow yB18 XI).heap[B]? = some (.cells z22 22 (0, 0)) := (yP26.fr.same B H6.o.2.2.2.2.2.2.2.2.1 H6.o.2.2.2.2.2.2.1).trans H6.o.2.2.2.2.2.2.2.1
    clear yP26 yhx27
    generalize yw25.setRow yB18 XI = wf at *
    go_wp2_with (first
     | ((with_reducible refine j0 (.bool false) ?_ ?_); exact yc _ rfl rfl rfl _)
     | ((with_reducible refine j0 (.agg XI) ?_ ?_); exact ji 22 _ rfl yB18 0 rfl XI _ (j9 HQ.o.2) Tryz.underlying22 rfl (by rw [jl, HT.o.2.2.1]))
     | ((with_reducible refine j8 (wf.setRow B XI) ?_ ?_); exact jE 22 _ _ rfl B XI z22 rfl rfl _ hqB (by rw [jl, HT.o.2.2.1]) (by rw [jh, HT.o.2.2.1]) HT.o.2.2.2))
    refine bodyPost_ret (results_cell_row (P := Tryz.prog) (p := 4) (ty := 22) rfl _ _ B 22 XI (0, 0) _ rfl (setRow_heap _ _ _ _ _ _ hqB) Tryz.underlying22 rfl (by rw [jl, HT.o.2.2.1])) rfl ?_
    rw [HZ.o]
    exact ⟨by rw [HXI.o], HEND.o _ _ HQ.o.1⟩
   ·obtain ⟨yB28, yhB30⟩ : ∃ B9, yw6.heap.size = B9 := ⟨_, rfl⟩
    have yP29 := yP10.grow hC (G.alloc yw6 (.cells z22 22))
    refine AllJ.value jB 9 9 (.pointer (some ⟨yB28, 0, none⟩)) (yw6.alloc (.cells z22 22)) rfl (by kernel_rfl) (jC 22 z22 rfl qY _ _ yhB30) (HI.o _ _ _ yP29) ?_ AllJ.nil
    try simp only [Act.put, sA, sB, sC]
    have yhv31 : (yw6.alloc (.cells z22 22)).heap[yB28]? = some (.cells z22 22 (0, 0)) := by rw [← yhB30]; exact World.alloc_heap_new _ _
    have yhn32 := fun h => (absurd ((hC.bnd yP10.st).2 yB28 h).2 (by omega) : False)
    have yhle33 : w6.heap.size ≤ yB28 := by have := yP10.fr.size; omega
    have yhlt34 : yB28 < (yw6.alloc (.cells z22 22)).heap.size := by rw [World.size_alloc]; omega
    have yhu36 := Su.Has.below yhu11 (G.alloc yw6 (.cells z22 22))
    generalize yw6.alloc (.cells z22 22) = yw35 at *
    refine jU [8] (by kernel_rfl) (by simp) ?_
    refine AllJ.call jB 8 44 153 #[.pointer (some ⟨Wb, 0, none⟩), yu7] rfl (by kernel_rfl) (by go_simp) ((callsIn_wide.2 (CA.o _ yw35 yu7 yP29 yhu36)).mono ?_) AllJ.nil
    rintro e yw37 ⟨rfl, hpo⟩
    obtain ⟨yM38, yP39, yhM40, yhf41⟩ := yP29.next hpo
    have yhv42 := (yhf41.same yB28 yhlt34 yhn32).trans yhv31
    have yhn43 := kH yhM40 yhn32 yhlt34
    have yhlt44 := Nat.lt_of_lt_of_le yhlt34 yhf41.size
    have yP45 : PS St pre (tk ++ (tp.2 ++ [T])) M yM38 w6 yw37 := by rw [← List.append_assoc]; exact yP39
    refine ⟨_, rfl, HI.o _ _ _ yP45, ?_⟩
    try simp only [Act.put, sA, sB, sC]
    refine jU [10] (by kernel_rfl) (by simp) ?_
    obtain ⟨yP46, yhx47⟩ := HF.o yw37 _ yB28 yP45 yhv42 yhn43 yhle33
    refine AllJ.skip jB 10 (yw37.setRow yB28 XI) rfl (by kernel_rfl) (jE 22 _ _ rfl yB28 XI z22 rfl rfl _ yhv42 (by rw [jl, HT.o.2.2.1]) (by rw [jh, HT.o.2.2.1]) HT.o.2.2.2) (HI.o _ _ _ yP46) ?_ AllJ.nil
    try simp only [List.setIfInBounds_toArray, List.set_cons_zero, List.set_cons_succ]
    refine zp (by kernel_rfl) ?_
    have HQ := hid (⟨yP46, yhx47⟩ : _ ∧ _)
    have hq2 := j7 (yP46.at hC H6.o.2.1 H6.o.2.2.1 H6.o.2.2.2.1 H6.o.2.2.2.2.1).1.lies 2 _ rfl
    have hqB : (yw37.setRow yB28 XI).heap[B]? = some (.cells z22 22 (0, 0)) := (yP46.fr.same B H6.o.2.2.2.2.2.2.2.2.1 H6.o.2.2.2.2.2.2.1).trans H6.o.2.2.2.2.2.2.2.1
    clear yP46 yhx47
    generalize yw37.setRow yB28 XI = wf at *
    go_wp2_with (first
     | ((with_reducible refine j0 (.bool false) ?_ ?_); exact yc _ rfl rfl rfl _)
     | ((with_reducible refine j0 (.agg XI) ?_ ?_); exact ji 22 _ rfl yB28 0 rfl XI _ (j9 HQ.o.2) Tryz.underlying22 rfl (by rw [jl, HT.o.2.2.1]))
     | ((with_reducible refine j8 (wf.setRow B XI) ?_ ?_); exact jE 22 _ _ rfl B XI z22 rfl rfl _ hqB (by rw [jl, HT.o.2.2.1]) (by rw [jh, HT.o.2.2.1]) HT.o.2.2.2))
    refine bodyPost_ret (results_cell_row (P := Tryz.prog) (p := 4) (ty := 22) rfl _ _ B 22 XI (0, 0) _ rfl (setRow_heap _ _ _ _ _ _ hqB) Tryz.underlying22 rfl (by rw [jl, HT.o.2.2.1])) rfl ?_
    rw [HZ.o]
    exact ⟨by rw [HXI.o], HEND.o _ _ HQ.o.1⟩
  ·obtain ⟨yB48, yhB50⟩ : ∃ B9, yw1.heap.size = B9 := ⟨_, rfl⟩
   have yP49 := yP3.grow hC (G.alloc yw1 (.cells z22 22))
   refine AllJ.value jB 9 9 (.pointer (some ⟨yB48, 0, none⟩)) (yw1.alloc (.cells z22 22)) rfl (by kernel_rfl) (jC 22 z22 rfl qY _ _ yhB50) (HI.o _ _ _ yP49) ?_ AllJ.nil
   try simp only [Act.put, sA, sB, sC]
   have yhv51 : (yw1.alloc (.cells z22 22)).heap[yB48]? = some (.cells z22 22 (0, 0)) := by rw [← yhB50]; exact World.alloc_heap_new _ _
   have yhn52 := fun h => (absurd ((hC.bnd yP3.st).2 yB48 h).2 (by omega) : False)
   have yhle53 : w6.heap.size ≤ yB48 := by have := yP3.fr.size; omega
   have yhlt54 : yB48 < (yw1.alloc (.cells z22 22)).heap.size := by rw [World.size_alloc]; omega
   generalize yw1.alloc (.cells z22 22) = yw55 at *
   refine jU [7] (by kernel_rfl) (by simp) ?_
   refine AllJ.call jB 7 43 154 #[.agg X, .int .i64 n, .agg XT] rfl (by kernel_rfl) (by go_simp) ((callsIn_wide.2 (CO.o yw55)).mono ?_) AllJ.nil
   rintro e yw56 ⟨yu57, rfl, yho58, yhg59⟩
   have yP60 := yP49.grow hC yhg59
   have yhu61 := Su.Owns.has yho58
   have yhv62 := (yhg59.block yB48 yhlt54).trans yhv51
   have yhlt63 := Nat.lt_of_lt_of_le yhlt54 yhg59.size
   refine ⟨_, rfl, HI.o _ _ _ yP60, ?_⟩
   try simp only [Act.put, sA, sB, sC]
   refine jU [8] (by kernel_rfl) (by simp) ?_
   refine AllJ.call jB 8 44 153 #[.pointer (some ⟨Wb, 0, none⟩), yu57] rfl (by kernel_rfl) (by go_simp) ((callsIn_wide.2 (CA.o _ yw56 yu57 yP60 yhu61)).mono ?_) AllJ.nil
   rintro e yw64 ⟨rfl, hpo⟩
   obtain ⟨yM65, yP66, yhM67, yhf68⟩ := yP60.next hpo
   have yhv69 := (yhf68.same yB48 yhlt63 yhn52).trans yhv62
   have yhn70 := kH yhM67 yhn52 yhlt63
   have yhlt71 := Nat.lt_of_lt_of_le yhlt63 yhf68.size
   have yP72 : PS St pre (tk ++ (tp.2 ++ [T])) M yM65 w6 yw64 := by rw [← List.append_assoc]; exact yP66
   refine ⟨_, rfl, HI.o _ _ _ yP72, ?_⟩
   try simp only [Act.put, sA, sB, sC]
   refine jU [10] (by kernel_rfl) (by simp) ?_
   obtain ⟨yP73, yhx74⟩ := HF.o yw64 _ yB48 yP72 yhv69 yhn70 yhle53
   refine AllJ.skip jB 10 (yw64.setRow yB48 XI) rfl (by kernel_rfl) (jE 22 _ _ rfl yB48 XI z22 rfl rfl _ yhv69 (by rw [jl, HT.o.2.2.1]) (by rw [jh, HT.o.2.2.1]) HT.o.2.2.2) (HI.o _ _ _ yP73) ?_ AllJ.nil
   try simp only [List.setIfInBounds_toArray, List.set_cons_zero, List.set_cons_succ]
   refine zp (by kernel_rfl) ?_
   have HQ := hid (⟨yP73, yhx74⟩ : _ ∧ _)
   have hq2 := j7 (yP73.at hC H6.o.2.1 H6.o.2.2.1 H6.o.2.2.2.1 H6.o.2.2.2.2.1).1.lies 2 _ rfl
   have hqB : (yw64.setRow yB48 XI).heap[B]? = some (.cells z22 22 (0, 0)) := (yP73.fr.same B H6.o.2.2.2.2.2.2.2.2.1 H6.o.2.2.2.2.2.2.1).trans H6.o.2.2.2.2.2.2.2.1
   clear yP73 yhx74
   generalize yw64.setRow yB48 XI = wf at *
   go_wp2_with (first
    | ((with_reducible refine j0 (.bool false) ?_ ?_); exact yc _ rfl rfl rfl _)
    | ((with_reducible refine j0 (.agg XI) ?_ ?_); exact ji 22 _ rfl yB48 0 rfl XI _ (j9 HQ.o.2) Tryz.underlying22 rfl (by rw [jl, HT.o.2.2.1]))
    | ((with_reducible refine j8 (wf.setRow B XI) ?_ ?_); exact jE 22 _ _ rfl B XI z22 rfl rfl _ hqB (by rw [jl, HT.o.2.2.1]) (by rw [jh, HT.o.2.2.1]) HT.o.2.2.2))
   refine bodyPost_ret (results_cell_row (P := Tryz.prog) (p := 4) (ty := 22) rfl _ _ B 22 XI (0, 0) _ rfl (setRow_heap _ _ _ _ _ _ hqB) Tryz.underlying22 rfl (by rw [jl, HT.o.2.2.1])) rfl ?_
   rw [HZ.o]
   exact ⟨by rw [HXI.o], HEND.o _ _ HQ.o.1⟩
 ·obtain ⟨yB75, yhB77⟩ : ∃ B9, w9.heap.size = B9 := ⟨_, rfl⟩
  have yP76 := hp9.grow hC (G.alloc w9 (.cells z22 22))
  refine AllJ.value jB 9 9 (.pointer (some ⟨yB75, 0, none⟩)) (w9.alloc (.cells z22 22)) rfl (by kernel_rfl) (jC 22 z22 rfl qY _ _ yhB77) (HI.o _ _ _ yP76) ?_ AllJ.nil
  try simp only [Act.put, sA, sB, sC]
  have yhv78 : (w9.alloc (.cells z22 22)).heap[yB75]? = some (.cells z22 22 (0, 0)) := by rw [← yhB77]; exact World.alloc_heap_new _ _
  have yhn79 := fun h => (absurd ((hC.bnd hp9.st).2 yB75 h).2 (by omega) : False)
  have yhle80 : w6.heap.size ≤ yB75 := by have := hp9.fr.size; omega
  have yhlt81 : yB75 < (w9.alloc (.cells z22 22)).heap.size := by rw [World.size_alloc]; omega
  have yhg83 := hg9.trans (G.alloc w9 (.cells z22 22))
  generalize w9.alloc (.cells z22 22) = yw82 at *
  refine jU [6] (by kernel_rfl) (by simp) ?_
  refine AllJ.call jB 6 42 157 #[.pointer (some ⟨Wb, 0, none⟩), .slice a8 n cap8] rfl (by kernel_rfl) (by go_simp) ((callsIn_wide.2 (hp8.o.2 yw82 yhg83)).mono ?_) AllJ.nil
  rintro e yw84 ⟨rfl, hpo⟩
  obtain ⟨yM85, yP86, yhM87, yhf88⟩ := yP76.next hpo
  have yhv89 := (yhf88.same yB75 yhlt81 yhn79).trans yhv78
  have yhn90 := kH yhM87 yhn79 yhlt81
  have yhlt91 := Nat.lt_of_lt_of_le yhlt81 yhf88.size
  refine ⟨_, rfl, HI.o _ _ _ yP86, ?_⟩
  try simp only [Act.put, sA, sB, sC]
  refine jU [7] (by kernel_rfl) (by simp) ?_
  refine AllJ.call jB 7 43 154 #[.agg X, .int .i64 n, .agg XT] rfl (by kernel_rfl) (by go_simp) ((callsIn_wide.2 (CO.o yw84)).mono ?_) AllJ.nil
  rintro e yw92 ⟨yu93, rfl, yho94, yhg95⟩
  have yP96 := yP86.grow hC yhg95
  have yhu97 := Su.Owns.has yho94
  have yhv98 := (yhg95.block yB75 yhlt91).trans yhv89
  have yhlt99 := Nat.lt_of_lt_of_le yhlt91 yhg95.size
  refine ⟨_, rfl, HI.o _ _ _ yP96, ?_⟩
  try simp only [Act.put, sA, sB, sC]
  refine jU [8] (by kernel_rfl) (by simp) ?_
  refine AllJ.call jB 8 44 153 #[.pointer (some ⟨Wb, 0, none⟩), yu93] rfl (by kernel_rfl) (by go_simp) ((callsIn_wide.2 (CA.o _ yw92 yu93 yP96 yhu97)).mono ?_) AllJ.nil
  rintro e yw100 ⟨rfl, hpo⟩
  obtain ⟨yM101, yP102, yhM103, yhf104⟩ := yP96.next hpo
  have yhv105 := (yhf104.same yB75 yhlt99 yhn90).trans yhv98
  have yhn106 := kH yhM103 yhn90 yhlt99
  have yhlt107 := Nat.lt_of_lt_of_le yhlt99 yhf104.size
  have yP108 : PS St pre (tk ++ (tp.2 ++ [T])) M yM101 w6 yw100 := by rw [← List.append_assoc]; exact yP102
  refine ⟨_, rfl, HI.o _ _ _ yP108, ?_⟩
  try simp only [Act.put, sA, sB, sC]
  refine jU [10] (by kernel_rfl) (by simp) ?_
  obtain ⟨yP109, yhx110⟩ := HF.o yw100 _ yB75 yP108 yhv105 yhn106 yhle80
  refine AllJ.skip jB 10 (yw100.setRow yB75 XI) rfl (by kernel_rfl) (jE 22 _ _ rfl yB75 XI z22 rfl rfl _ yhv105 (by rw [jl, HT.o.2.2.1]) (by rw [jh, HT.o.2.2.1]) HT.o.2.2.2) (HI.o _ _ _ yP109) ?_ AllJ.nil
  try simp only [List.setIfInBounds_toArray, List.set_cons_zero, List.set_cons_succ]
  refine zp (by kernel_rfl) ?_
  have HQ := hid (⟨yP109, yhx110⟩ : _ ∧ _)
  have hq2 := j7 (yP109.at hC H6.o.2.1 H6.o.2.2.1 H6.o.2.2.2.1 H6.o.2.2.2.2.1).1.lies 2 _ rfl
  have hqB : (yw100.setRow yB75 XI).heap[B]? = some (.cells z22 22 (0, 0)) := (yP109.fr.same B H6.o.2.2.2.2.2.2.2.2.1 H6.o.2.2.2.2.2.2.1).trans H6.o.2.2.2.2.2.2.2.1
  clear yP109 yhx110
  generalize yw100.setRow yB75 XI = wf at *
  go_wp2_with (first
   | ((with_reducible refine j0 (.bool false) ?_ ?_); exact yc _ rfl rfl rfl _)
   | ((with_reducible refine j0 (.agg XI) ?_ ?_); exact ji 22 _ rfl yB75 0 rfl XI _ (j9 HQ.o.2) Tryz.underlying22 rfl (by rw [jl, HT.o.2.2.1]))
   | ((with_reducible refine j8 (wf.setRow B XI) ?_ ?_); exact jE 22 _ _ rfl B XI z22 rfl rfl _ hqB (by rw [jl, HT.o.2.2.1]) (by rw [jh, HT.o.2.2.1]) HT.o.2.2.2))
  refine bodyPost_ret (results_cell_row (P := Tryz.prog) (p := 4) (ty := 22) rfl _ _ B 22 XI (0, 0) _ rfl (setRow_heap _ _ _ _ _ _ hqB) Tryz.underlying22 rfl (by rw [jl, HT.o.2.2.1])) rfl ?_
  rw [HZ.o]
  exact ⟨by rw [HXI.o], HEND.o _ _ HQ.o.1⟩
theorem iE (hC : CB St lo Wb (.pointer (some c1)) (.pointer (some c2)) (.pointer (some c3))) : ∀ (Z : Nat) (v : Vd) (k : K), k.flat.size < Z → vOk v → fOk k.flat → k.flat.size ≤ 100000 → cS St lo Wb c1 c2 c3 v k
 | 0, _, _, h, _, _, _ => absurd h (Nat.not_lt_zero _)
 | Z + 1, v, k, hZ, hv, hf, hs => by
  by_cases hk : v.kind = 1
  ·refine pX hC v k hv hk hf hs fun x hx => ?_
   have h1 := yP x hx
   have h2 := iC (by rw [qQ]; exact hf) x hx
   exact iE hC Z x.v x.k (by omega) h2.1 h2.2 (by omega)
  ·exact nM hC v k hv hk
end
attribute [local go_sem] Oper.semAt_some
theorem pZ (u : Value) (t : List Nat) (W : World) (hu : Su.Has W u t) (hB : Su.Bytes t) (hT : Su.Tabs W) (hl : t.length ≤ 1000000) :
  Calls Tryz.prog 117 #[u] W fun e W' => e = .returned (.agg ((shaL t).map Su.vb).toArray) ∧ G W W' := by
 obtain ⟨ao, cp, rfl, _⟩ := hu.form
 obtain ⟨B, hBs⟩ : ∃ B, W.heap.size = B := ⟨_, rfl⟩
 obtain ⟨w1, hw1⟩ : ∃ w1, w1 = (W.alloc (.cells z22 22)).alloc (.cells #[.slice ao t.length cp] 35) := ⟨_, rfl⟩
 have hG1 : G W w1 := by rw [hw1]; exact (G.alloc _ _).trans (G.alloc _ _)
 have hc : w1.cell? ⟨B + 1, 0, none⟩ = some (.slice ao t.length cp) := by
  have := j7 (jS (W.alloc (.cells z22 22)) #[.slice ao t.length cp] 35) 0 _ rfl
  rw [World.size_alloc, hBs] at this
  rw [hw1]
  exact this
 have hv : w1.heap[B]? = some (.cells z22 22 (0, 0)) := by
  rw [hw1, Below.heap_alloc _ _ _ (by rw [World.size_alloc]; omega), ← hBs]
  exact World.alloc_heap_new W _
 have CC := ml _ t w1 (B + 1) hc (hu.below hG1) hB (hT.up hG1) (by omega)
 have HX : Hid (((shaL t).map Su.vb).toArray.size = 32 ∧ ((shaL t).map Su.vb).toArray.all (·.oneCell') = true) := ⟨by simp [qS], kO _⟩
 generalize ((shaL t).map Su.vb).toArray = X at *
 have HA := hid (⟨hG1, hv⟩ : _ ∧ _)
 have hs1 : (W.alloc (.cells z22 22)).heap.size = B + 1 := by rw [World.size_alloc, hBs]
 clear hu hT hG1 hc hv
 go_enter Tryz.func117, Tryz.ntmps117
 go_wp2_with (first
  | ((with_reducible refine jA (.pointer (some ⟨B, 0, none⟩)) (W.alloc (.cells z22 22)) ?_ ?_); exact jC 22 z22 rfl qY _ _ hBs)
  | (go_at_call 83; rw [← hw1]; refine CC.mono ?_; rintro e w2 ⟨rfl, hg2⟩; have hv2 : w2.heap[B]? = some (.cells z22 22 (0, 0)) := (hg2.block B (gS HA.o.2)).trans HA.o.2; have HG := hid (⟨HA.o.1.trans hg2, hv2⟩ : _ ∧ _); clear hg2 hv2)
  | ((with_reducible refine j8 (w2.setRow B X) ?_ ?_); exact jE 22 _ _ rfl B X z22 rfl rfl _ HG.o.2 (by rw [jl, HX.o.1]) (by rw [jh, HX.o.1]) HX.o.2))
 refine bodyPost_ret (results_cell_row (P := Tryz.prog) (p := 2) (ty := 22) rfl _ _ B 22 X (0, 0) _ rfl (setRow_heap _ _ _ _ _ _ HG.o.2) Tryz.underlying22 rfl (by rw [jl, HX.o.1])) rfl ⟨rfl, ?_⟩
 exact Below.trans (B := W.heap.size) HG.o.1 ⟨rfl, rfl, rfl, by simp, fun b hb => setRow_other _ B b _ (by omega)⟩
def xC (W : World) (Hb : Nat) : Prop := W.heap[Hb]? = some (.cells #[.func (.func 117) #[] #[]] 185 (0, 0))
theorem pc (u : Value) (t : List Nat) (Hb : Nat) (W : World) (hH : xC W Hb) (hu : Su.Has W u t) (hB : Su.Bytes t) (hT : Su.Tabs W) (hl : t.length ≤ 1000000) :
  Calls Tryz.prog 120 #[.pointer (some ⟨Hb, 0, none⟩), u] W fun e W' => e = .returned (.agg ((shaL t).map Su.vb).toArray) ∧ G W W' := by
 obtain ⟨B, hBs⟩ : ∃ B, W.heap.size = B := ⟨_, rfl⟩
 obtain ⟨w1, hw1⟩ : ∃ w1, w1 = W.alloc (.cells z22 22) := ⟨_, rfl⟩
 have hG1 : G W w1 := by rw [hw1]; exact G.alloc _ _
 have hv : w1.heap[B]? = some (.cells z22 22 (0, 0)) := by rw [hw1, ← hBs]; exact World.alloc_heap_new W _
 have hf : ∀ w, G w1 w → w.cell? ⟨Hb, 0, none⟩ = some (.func (.func 117) #[] #[]) := fun w hg => hg.cell (hG1.cell (j7 (j9 hH) 0 _ rfl))
 have C1 : ∀ w, G w1 w → Calls Tryz.prog 90 #[u] w fun e w' => ∃ v, e = .returned v ∧ Su.Owns w' w.heap.size v t ∧ G w w' := fun w hg => sY u t w (hu.below (hG1.trans hg)) (by omega)
 have C2 : ∀ w v, G w1 w → Su.Has w v t → Calls Tryz.prog 117 #[v] w fun e W' => e = .returned (.agg ((shaL t).map Su.vb).toArray) ∧ G w W' := fun w v hg hv => pZ v t w hv hB (hT.up (hG1.trans hg)) hl
 have HX : Hid (((shaL t).map Su.vb).toArray.size = 32 ∧ ((shaL t).map Su.vb).toArray.all (·.oneCell') = true) := ⟨by simp [qS], kO _⟩
 generalize ((shaL t).map Su.vb).toArray = X at *
 have HA := hid (⟨hG1, hv, hf, C1, C2⟩ : _ ∧ _ ∧ _ ∧ _ ∧ _)
 clear hu hT hG1 hv hf C1 C2 hH
 refine (callsIn_wide (n := 3)).1 ?_
 refine callsIn_of_wp_marks Tryz.func120 rfl trivial (Go.wpIn_mono (Q := RetM Tryz.f120 _) ?_ RetM.post) rfl
 simp only [Tryz.ntmps120, List.size_toArray, lC, lN, Nat.reduceAdd, Nat.reduceSub, Array.replicate_succ, Array.replicate_zero, List.push_toArray, List.append_toArray, List.nil_append, List.cons_append]
 gi_wp2_with ((with_reducible refine qs (.pointer (some ⟨B, 0, none⟩)) (W.alloc (.cells z22 22)) ?_ ?_ ?_ ?_ ?_); rfl; exact jC 22 z22 rfl qY _ _ hBs; (intro c h; cases h); exact fun _ _ => trivial)
 rw [← hw1]
 refine qx 7 ?_
 have HD : Hid (G w1 w1.drew) := G.drew w1
 generalize w1.drew = w2 at *
 refine tX 0 5 (.pointer (some ⟨Hb, 0, none⟩)) (fun wz hz => ?_) ?_
 ·rfl
 refine tX 1 6 (.pointer (some ⟨Hb, 0, none⟩)) (fun wz hz => ?_) ?_
 ·go_simp
 refine tX 2 7 (.pointer (some ⟨Hb, 0, none⟩)) (fun wz hz => ?_) ?_
 ·go_simp
 refine tX 3 8 (.func (.func 117) #[] #[]) (fun wz hz => ?_) ?_
 ·have y := HA.o.2.2.1 wz (HD.o.trans hz); go_simp
 refine tX 4 9 (u) (fun wz hz => ?_) ?_
 ·rfl
 refine yI [5] (by kernel_rfl) (by simp) fun w3 hg3 => ?_
 refine kX 5 10 90 #[u] rfl (by kernel_rfl) (by go_simp) ((callsIn_wide.2 (HA.o.2.2.2.1 w3 (HD.o.trans hg3))).mono ?_)
 rintro e w4 ⟨u4, rfl, h4, hg4⟩
 refine ⟨_, rfl, hg4, ?_⟩
 try simp only [Act.put, sA, sB, sC]
 refine yI [6] (by kernel_rfl) (by simp) fun w5 hg5 => ?_
 refine kX 6 11 117 #[u4] rfl (by kernel_rfl) (by go_simp) ((callsIn_wide.2 (HA.o.2.2.2.2 w5 u4 (((HD.o.trans hg3).trans hg4).trans hg5) (Su.Owns.has (Su.Owns.below h4 hg5 (Nat.le_refl _))))).mono ?_)
 rintro e w6 ⟨rfl, hg6⟩
 refine ⟨_, rfl, hg6, ?_⟩
 try simp only [Act.put, sA, sB, sC]
 refine fq (by kernel_rfl) fun w9 hg9 => ?_
 have hz9 : G w1 w9 := ((((HD.o.trans hg3).trans hg4).trans hg5).trans hg6).trans hg9
 have hv9 : w9.heap[B]? = some (.cells z22 22 (0, 0)) := (hz9.block B (gS HA.o.2.1)).trans HA.o.2.1
 refine rI [7] ?_
 refine uJ jB 7 (w9.setRow B X) rfl rfl (by kernel_rfl) (by intro c h; cases h) (jE 22 _ _ rfl B X z22 rfl rfl _ hv9 (by rw [jl, HX.o.1]) (by rw [jh, HX.o.1]) HX.o.2) ?_
 try simp only [List.setIfInBounds_toArray, List.set_cons_zero, List.set_cons_succ]
 refine dI ?_
 have HF : Hid ((w9.setRow B X).heap[B]? = some (.cells X 22 (0, 0)) ∧ G W (w9.setRow B X)) := ⟨setRow_heap _ _ _ _ _ _ hv9, Below.trans (B := W.heap.size) (HA.o.1.trans hz9) ⟨rfl, rfl, rfl, by simp, fun b hb => setRow_other _ B b _ (by omega)⟩⟩
 clear h4 hv9 hz9
 gi_wp2_with fail
 exact ⟨_, results_cell_row (P := Tryz.prog) (p := 4) (ty := 22) rfl _ _ B 22 X (0, 0) _ rfl HF.o.1 Tryz.underlying22 rfl (by rw [jl, HX.o.1]), rfl, HF.o.2⟩
theorem su (w : World) : (binOp .eql 183 .nilFunc .nilFunc).run Tryz.prog w = .ok (.bool true) w := by kernel_rfl
theorem lE (w : World) : (eqGuard .eql 183 (.tmp 3) (.const .nilFunc) .nilFunc .nilFunc).run Tryz.prog w = .ok () w := by kernel_rfl
theorem gE {o : Oper} {a : Act} (y : Operand) (ho : o.op = .binOp .eql 183 (.tmp 3) y 183) (hy0 : y = .const .nilFunc) (hx : a.eval (.tmp 3) = .nilFunc) (w : World) : (execOp a.eval o).run Tryz.prog w = .ok (.value (.bool true)) w := by
 have hy : a.eval y = .nilFunc := by rw [hy0]; rfl
 unfold execOp
 simp only [ho, hx, hy, Sem.run_bind]
 rw [hy0, lE]
 simp only [Result.andThen_ok, su, Sem.run_pure]
theorem tz (W : World) : Calls Tryz.prog 81 #[.nilFunc] W fun e W' => e = .returned (.pointer (some ⟨W.heap.size, 0, none⟩)) ∧ W' = W.alloc (.cells #[.func (.func 117) #[] #[]] 185) := by
 go_enter Tryz.func81, Tryz.ntmps81
 go_wp2_with ((with_reducible refine j0 (.bool true) ?_ ?_); exact gE _ rfl rfl rfl _)
 go_ret
 exact ⟨rfl, rfl⟩
theorem nR (Hb p : Nat) (W : World) : Calls Tryz.prog 82 #[.pointer (some ⟨Hb, 0, none⟩), .pointer (some ⟨p, 0, none⟩)] W fun e W' => e = .returned (.func (.func 118) #[] #[.pointer (some ⟨W.heap.size, 0, none⟩), .pointer (some ⟨W.heap.size + 1, 0, none⟩)]) ∧ W' = (W.alloc (.cells #[.pointer (some ⟨Hb, 0, none⟩)] 149)).alloc (.cells #[.pointer (some ⟨p, 0, none⟩)] 32) := by
 have hmf : ∀ (fn : Fn) (first cap : Array Value) (w : World), (Instr.makeFunc fn first cap).run Tryz.prog w = .ok (.func fn first cap) w := fun _ _ _ _ => rfl
 go_enter Tryz.func82, Tryz.ntmps82
 go_wp2
 go_ret
 exact ⟨rfl, rfl⟩
end Go.Proofs.YtjikkhbcbfpocaaGreatDoor
