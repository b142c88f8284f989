/-
  tree.Check and tree.Of by contract.
-/
import Derived.Test.YtglnpmdigghibaaFault
import Derived.Test.YtglnpmdigghibaaKids
import Derived.Test.YtglnpmdigghibaaPJoin
namespace Go.Proofs.Ytglnpmdigghibaa
open Go.RowKit

/-- how long names are together -/
def wsum : List ByteArray → Nat
  | [] => 0
  | s :: L => 1 + s.size + wsum L
theorem wsum_append (a b : List ByteArray) : wsum (a ++ b) = wsum a + wsum b := by
  induction a with
  | nil => simp [wsum]
  | cons x a ih => simp only [List.cons_append, wsum, ih]; omega
theorem len_wsum (a : List ByteArray) : a.length ≤ wsum a := by
  induction a with
  | nil => simp
  | cons x a ih => simp only [List.length_cons, wsum]; omega
theorem join_wsum : ∀ a : List ByteArray, (joinL (a.map tl)).length ≤ wsum a
  | [] => by simp [joinL]
  | [x] => by simp [joinL, wsum, tl_len]
  | x :: y :: a => by
    have ih := join_wsum (y :: a)
    simp only [List.map_cons, joinL, List.length_append, List.length_cons, tl_len] at ih ⊢
    simp only [wsum] at ih ⊢
    omega
theorem fault_wsum : ∀ (f : F) (prev : Option ByteArray) (L P : List ByteArray) (e : Int), faultF f prev L = some (P, e) → wsum P ≤ wsum L + f.weight
  | .nil, _, _, _, _, h => by cases h
  | .cons nm v m ks r, prev, L, P, e, h => by
    rw [faultF] at h
    have hw : wsum (L ++ [nm]) = wsum L + (1 + nm.size) := by rw [wsum_append]; simp [wsum]
    split at h
    · injection h with h; injection h with h1; subst h1; rw [hw, F.weight]; omega
    · split at h
      · injection h with h; injection h with h1; subst h1; rw [hw, F.weight]; omega
      · cases hx : faultF ks none (L ++ [nm]) with
        | some x =>
          rw [hx] at h
          injection h with h
          subst h
          have := fault_wsum ks none (L ++ [nm]) P e hx
          rw [hw] at this
          rw [F.weight]; omega
        | none =>
          rw [hx] at h
          have := fault_wsum r (some nm) L P e h
          rw [F.weight]; omega
theorem faultN_wsum {v : Vd} {m : Md} {ks : F} {P : List ByteArray} {e : Int} (h : faultN v m ks [] = some (P, e)) : wsum P ≤ ks.weight := by
  unfold faultN at h
  split at h
  · injection h with h; injection h with h1; subst h1; simp [wsum]
  · have := fault_wsum ks none [] P e h
    simpa [wsum] using this
theorem F.ok_of_weight : ∀ f : F, f.weight ≤ 9223372036854775807 → f.ok
  | .nil, _ => trivial
  | .cons nm v m ks r, h => by
    simp only [F.weight] at h
    have h1 := F.size_le_weight ks
    have h2 := F.len_le_size ks
    exact ⟨by omega, by omega, F.ok_of_weight ks (by omega), F.ok_of_weight r (by omega)⟩
theorem F.okL_of_weight (f : F) (h : f.weight ≤ 9223372036854775807) : f.okL := Nat.le_trans (F.size_le_weight f) h

/-- the names and the error of an answer -/
def namesOf : Option (List ByteArray × Int) → List ByteArray
  | none => []
  | some (P, _) => P
def errOf : Option (List ByteArray × Int) → Int
  | none => 0
  | some (_, e) => e
theorem FaultRes.both {w : World} {u : Value} {er : Int} {r : Option (List ByteArray × Int)} (h : FaultRes w u er r) : HasT w u (namesOf r) ∧ er = errOf r := by
  cases r with
  | none => exact ⟨.inl ⟨h.2, rfl⟩, h.1⟩
  | some x => exact ⟨h.2.2, h.1⟩
theorem G.of_grown {w w' : World} (h : w.grownBy w' none) : G w w' := ⟨h.os, h.tape, h.output, h.size, fun k hk => h.block k hk (by simp)⟩
/-- what Check answers -/
def checkP (v : Vd) (m : Md) (ks : F) : ByteArray := ofB (joinL ((namesOf (faultN v m ks [])).map tl))
def checkE (v : Vd) (m : Md) (ks : F) : Int := errOf (faultN v m ks [])
theorem names_wsum (v : Vd) (m : Md) (ks : F) : wsum (namesOf (faultN v m ks [])) ≤ ks.weight := by
  cases h : faultN v m ks [] with
  | none => simp [namesOf, wsum]
  | some x => exact faultN_wsum (e := x.2) h

set_option maxRecDepth 100000 in
set_option maxHeartbeats 1000000 in
theorem tcheck_any (c : Array Value) (nm : ByteArray) (v : Vd) (m : Md) (ks : F) (w : World) (hN : HasN w c nm v m ks) (hw : ks.weight ≤ 100000) :
    Calls Try.prog 15 #[.agg c] w fun e w' => e = .returned (.tuple #[.string (checkP v m ks), .int .i64 (checkE v m ks)]) ∧ G w w' := by
  obtain ⟨kv, hc, hS⟩ := hN
  have hB : G w (w.alloc (.cells c 30)) := G.alloc _ _
  have hl := lies_new w c 30
  rw [hc] at hl
  have C1 := fault_any (w.alloc (.cells (nc nm v m kv) 30)) (ks.size + 1) ks (Nat.lt_succ_self _) w.heap.size 0 nm v m kv hl (by rw [← hc]; exact hS.below hB) (F.okL_of_weight _ (by omega)) (F.ok_of_weight _ (by omega)) (w.alloc (.cells (nc nm v m kv) 30)) (.slice none 0 0) [] (Below.refl _ _) (OwnsT.nil _ _) (by simp)
  rw [← hc] at C1
  have HG : Hid (G w (w.alloc (.cells c 30))) := hB
  have hws := names_wsum v m ks
  have C2 : Hid (∀ (W : World) (u : Value), HasT W u (namesOf (faultN v m ks [])) → Calls Try.prog 28 #[u] W fun e w' => e = .returned (.string (checkP v m ks)) ∧ G W w') := fun W u h => pathJoin_any u _ W h (by have := len_wsum (namesOf (faultN v m ks [])); omega) (by have := join_wsum (namesOf (faultN v m ks [])); omega)
  have HE : Hid (errOf (faultN v m ks []) = checkE v m ks) := rfl
  generalize checkP v m ks = cp at *
  generalize checkE v m ks = ce at *
  clear hl hc hS hB hw hws
  go_enter Try.func15, Try.ntmps15
  go_upto_region 1 with fail
  generalize w.alloc (.cells c 30) = w1 at *
  generalize w.heap.size = H at *
  go_wp2_with (first
    | (go_at_call 27; refine C1.mono ?_; rintro e w2 ⟨u, er, rfl, hg2, _, hres⟩; obtain ⟨hT, her⟩ := hres.both; rw [HE.out] at her; subst her; have CJ := C2.out w2 u hT; have HG2 : Hid (G w w2) := HG.out.trans (G.of_grown hg2); obtain ⟨au, cu, hu, _⟩ := hT.form; subst hu; clear C1 C2 hT hg2 hres)
    | (go_at_call 28; refine CJ.mono ?_; rintro e w3 ⟨rfl, g3⟩))
  go_ret2
  exact ⟨rfl, HG2.out.trans g3⟩

/-- the tree that Of answers -/
def OfRes (w : World) (u : Value) (ce : Int) (v : Vd) (m : Md) (ks : F) : Prop := (ce ≠ 0 ∧ u = .pointer none) ∨ (ce = 0 ∧ ∃ p k, u = .pointer (some ⟨p, 0, none⟩) ∧ AtT w p v m k ∧ k.flat = ks)
set_option maxRecDepth 100000 in
set_option maxHeartbeats 1000000 in
theorem of_any (c : Array Value) (nm : ByteArray) (v : Vd) (m : Md) (ks : F) (w : World) (hN : HasN w c nm v m ks) (hw : ks.weight ≤ 100000) :
    Calls Try.prog 5 #[.agg c] w fun e w' => ∃ u, e = .returned (.tuple #[u, .int .i64 (checkE v m ks)]) ∧ G w w' ∧ OfRes w' u (checkE v m ks) v m ks := by
  have hB : G w (w.alloc (.cells c 30)) := G.alloc _ _
  have C1 := tcheck_any c nm v m ks (w.alloc (.cells c 30)) (hN.below hB) hw
  obtain ⟨kv, hc, hS⟩ := hN
  have hl := lies_new w c 30
  have HL : Hid (Lies (w.alloc (.cells c 30)) w.heap.size 0 c ∧ c.size = 41) := ⟨hl, by rw [hc]; exact nc_size ..⟩
  have C2 := hid (fun (W : World) (hW : G (w.alloc (.cells c 30)) W) => made_any w.heap.size 0 nm v m kv ks W (by have := hW.lies hl; rw [hc] at this; exact this) ((hS.below hB).below hW) (F.okL_of_weight _ (by omega)) (children_any (ks.size + 1) ks (Nat.lt_succ_self _)))
  have HG : Hid (G w (w.alloc (.cells c 30))) := hB
  generalize checkP v m ks = cp at *
  generalize checkE v m ks = ce at *
  clear hl hc hS hB hw
  go_enter Try.func5, Try.ntmps5
  go_upto_region 1 with fail
  generalize w.alloc (.cells c 30) = w1 at *
  generalize w.heap.size = H at *
  by_cases h0 : ce = 0
  · subst h0
    go_wp2_with (first
      | (with_reducible refine wpList_exec (.agg c) ?_ ?_ ?_; exact exec_load30 _ rfl H 0 rfl c HL.out.2 HL.out.1; kernel_rfl)
      | (go_at_call 15; refine C1.mono ?_; rintro e w2 ⟨rfl, g2⟩; have CM := C2.out w2 g2; have HG2 : Hid (G w w2) := HG.out.trans g2; clear C1 C2 g2)
      | (go_at_call 16; refine CM.mono ?_; rintro e w3 ⟨p, k, rfl, h3⟩; have H3 := hid h3; clear h3 CM))
    go_ret2
    exact ⟨_, rfl, HG2.out.trans H3.out.2.2, .inr ⟨rfl, p, k, rfl, H3.out.1, H3.out.2.1⟩⟩
  · have h0' : (ce != 0) = true := by simpa using h0
    have H0 : Hid (ce ≠ 0) := h0
    clear h0
    go_wp2_with (first
      | (with_reducible refine wpList_exec (.agg c) ?_ ?_ ?_; exact exec_load30 _ rfl H 0 rfl c HL.out.2 HL.out.1; kernel_rfl)
      | (go_at_call 15; refine C1.mono ?_; rintro e w2 ⟨rfl, g2⟩; have HG2 : Hid (G w w2) := HG.out.trans g2; clear C1 C2 g2))
    go_ret2
    exact ⟨_, rfl, HG2.out, .inl ⟨H0.out, rfl⟩⟩
end Go.Proofs.Ytglnpmdigghibaa
