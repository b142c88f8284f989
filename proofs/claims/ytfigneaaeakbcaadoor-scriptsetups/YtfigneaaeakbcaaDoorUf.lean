/-
  THE REFERENCE: lines.
-/
import Derived.Test.YtfigneaaeakbcaaDoorUe
import Derived.Test.YtfigneaaeakbcaaDoorPw
namespace Go.Proofs.YtfigneaaeakbcaaDoor
open Go.RowKit Hm
attribute [local go_sem] Oper.semAt_some

theorem ek42 : Ek 42 45 2 := ⟨Tryd.underlying42, by decide, by decide, .agg #[.slice none 0 0, .int .i64 0], 32, by rfl, by decide, by kernel_rfl⟩
/-- a line that is laid: its words, its end -/
structure Ln where
  v : Value
  l : List W
  e : Nat
def lc (x : Ln) : Array Value := #[x.v, .int .i64 (x.e : Int)]
/-- lines in memory -/
structure LnI (w : World) (B : Nat) (o : Value) (V : List Ln) : Prop where
  row : OwL 45 2 w B o (V.map lc)
  wds : ∀ x ∈ V, OwL 65 3 w B x.v (x.l.map rc)
theorem LnI.up {w w' : World} {B : Nat} {o : Value} {V : List Ln} (h : LnI w B o V) (k : G w w') : LnI w' B o V := ⟨h.row.up k, fun x hx => (h.wds x hx).up k⟩
theorem ln_app {w wr : World} {V : List Ln} {so : Option Addr} {sc n : Nat} (hn : V.length = n) (ho : LnI wr w.heap.size (.slice so n sc) V) (hg : G w wr) (x : Ln) (hx : OwL 65 3 wr w.heap.size x.v (x.l.map rc)) (hb : n ≤ 1000000) :
    ∃ pa pc wg w2, wg = wr.alloc (.cells (lc x) 45) ∧ (Builtin.append_ #[42, 42] 42 #[.slice so n sc, .slice (some ⟨wr.heap.size, 0, none⟩) 1 1]).run Tryd.prog wg = .ok (.slice pa (n + 1) pc) w2 ∧ LnI w2 w.heap.size (.slice pa (n + 1) pc) (V ++ [x]) ∧ G w w2 := by
  obtain ⟨va, vc, hv⟩ := hx.form
  have hone : (lc x).all (·.oneCell') = true := by rw [lc, hv]; simp [Value.oneCell']
  obtain ⟨v', w2, r1, r2, r3, r4⟩ := app_one ek42 42 (lc x) rfl hone ho.row hg.size (by simp; omega) wr.heap.size rfl
  obtain ⟨pa, pc, hv'⟩ := r2.form
  have hlenA : (List.map lc V ++ [lc x]).length = n + 1 := by simp; omega
  rw [hlenA] at hv'
  subst hv'
  have key : ∀ v L, OwL 65 3 wr w.heap.size v L → OwL 65 3 w2 w.heap.size v L := fun v L h => h.block fun k hk => by
    obtain ⟨_, cur, hh⟩ := own_cells h hk
    refine r3.block k (h.lt k hk).2 fun e => ?_
    obtain ⟨_, cur2, hh2⟩ := own_cells ho.row e.symm
    rw [hh] at hh2
    cases hh2
  refine ⟨pa, pc, _, w2, rfl, r1, ⟨by rw [List.map_append]; exact r2, fun y hy => ?_⟩, hg.grown r3 hg.size (fun k hk => (ho.row.lt k hk).1)⟩
  rcases List.mem_append.1 hy with hy | hy
  · exact key _ _ (ho.wds y hy)
  · simp at hy; subst hy; exact key _ _ hx
def lnOf (V : List Ln) : List (List W × Nat) := V.map fun x => (x.l, x.e)
theorem ln_mid {t : By} {f i : Nat} (hfi : f ≤ i) (hi : t[i]? = some 10) (hno : (10 : UInt8) ∉ (t.drop f).take (i - f)) : lnR f (linesR (t.drop f)) = (wds ((t.drop f).take (i - f)) f, i) :: lnR (i + 1) (linesR (t.drop (i + 1))) := by
  have hil := (List.getElem?_eq_some_iff.1 hi).1
  have e : t.drop f = (t.drop f).take (i - f) ++ 10 :: t.drop (i + 1) := by
    have h1 := List.take_append_drop (i - f) (t.drop f)
    rw [List.drop_drop, show f + (i - f) = i by omega, drop_at hi] at h1
    exact h1.symm
  have hl : ((t.drop f).take (i - f)).length = i - f := by rw [List.length_take, List.length_drop]; omega
  rw [e, linesR_mid _ hno, ← e, lnR, hl, show f + (i - f) = i by omega]
theorem ln_end {t : By} {f : Nat} (hf : f ≤ t.length) (hno : (10 : UInt8) ∉ (t.drop f).take (t.length - f)) : lnR f (linesR (t.drop f)) = [(wds ((t.drop f).take (t.length - f)) f, t.length)] := by
  have e : (t.drop f).take (t.length - f) = t.drop f := List.take_of_length_le (by rw [List.length_drop]; omega)
  rw [e] at hno ⊢
  rw [linesR_one hno, lnR, lnR, List.length_drop, show f + (t.length - f) = t.length by omega]
theorem no_more {t : By} {f i : Nat} {c : UInt8} (hfi : f ≤ i) (hc : t[i]? = some c) (h10 : c ≠ 10) (hno : (10 : UInt8) ∉ (t.drop f).take (i - f)) : (10 : UInt8) ∉ (t.drop f).take (i + 1 - f) := by
  have hd : (t.drop f)[i - f]? = some c := by rw [List.getElem?_drop, show f + (i - f) = i by omega]; exact hc
  rw [show i + 1 - f = i - f + 1 by omega, List.take_add_one, hd]
  simp only [Option.toList_some, List.mem_append, List.mem_singleton, not_or]
  exact ⟨hno, fun e => h10 e.symm⟩
/-- where the lines' loop stands -/
def LnS (t : By) (f i : Nat) (V : List Ln) : Prop := (i ≤ t.length ∧ f ≤ i ∧ lnOf V ++ lnR f (linesR (t.drop f)) = lnR 0 (linesR t) ∧ (10 : UInt8) ∉ (t.drop f).take (i - f)) ∨ (i = t.length + 1 ∧ lnOf V = lnR 0 (linesR t))
set_option maxRecDepth 100000 in
set_option maxHeartbeats 16000000 in
theorem rlines_any (s : ByteArray) (w : World) (hs : s.size ≤ 70000) : Calls Tryd.prog 7 #[.string s] w fun E w' => ∃ o, E = .returned o ∧ ∃ V, LnI w' w.heap.size o V ∧ lnOf V = lnR 0 (linesR (tl s)) ∧ G w w' := by
  have hlen := tl_len s
  have CW := hid (fun (a b : Nat) (W : World) (h : a ≤ 100000) (h2 : b ≤ s.size) => words_any (s.extract a b) a W (by rw [ByteArray.size_extract]; omega) h)
  go_enter Tryd.func7, Tryd.ntmps7
  go_upto_region 4 with fail
  go_loopw [3, 4, 5] (fun x3 x4 x5 wr => ∃ (i f n : Nat) (so : Option Addr) (sc : Nat), x3 = .slice so n sc ∧ x4 = .int .i64 (f : Int) ∧ x5 = .int .i64 (i : Int) ∧ n ≤ i ∧ i ≤ s.size + 1 ∧ f ≤ 80000 ∧ Hid (∃ V, V.length = n ∧ LnI wr w.heap.size (.slice so n sc) V ∧ G w wr ∧ LnS (tl s) f i V)) (fun _ _ x5 _ => s.size + 1 - iOf x5)
  case atStart => exact ⟨0, 0, 0, none, 0, rfl, rfl, rfl, by omega, by omega, by omega, [], rfl, ⟨OwL.nil _ _ _ _, by simp⟩, Below.refl _ _, .inl ⟨by omega, by omega, by simp [lnOf], by simp⟩⟩
  case round =>
    obtain ⟨i, f, n, so, sc, rfl, rfl, rfl, hni, his, hf8, HI⟩ := hrel
    obtain ⟨V, hVn, hV, hG, hS⟩ : ∃ V, V.length = n ∧ LnI wr w.heap.size (.slice so n sc) V ∧ G w wr ∧ LnS (tl s) f i V := HI.out
    clear HI
    by_cases hi : i ≤ s.size
    · have hiI : (i : Int) ≤ (s.size : Int) := by omega
      obtain ⟨h1, h2, h3, h4⟩ : i ≤ (tl s).length ∧ f ≤ i ∧ lnOf V ++ lnR f (linesR ((tl s).drop f)) = lnR 0 (linesR (tl s)) ∧ (10 : UInt8) ∉ ((tl s).drop f).take (i - f) := by
        rcases hS with q | q
        · exact q
        · omega
      have hwi : IntKind.i64.wrap ((i : Int) + 1) = ((i + 1 : Nat) : Int) := by rw [IntKind.wrap_i64]; omega
      have hfI : (f : Int) ≤ (i : Int) := by omega
      have HH := hid (⟨hVn, hV, hG, h3, h4⟩ : _ ∧ _ ∧ _ ∧ _ ∧ _)
      clear hVn hV hG hS h3 h4
      by_cases hie : i = s.size
      · subst hie
        have be : ((s.size : Int) == (s.size : Int)) = true := by simp
        have hL : Hid (∀ x : Ln, x.l = wds (tl (s.extract f s.size)) f → x.e = s.size → LnS (tl s) (s.size + 1) (s.size + 1) (V ++ [x])) := fun x e1 e2 => by
          refine .inr ⟨by omega, ?_⟩
          have h3 := HH.out.2.2.2.1
          have := ln_end (t := tl s) (f := f) (by omega) (by have := HH.out.2.2.2.2; rw [hlen]; exact this)
          rw [this] at h3
          rw [← h3, lnOf, List.map_append]
          show _ ++ [(x.l, x.e)] = _
          rw [e1, e2, tl_extract, hlen]
          rfl
        have i9 : (s.size : Int) ≤ (s.size : Int) := by omega
        go_wp2_with (first
          | (go_at_call 15; refine (CW.out f s.size wr (by omega) (by omega)).mono ?_; rintro E w4 ⟨v4, rfl, o4, g4⟩; obtain ⟨va, vc, hv4⟩ := o4.form; obtain ⟨vn, hvn⟩ : ∃ vn, (List.map rc (wds (tl (s.extract f s.size)) f)).length = vn := ⟨_, rfl⟩; rw [hvn] at hv4; subst hv4; obtain ⟨pa, pc, wg, w2, a1, a2, a3, a4⟩ := ln_app HH.out.1 (HH.out.2.1.up g4) (HH.out.2.2.1.tr g4) (⟨.slice va vn vc, wds (tl (s.extract f s.size)) f, s.size⟩ : Ln) (o4.mono (HH.out.2.2.1).size) (by omega); have HA := hid (⟨a1, a2, a3, a4⟩ : _ ∧ _ ∧ _ ∧ _); clear a1 a2 a3 a4 o4 g4 hvn)
          | ((with_reducible refine pl_val 31 (.slice (some ⟨w4.heap.size, 0, none⟩) 1 1) wg ?_ ?_ ?_ ?_); rfl; kernel_rfl; (rw [HA.out.1]; exact exec_slice1 ek42 (.tmp 30) rfl (.agg #[.slice va vn vc, .int .i64 (s.size : Int)]) #[.slice va vn vc, .int .i64 (s.size : Int)] rfl rfl rfl w4 _ rfl))
          | ((with_reducible refine pl_val 32 (.slice pa (n + 1) pc) w2 ?_ ?_ ?_ ?_); rfl; kernel_rfl; exact exec_app (sT := 42) (s := .tmp 22) (x := .tmp 31) rfl (v := .slice so n sc) (src := .slice (some ⟨w4.heap.size, 0, none⟩) 1 1) rfl rfl HA.out.2.1))
        go_roundw
        case rel => exact ⟨s.size + 1, s.size + 1, n + 1, pa, pc, rfl, rfl, rfl, by omega, by omega, by omega, V ++ [⟨.slice va vn vc, wds (tl (s.extract f s.size)) f, s.size⟩], by have := HH.out.1; simp; omega, HA.out.2.2.1, HA.out.2.2.2, hL.out _ rfl rfl⟩
        case measure => simp
      · have be : ((i : Int) == (s.size : Int)) = false := by simp; omega
        obtain ⟨c, hc⟩ : ∃ c, (tl s)[i]? = some c := ⟨(tl s)[i]'(by omega), by simp⟩
        have hcl := c.toNat_lt
        by_cases h10 : c.toNat = 10
        · have b10 : ((c.toNat : Int) == 10) = true := by simp; omega
          have hL : Hid (∀ x : Ln, x.l = wds (tl (s.extract f i)) f → x.e = i → LnS (tl s) (i + 1) (i + 1) (V ++ [x])) := fun x e1 e2 => by
            refine .inl ⟨by omega, by omega, ?_, by simp⟩
            have h3 := HH.out.2.2.2.1
            have := ln_mid (t := tl s) h2 (by rw [hc]; congr 1; exact UInt8.toNat_inj.1 h10) HH.out.2.2.2.2
            rw [this] at h3
            rw [← h3, lnOf, List.map_append]
            show (_ ++ [(x.l, x.e)]) ++ _ = _
            rw [e1, e2, tl_extract, List.append_assoc]
            rfl
          have i9 : (i : Int) ≤ (s.size : Int) := by omega
          go_wp2_with (first
            | ((with_reducible refine pl_val 19 (.int .u8 (c.toNat : Int)) wr ?_ ?_ ?_ ?_); rfl; kernel_rfl; exact exec_idx (.tmp 17) (.tmp 18) rfl s i c _ rfl rfl (by first | rfl | omega) hc wr)
            | (go_at_call 15; refine (CW.out f i wr (by omega) (by omega)).mono ?_; rintro E w4 ⟨v4, rfl, o4, g4⟩; obtain ⟨va, vc, hv4⟩ := o4.form; obtain ⟨vn, hvn⟩ : ∃ vn, (List.map rc (wds (tl (s.extract f i)) f)).length = vn := ⟨_, rfl⟩; rw [hvn] at hv4; subst hv4; obtain ⟨pa, pc, wg, w2, a1, a2, a3, a4⟩ := ln_app HH.out.1 (HH.out.2.1.up g4) (HH.out.2.2.1.tr g4) (⟨.slice va vn vc, wds (tl (s.extract f i)) f, i⟩ : Ln) (o4.mono (HH.out.2.2.1).size) (by omega); have HA := hid (⟨a1, a2, a3, a4⟩ : _ ∧ _ ∧ _ ∧ _); clear a1 a2 a3 a4 o4 g4 hvn)
            | ((with_reducible refine pl_val 31 (.slice (some ⟨w4.heap.size, 0, none⟩) 1 1) wg ?_ ?_ ?_ ?_); rfl; kernel_rfl; (rw [HA.out.1]; exact exec_slice1 ek42 (.tmp 30) rfl (.agg #[.slice va vn vc, .int .i64 (i : Int)]) #[.slice va vn vc, .int .i64 (i : Int)] rfl rfl rfl w4 _ rfl))
            | ((with_reducible refine pl_val 32 (.slice pa (n + 1) pc) w2 ?_ ?_ ?_ ?_); rfl; kernel_rfl; exact exec_app (sT := 42) (s := .tmp 22) (x := .tmp 31) rfl (v := .slice so n sc) (src := .slice (some ⟨w4.heap.size, 0, none⟩) 1 1) rfl rfl HA.out.2.1))
          go_roundw
          case rel => exact ⟨i + 1, i + 1, n + 1, pa, pc, rfl, rfl, rfl, by omega, by omega, by omega, V ++ [⟨.slice va vn vc, wds (tl (s.extract f i)) f, i⟩], by have := HH.out.1; simp; omega, HA.out.2.2.1, HA.out.2.2.2, hL.out _ rfl rfl⟩
          case measure => simp; omega
        · have b10 : ((c.toNat : Int) == 10) = false := by simp; omega
          have hL : Hid (LnS (tl s) f (i + 1) V) := .inl ⟨by omega, by omega, HH.out.2.2.2.1, no_more h2 hc (fun e => h10 (by rw [e]; rfl)) HH.out.2.2.2.2⟩
          go_wp2_with (first
            | ((with_reducible refine pl_val 19 (.int .u8 (c.toNat : Int)) wr ?_ ?_ ?_ ?_); rfl; kernel_rfl; exact exec_idx (.tmp 17) (.tmp 18) rfl s i c _ rfl rfl (by first | rfl | omega) hc wr))
          go_roundw
          case rel => exact ⟨i + 1, f, n, so, sc, rfl, rfl, rfl, by omega, by omega, by omega, V, HH.out.1, HH.out.2.1, HH.out.2.2.1, hL.out⟩
          case measure => simp; omega
    · have hiI : ¬ (i : Int) ≤ (s.size : Int) := by omega
      have HE : Hid (lnOf V = lnR 0 (linesR (tl s))) := by
        rcases hS with q | q
        · omega
        · exact q.2
      have HH := hid (⟨hV, hG⟩ : _ ∧ _)
      clear hVn hV hG hS
      go_wp2
      go_ret
      exact ⟨.slice so n sc, rfl, V, HH.out.1, HE.out, HH.out.2⟩
end Go.Proofs.YtfigneaaeakbcaaDoor
