/-
  WHAT AN ERROR TELLS.
-/
import Derived.Test.YtfigneaaeakbcaaDoorUl
namespace Go.Proofs.YtfigneaaeakbcaaDoor
open Go.RowKit Hm
attribute [local go_sem] Oper.semAt_some

theorem takeW_er {ws : List W} {e : Nat} {y : Er} (h : takeW ws e = .error y) : 200 ≤ y.2 ∧ y.2 ≤ 205 := by
  cases ws with
  | nil => injection h with h; subst h; exact ⟨by simp, by simp⟩
  | cons x r =>
    have h : (if x.kind = 2 then Except.error (x.pl, 200) else Except.ok (x, r) : Except Er (W × List W)) = .error y := h
    split at h
    · injection h with h; subst h; exact ⟨by simp, by simp⟩
    · cases h
theorem wordW_er {s : By} {ws : List W} {e : Nat} {y : Er} (h : wordW s ws e = .error y) : 200 ≤ y.2 ∧ y.2 ≤ 205 := by
  unfold wordW at h
  split at h
  · rename_i ht; injection h with h; subst h; exact takeW_er ht
  · split at h
    · cases h
    · injection h with h; subst h; exact ⟨by simp, by simp⟩
theorem numW_er {lo hi : Int} {ws : List W} {e : Nat} {y : Er} (h : numW lo hi ws e = .error y) : 200 ≤ y.2 ∧ y.2 ≤ 205 := by
  unfold numW at h
  split at h
  · rename_i ht; injection h with h; subst h; exact takeW_er ht
  · split at h
    · cases h
    · injection h with h; subst h; exact ⟨by simp, by simp⟩
theorem numsW_er {lo hi : Int} : ∀ (k : Nat) {ws : List W} {e : Nat} {y : Er}, numsW lo hi k ws e = .error y → 200 ≤ y.2 ∧ y.2 ≤ 205
  | 0, ws, e, y, h => by cases h
  | k + 1, ws, e, y, h => by
    unfold numsW at h
    split at h
    · rename_i ht; injection h with h; subst h; exact numW_er ht
    · split at h
      · rename_i ht; injection h with h; subst h; exact numsW_er k ht
      · cases h
theorem restW_er {ws : List W} {y : Er} (h : restW ws = some y) : 200 ≤ y.2 ∧ y.2 ≤ 205 := by
  cases ws with
  | nil => cases h
  | cons x r => injection h with h; subst h; exact ⟨by simp, by simp⟩
theorem setupT_er {t : By} {y : Er} (h : setupT t = .error y) : 200 ≤ y.2 ∧ y.2 ≤ 205 := by
  unfold setupT at h
  split at h
  · injection h with h; subst h; exact ⟨by simp, by simp⟩
  · unfold setupW at h
    split at h
    · rename_i q; injection h with h; subst h; exact wordW_er q
    · split at h
      · rename_i q; injection h with h; subst h; exact numsW_er 3 q
      · split at h
        · rename_i q; injection h with h; subst h; exact wordW_er q
        · split at h
          · rename_i q; injection h with h; subst h; exact numsW_er 3 q
          · split at h
            · rename_i q; injection h with h; subst h; exact wordW_er q
            · split at h
              · rename_i q; injection h with h; subst h; exact numW_er q
              · split at h
                · rename_i q; injection h with h; subst h; exact restW_er q
                · cases h
theorem results_28 {fn : Func} {p u : Tmp} (h : fn.results = #[.cell p 28, .tmp u]) (tmps : Array Value) (w : World) (g : Nat) (cs : Array Value)
    (hp : tmps.getD p undef = .pointer (some ⟨g, 0, none⟩)) (hg : w.heap[g]? = some (.cells cs 28 (0, 0))) (hs : cs.size = 2) :
    (results fn tmps).run Tryd.prog w = .ok (.tuple #[.agg cs, tmps.getD u undef]) w := by
  have hp' : tmps[p]?.getD undef = .pointer (some ⟨g, 0, none⟩) := by simpa using hp
  simp [results, h, hp', asAddr, run_loadVar_row (P := Tryd.prog) w g 28 28 cs (0, 0) _ hg Tryd.underlying28 rfl (by rw [siz28, hs])]
set_option maxRecDepth 100000 in
set_option maxHeartbeats 4000000 in
theorem told_nil (w : World) : Calls Tryd.prog 6 #[.nilIface] w fun E w' => E = .returned (.tuple #[.agg #[.int .i64 0, .int .i64 0], .bool true]) ∧ G w w' := by
  go_enter Tryd.func6, Tryd.ntmps6
  go_wp2_with (first
    | ((with_reducible refine pl_alloc 2 28 #[.int .i64 0, .int .i64 0] ?_ ?_ ?_ ?_ ?_); rfl; rfl; kernel_rfl; exact zero28; intro w1 b1 hb1 hu1 hv1 hs1; have H1 := hid (⟨hb1, hu1, hv1, hs1⟩ : _ ∧ _ ∧ _ ∧ _); clear hb1 hu1 hv1 hs1)
    | ((with_reducible refine pl_store 28 (.tmp 2) (.tmp 8) b1 #[.int .i64 0, .int .i64 0] #[.int .i64 0, .int .i64 0] ?_ ?_ ?_ ?_ ?_ ?_ ?_ ?_ ?_ ?_); rfl; rfl; kernel_rfl; rfl; rfl; exact H1.out.2.2.1; exact siz28; exact rfl; exact (by simp [Value.oneCell']); intro w4 k4 v4 s4; have H4 := hid (⟨k4, v4, s4⟩ : _ ∧ _ ∧ _); clear k4 v4 s4))
  refine bodyPost_ret (results_28 (p := 2) (u := 3) rfl _ _ b1 #[.int .i64 0, .int .i64 0] rfl H4.out.2.1 rfl) rfl ?_
  obtain ⟨p1, p2, p3, p4⟩ := H1.out
  obtain ⟨q1, q2, q3⟩ := H4.out
  exact ⟨rfl, g_new p2 q1 (by omega)⟩
theorem assert58 (x : Value) (w : World) : (Instr.typeAssert (.iface 58 x) 32 58 true).run Tryd.prog w = .ok (.tuple #[x, .bool true]) w := by kernel_rfl
set_option maxRecDepth 100000 in
set_option maxHeartbeats 4000000 in
theorem told_some (v : Value) (y : Er) (w : World) (h : Flt w v y) (h1 : 200 ≤ y.2) (h2 : y.2 ≤ 205) : Calls Tryd.prog 6 #[v] w fun E w' => E = .returned (.tuple #[.agg #[.int .i64 (y.1 : Int), .int .i64 (y.2 : Int)], .bool true]) ∧ G w w' := by
  obtain ⟨N, rfl, hN⟩ := h
  have hNl := (Array.getElem?_eq_some_iff.1 hN).1
  have i1 : ¬ (y.2 : Int) < 200 := by omega
  have i2 : ¬ (205 : Int) < (y.2 : Int) := by omega
  have HN := hid hN
  have hta := assert58
  clear hN
  go_enter Tryd.func6, Tryd.ntmps6
  go_upto_region 6 with (first
    | ((with_reducible refine pl_alloc 2 28 #[.int .i64 0, .int .i64 0] ?_ ?_ ?_ ?_ ?_); rfl; rfl; kernel_rfl; exact zero28; intro w1 b1 hb1 hu1 hv1 hs1; have H1 := hid (⟨hb1, hu1, hv1, hs1⟩ : _ ∧ _ ∧ _ ∧ _); have e1 := (hu1.block N hNl).trans HN.out; have c1 : w1.cell? ⟨N, 1, none⟩ = some (.string ⟨#[]⟩) := (by rw [cell_heap e1]; rfl); have c2 : w1.cell? ⟨N, 2, none⟩ = some (.int .i64 (y.2 : Int)) := (by rw [cell_heap e1]; rfl); have c0 : w1.cell? ⟨N, 0, none⟩ = some (.int .i64 (y.1 : Int)) := (by rw [cell_heap e1]; rfl); clear e1 hb1 hu1 hv1 hs1))
  obtain ⟨p1, p2, p3, p4⟩ := H1.out
  refine regh6 N b1 (y.1 : Int) (y.2 : Int) (fun _ W => G w1 W) (fun _ W => G w W ∧ W.heap[b1]? = some (.cells #[.int .i64 (y.1 : Int), .int .i64 (y.2 : Int)] 28 (0, 0)))
    (fun W => W.cell? ⟨N, 0, none⟩ = some (.int .i64 (y.1 : Int)) ∧ W.cell? ⟨N, 2, none⟩ = some (.int .i64 (y.2 : Int))) _ w1 rfl rfl rfl rfl ?b0 ?w1 ?l3 ?l7 ?dr ?fin
  case b0 =>
    intro _ W q
    exact ⟨by rw [q.cell (World.block_lt_of_cell? w1 _ c0)]; exact c0, by rw [q.cell (World.block_lt_of_cell? w1 _ c2)]; exact c2⟩
  case w1 =>
    intro r W q
    have e1 := (q.block b1 (by omega)).trans p3
    refine ⟨_, e1, rfl, ?_, setRow_heap _ _ _ _ _ _ e1⟩
    have k1 : Kp (fun g => g = b1) W (W.setRow b1 #[.int .i64 (y.1 : Int), .int .i64 (y.2 : Int)]) := ⟨rfl, rfl, rfl, by simp, fun b _ hn => setRow_other _ b1 b _ hn⟩
    exact g_new (G.tr p2 q) k1 (by omega)
  case l3 => exact fun W q => q.1
  case l7 => exact fun W q => q.2
  case dr => exact fun _ => G.drew w1
  case fin =>
    rintro r W ⟨q1, q2⟩
    rw [foldh6]
    have HQ := hid (⟨q1, q2⟩ : _ ∧ _)
    clear q1 q2
    go_simp
    go_wp2
    refine bodyPost_ret (results_28 (p := 2) (u := 3) rfl _ _ b1 #[.int .i64 (y.1 : Int), .int .i64 (y.2 : Int)] rfl HQ.out.2 rfl) rfl ?_
    exact ⟨rfl, HQ.out.1⟩
end Go.Proofs.YtfigneaaeakbcaaDoor
