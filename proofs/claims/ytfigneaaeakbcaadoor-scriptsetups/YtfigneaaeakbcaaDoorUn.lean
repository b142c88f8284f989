/-
  THE LAW.
-/
import Derived.Test.YtfigneaaeakbcaaDoorUm
namespace Go.Proofs.YtfigneaaeakbcaaDoor
open Go.RowKit Hm Go.Shelf
attribute [local go_sem] Oper.semAt_some

/-- an error that tells a fault -/
def Qv (w : World) (v : Value) (a b : Int) : Prop := (v = .nilIface ∧ a = 0 ∧ b = 0) ∨ ∃ y : Er, Flt w v y ∧ 200 ≤ y.2 ∧ y.2 ≤ 205 ∧ a = y.1 ∧ b = y.2
theorem Qv.up {w w' : World} {v : Value} {a b : Int} (h : Qv w v a b) (k : G w w') : Qv w' v a b := by
  rcases h with h | ⟨y, h, r⟩
  · exact .inl h
  · exact .inr ⟨y, h.up k, r⟩
theorem told_any {w : World} {v : Value} {a b : Int} (h : Qv w v a b) : Calls Tryd.prog 6 #[v] w fun E w' => E = .returned (.tuple #[.agg #[.int .i64 a, .int .i64 b], .bool true]) ∧ G w w' := by
  rcases h with ⟨rfl, rfl, rfl⟩ | ⟨y, h, h1, h2, rfl, rfl⟩
  · exact told_nil w
  · exact told_some v y w h h1 h2
/-- both answers in one form -/
theorem both (t : By) : ∃ (lx : List Int) (a b : Int), lx.length = 7 ∧ (∀ w E w', QsP t w E w' → G w w' ∧ E = .returned (.tuple #[.agg (lx.map vi).toArray, .agg #[.int .i64 a, .int .i64 b]])) ∧
    (∀ w E w', StP t w E w' → G w w' ∧ ∃ v, E = .returned (.tuple #[.agg (lx.map vi).toArray, v]) ∧ Qv w' v a b) := by
  cases h : setupT t with
  | ok l =>
    by_cases hl : l.length = 7
    · refine ⟨l, 0, 0, hl, fun w E w' q => ?_, fun w E w' q => ?_⟩
      · obtain ⟨g, q⟩ := q
        rw [h] at q
        exact ⟨g, q.1⟩
      · obtain ⟨g, q⟩ := q
        rw [h] at q
        exact ⟨g, _, q.1, .inl ⟨rfl, rfl, rfl⟩⟩
    · refine ⟨[0, 0, 0, 0, 0, 0, 0], 0, 0, rfl, fun w E w' q => ?_, fun w E w' q => ?_⟩
      · obtain ⟨g, q⟩ := q
        rw [h] at q
        exact absurd q.2 hl
      · obtain ⟨g, q⟩ := q
        rw [h] at q
        exact absurd q.2 hl
  | error y =>
    refine ⟨[0, 0, 0, 0, 0, 0, 0], y.1, y.2, rfl, fun w E w' q => ?_, fun w E w' q => ?_⟩
    · obtain ⟨g, q⟩ := q
      rw [h] at q
      exact ⟨g, q⟩
    · obtain ⟨g, q⟩ := q
      rw [h] at q
      obtain ⟨v, q1, q2⟩ := q
      exact ⟨g, v, q1, .inr ⟨y, q2, (setupT_er h).1, (setupT_er h).2, rfl, rfl⟩⟩
theorem LW {wr w6 w7 w8 w9 w10 w11 : World} {b2 b3 b7 b10 : Nat} {X : Array Value} {a b : Int} {P2 Q Q3 : Prop} (g6 : G wr w6) (h7 : w6.heap.size = b7 ∧ G w6 w7 ∧ Q ∧ w7.heap.size = b7 + 1) (h8 : Kp (fun g => g = b7) w7 w8 ∧ w8.heap[b7]? = some (.cells X 26 (0, 0)) ∧ w8.heap.size = w7.heap.size) (g9 : G w8 w9) (h10 : w9.heap.size = b10 ∧ G w9 w10 ∧ Q3 ∧ w10.heap.size = b10 + 1) (h11 : Kp (fun g => g = b10) w10 w11 ∧ P2 ∧ w11.heap.size = w10.heap.size)
    (e2 : wr.heap[b2]? = some (.cells X 26 (0, 0))) (e3 : wr.heap[b3]? = some (.cells #[.int .i64 a, .int .i64 b] 28 (0, 0))) : G wr w11 ∧ w11.heap[b7]? = some (.cells X 26 (0, 0)) ∧ w11.heap[b2]? = some (.cells X 26 (0, 0)) ∧ w11.heap[b3]? = some (.cells #[.int .i64 a, .int .i64 b] 28 (0, 0)) := by
  obtain ⟨p1, p2, _, p4⟩ := h7
  obtain ⟨q1, q2, q3⟩ := h8
  obtain ⟨r1, r2, _, r4⟩ := h10
  obtain ⟨s1, _, s3⟩ := h11
  have g8 : G w6 w8 := g_new p2 q1 (by omega)
  have g11 : G w9 w11 := g_new r2 s1 (by omega)
  have g811 : G w8 w11 := G.tr g9 g11
  have gg : G wr w11 := G.tr (G.tr g6 g8) g811
  refine ⟨gg, (g811.block b7 (Array.getElem?_eq_some_iff.1 q2).1).trans q2, (gg.block b2 (Array.getElem?_eq_some_iff.1 e2).1).trans e2, (gg.block b3 (Array.getElem?_eq_some_iff.1 e3).1).trans e3⟩
set_option maxRecDepth 100000 in
set_option maxHeartbeats 8000000 in
theorem law_walk (s : ByteArray) (w : World) (hV : ∀ W, G w W → Vs W) : Calls Tryd.prog 3 #[.string s] w fun E w' => E = .returned (.bool true) ∧ G w w' := by
  by_cases hbig : 70000 < s.size
  · have hb : (70000 : Int) < (s.size : Int) := by omega
    go_enter Tryd.func3, Tryd.ntmps3
    go_wp2
    go_ret
    exact ⟨rfl, Below.refl _ _⟩
  · have hb : ¬ (70000 : Int) < (s.size : Int) := by omega
    obtain ⟨lx, a, b, hlx, B1, B2⟩ := both (tl s)
    obtain ⟨X, hX⟩ : ∃ X, X = (lx.map vi).toArray := ⟨_, rfl⟩
    rw [← hX] at B1 B2
    have hXs : X.size = 7 := by rw [hX]; simp [hlx]
    have hX1 : X.all (·.oneCell') = true := by rw [hX]; simp [vi, Value.oneCell']
    have C4 : Hid (∀ W, Calls Tryd.prog 4 #[.string s] W fun E w' => G W w' ∧ E = .returned (.tuple #[.agg X, .agg #[.int .i64 a, .int .i64 b]])) := fun W => (rsetup_any s W (by omega)).mono (fun {E w'} q => B1 W E w' q)
    have C5 : Hid (∀ W, (∀ W', G W W' → Vs W') → Calls Tryd.prog 5 #[.string s] W fun E w' => G W w' ∧ ∃ v, E = .returned (.tuple #[.agg X, v]) ∧ Qv w' v a b) := fun W k => (psetup_any s W (by omega) k).mono (fun {E w'} q => B2 W E w' q)
    have HX := hid hX
    have HV := hid hV
    clear B1 B2 hV hX
    go_enter Tryd.func3, Tryd.ntmps3
    go_upto_region 5 with (first
      | (go_at_call 4; refine (C4.out w).mono ?_; rintro E w1 ⟨g1, rfl⟩; have H1 := hid g1; clear g1)
      | ((with_reducible refine pl_alloc 3 26 #[.int .i64 0, .int .i64 0, .int .i64 0, .int .i64 0, .int .i64 0, .int .i64 0, .int .i64 0] ?_ ?_ ?_ ?_ ?_); rfl; rfl; kernel_rfl; exact zero26; intro w2 b2 hb2 hu2 hv2 hs2; have H2 := hid (⟨hb2, hu2, hv2, hs2⟩ : _ ∧ _ ∧ _ ∧ _); clear hb2 hu2 hv2 hs2)
      | ((with_reducible refine pl_alloc 4 28 #[.int .i64 0, .int .i64 0] ?_ ?_ ?_ ?_ ?_); rfl; rfl; kernel_rfl; exact zero28; intro w3 b3 hb3 hu3 hv3 hs3; have H3 := hid (⟨hb3, hu3, hv3, hs3⟩ : _ ∧ _ ∧ _ ∧ _); clear hb3 hu3 hv3 hs3)
      | ((with_reducible refine pl_store 26 (.tmp 3) (.tmp 16) b2 X #[.int .i64 0, .int .i64 0, .int .i64 0, .int .i64 0, .int .i64 0, .int .i64 0, .int .i64 0] ?_ ?_ ?_ ?_ ?_ ?_ ?_ ?_ ?_ ?_); rfl; rfl; kernel_rfl; rfl; rfl; exact ((H3.out.2.1.block b2 (by have := H2.out; omega)).trans H2.out.2.2.1); exact (by rw [siz26, hXs]); exact hXs.symm; exact hX1; intro w4 k4 v4 s4; have H4 := hid (⟨k4, v4, s4⟩ : _ ∧ _ ∧ _); clear k4 v4 s4)
      | ((with_reducible refine pl_store 28 (.tmp 4) (.tmp 17) b3 #[.int .i64 a, .int .i64 b] #[.int .i64 0, .int .i64 0] ?_ ?_ ?_ ?_ ?_ ?_ ?_ ?_ ?_ ?_); rfl; rfl; kernel_rfl; rfl; rfl; exact ((H4.out.1.block b3 (by have := H3.out; omega) (by have := H2.out; have := H3.out; omega)).trans H3.out.2.2.1); exact siz28; exact rfl; exact (by simp [Value.oneCell']); intro w5 k5 v5 s5; have H5 := hid (⟨k5, v5, s5⟩ : _ ∧ _ ∧ _); clear k5 v5 s5))
    have HB : Hid (G w w5 ∧ w5.heap[b2]? = some (.cells X 26 (0, 0)) ∧ w5.heap[b3]? = some (.cells #[.int .i64 a, .int .i64 b] 28 (0, 0))) := by
      obtain ⟨p1, p2, p3, p4⟩ := H2.out
      obtain ⟨q1, q2, q3, q4⟩ := H3.out
      obtain ⟨r1, r2, r3⟩ := H4.out
      obtain ⟨t1, t2, t3⟩ := H5.out
      exact ⟨G.tr H1.out (g_new (g_new (G.tr p2 q2) r1 (by omega)) t1 (by omega)), (t1.block b2 (by omega) (by omega)).trans r2, t2⟩
    clear H1 H2 H3 H4 H5
    go_loopw [5] (fun x5 wq => ∃ (i : Nat), x5 = .int .i64 (i : Int) ∧ i ≤ 3 ∧ Hid (G w wq ∧ wq.heap[b2]? = some (.cells X 26 (0, 0)) ∧ wq.heap[b3]? = some (.cells #[.int .i64 a, .int .i64 b] 28 (0, 0)))) (fun x5 _ => 3 - iOf x5)
    case atStart => exact ⟨0, rfl, by omega, HB.out⟩
    case round =>
      obtain ⟨i, rfl, hi3, HW⟩ := hrel
      by_cases hi : i < 3
      · have hiI : (i : Int) < 3 := by omega
        have hwi : IntKind.i64.wrap ((i : Int) + 1) = ((i + 1 : Nat) : Int) := by rw [IntKind.wrap_i64]; omega
        go_wp2_with (first
          | (go_at_call 5; refine (C5.out wr (fun W k => HV.out W (G.tr HW.out.1 k))).mono ?_; rintro E w6 ⟨g6, v6, rfl, q6⟩; have H6 := hid (⟨g6, q6⟩ : _ ∧ _); clear g6 q6)
          | ((with_reducible refine pl_alloc 6 26 #[.int .i64 0, .int .i64 0, .int .i64 0, .int .i64 0, .int .i64 0, .int .i64 0, .int .i64 0] ?_ ?_ ?_ ?_ ?_); rfl; rfl; kernel_rfl; exact zero26; intro w7 b7 hb7 hu7 hv7 hs7; have H7 := hid (⟨hb7, hu7, hv7, hs7⟩ : _ ∧ _ ∧ _ ∧ _); clear hb7 hu7 hv7 hs7)
          | ((with_reducible refine pl_store 26 (.tmp 6) (.tmp 25) b7 X #[.int .i64 0, .int .i64 0, .int .i64 0, .int .i64 0, .int .i64 0, .int .i64 0, .int .i64 0] ?_ ?_ ?_ ?_ ?_ ?_ ?_ ?_ ?_ ?_); rfl; rfl; kernel_rfl; rfl; rfl; exact H7.out.2.2.1; exact (by rw [siz26, hXs]); exact hXs.symm; exact hX1; intro w8 k8 v8 s8; have H8 := hid (⟨k8, v8, s8⟩ : _ ∧ _ ∧ _); clear k8 v8 s8; have HG8 : Hid (G w6 w8) := g_new H7.out.2.1 H8.out.1 (by have := H7.out; omega))
          | (go_at_call 6; refine (told_any (H6.out.2.up HG8.out)).mono ?_; rintro E w9 ⟨rfl, g9⟩; have H9 := hid g9; clear g9)
          | ((with_reducible refine pl_alloc 8 28 #[.int .i64 0, .int .i64 0] ?_ ?_ ?_ ?_ ?_); rfl; rfl; kernel_rfl; exact zero28; intro w10 b10 hb10 hu10 hv10 hs10; have H10 := hid (⟨hb10, hu10, hv10, hs10⟩ : _ ∧ _ ∧ _ ∧ _); clear hb10 hu10 hv10 hs10)
          | ((with_reducible refine pl_store 28 (.tmp 8) (.tmp 30) b10 #[.int .i64 a, .int .i64 b] #[.int .i64 0, .int .i64 0] ?_ ?_ ?_ ?_ ?_ ?_ ?_ ?_ ?_ ?_); rfl; rfl; kernel_rfl; rfl; rfl; exact H10.out.2.2.1; exact siz28; exact rfl; exact (by simp [Value.oneCell']); intro w11 k11 v11 s11; have H11 := hid (⟨k11, v11, s11⟩ : _ ∧ _ ∧ _); clear k11 v11 s11; have HG11 : Hid (G wr w11 ∧ w11.heap[b7]? = some (.cells X 26 (0, 0)) ∧ w11.heap[b2]? = some (.cells X 26 (0, 0)) ∧ w11.heap[b3]? = some (.cells #[.int .i64 a, .int .i64 b] 28 (0, 0))) := LW H6.out.1 H7.out H8.out H9.out H10.out H11.out HW.out.2.1 HW.out.2.2)
          | ((with_reducible refine pl_load 35 28 (.tmp 8) b10 0 #[.int .i64 a, .int .i64 b] _ ?_ ?_ ?_ ?_ ?_ Tryd.underlying28 ?_ ?_ ?_); rfl; rfl; kernel_rfl; rfl; exact (Lies.of_heap H11.out.2.1); rfl; exact siz28)
          | ((with_reducible refine pl_load 36 28 (.tmp 4) b3 0 #[.int .i64 a, .int .i64 b] _ ?_ ?_ ?_ ?_ ?_ Tryd.underlying28 ?_ ?_ ?_); rfl; rfl; kernel_rfl; rfl; exact (Lies.of_heap HG11.out.2.2.2); rfl; exact siz28)
          | ((with_reducible refine pl_val 37 (.bool false) w11 ?_ ?_ ?_ ?_); rfl; kernel_rfl; exact exec_neq28 (.tmp 35) (.tmp 36) rfl a b rfl rfl w11)
          | ((with_reducible refine pl_load 40 26 (.tmp 6) b7 0 X _ ?_ ?_ ?_ ?_ ?_ Tryd.underlying26 ?_ ?_ ?_); rfl; rfl; kernel_rfl; rfl; exact (Lies.of_heap HG11.out.2.1); rfl; exact (by rw [siz26, hXs]))
          | ((with_reducible refine pl_load 41 26 (.tmp 3) b2 0 X _ ?_ ?_ ?_ ?_ ?_ Tryd.underlying26 ?_ ?_ ?_); rfl; rfl; kernel_rfl; rfl; exact (Lies.of_heap HG11.out.2.2.1); rfl; exact (by rw [siz26, hXs]))
          | ((with_reducible refine pl_val 42 (.bool false) w11 ?_ ?_ ?_ ?_); rfl; kernel_rfl; exact exec_neq26 (.tmp 40) (.tmp 41) rfl lx hlx X HX.out rfl rfl w11))
        go_roundw
        case rel => exact ⟨i + 1, rfl, by omega, G.tr HW.out.1 HG11.out.1, HG11.out.2.2.1, HG11.out.2.2.2⟩
        case measure => simp; omega
      · have hiI : ¬ (i : Int) < 3 := by omega
        go_wp2
        go_ret
        exact ⟨rfl, HW.out.1⟩
end Go.Proofs.YtfigneaaeakbcaaDoor
