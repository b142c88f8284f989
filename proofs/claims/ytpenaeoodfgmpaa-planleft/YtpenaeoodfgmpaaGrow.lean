/-
  twinelaw15.growing by contract.
-/
import Derived.Test.YtpenaeoodfgmpaaLeft1
import Derived.Test.YtpenaeoodfgmpaaLaw
import Derived.Deep.DeepCutAuto
import Derived.Deep.LoopGhost
namespace Go.Proofs.Ytpenaeoodfgmpaa
open Go.RowKit

/-- two rows of numbers of one's own -/
def N2 (w wr : World) (v0 v1 : Value) (R0 R1 : List Int) : Prop :=
  OwnsN wr w.heap.size v0 R0 ∧ OwnsN wr w.heap.size v1 R1 ∧ (v0.ownBlock = none ∨ v0.ownBlock ≠ v1.ownBlock) ∧ G w wr
theorem N2.swap {w wr : World} {v0 v1 : Value} {R0 R1 : List Int} (h : N2 w wr v0 v1 R0 R1) : N2 w wr v1 v0 R1 R0 := by
  obtain ⟨h1, h2, h3, h4⟩ := h
  refine ⟨h2, h1, ?_, h4⟩
  rcases h3 with e | e
  · cases hv : v1.ownBlock
    · exact .inl rfl
    · exact .inr (by rw [e]; simp)
  · exact .inr (Ne.symm e)
theorem N2.put {w wr w1 w2 : World} {R0 R1 : List Int} {v0 v1 : Value} {x : Int} {g cap : Nat} (h : N2 w wr v0 v1 R0 R1) (h1 : G wr w1)
    (hown : w2.ownsRow w.heap.size 3 1 (.slice (some ⟨g, 0, none⟩) (R0.length + 1) cap) (R0.length + 1) (flat nc R0 ++ (nc x).toList)) (hgr : w1.grownBy w2 v0.ownBlock) (hat : v0.ownBlock = some g ∨ w1.heap.size ≤ g) : N2 w w2 (.slice (some ⟨g, 0, none⟩) (R0.length + 1) cap) v1 (R0 ++ [x]) R1 := by
  obtain ⟨a0, a1, a2, a3⟩ := h
  have hb1 : OwnsN w1 w.heap.size v1 R1 := a1.up h1
  have hne : v1.ownBlock = none ∨ v1.ownBlock ≠ v0.ownBlock := by
    rcases a2 with e | e
    · cases hv : v1.ownBlock
      · exact .inl rfl
      · exact .inr (by rw [e]; simp)
    · exact .inr (Ne.symm e)
  refine ⟨?_, World.ownsRow.kept hb1 hgr hne, ?_, grow_below a3 h1 (fun b hb => (World.ownsRow.lt a0 b hb).1) hgr⟩
  · unfold OwnsN
    rw [flat_snoc, List.length_append]
    exact hown
  · refine .inr fun e => ?_
    have e' : v1.ownBlock = some g := e.symm
    rcases hat with a | a
    · rcases a2 with b | b
      · rw [b] at a; cases a
      · exact b (a.trans e'.symm)
    · have := (World.ownsRow.lt hb1 _ e').2
      omega
theorem srt_cases (c : Cd) : (c.take ≤ c.keep ∧ srt c = 2) ∨ (¬ c.take ≤ c.keep ∧ ((c.what = 3 ∧ srt c = 0) ∨ (c.what ≠ 3 ∧ (c.what = 1 ∨ c.what = 2 ∨ c.what = 5) ∧ srt c = 1) ∨ (c.what ≠ 3 ∧ c.what ≠ 1 ∧ c.what ≠ 2 ∧ c.what ≠ 5 ∧ srt c = 2))) := by
  unfold srt
  by_cases h : c.take ≤ c.keep
  · exact .inl ⟨h, by simp [h]⟩
  · refine .inr ⟨h, ?_⟩
    by_cases h3 : c.what = 3
    · exact .inl ⟨h3, by simp [h, h3]⟩
    · by_cases h4 : c.what = 1 ∨ c.what = 2 ∨ c.what = 5
      · exact .inr (.inl ⟨h3, h4, by simp [h, h3, h4]⟩)
      · exact .inr (.inr ⟨h3, by omega, by omega, by omega, by simp [h, h3, h4]⟩)
set_option maxHeartbeats 2000000 in
set_option maxRecDepth 100000 in
theorem growing_any (ao : Option Addr) (cp : Nat) (L : List Cd) (w : World) (hv : HasC w (.slice ao L.length cp) L) (hn : L.length ≤ 400) :
    Calls Try.prog 11 #[.slice ao L.length cp] w fun e w' => ∃ v0 v1, e = .returned (.tuple #[v0, v1]) ∧ Hid (N2 w w' v0 v1 (grw L 0 L.length) (grw L 1 L.length)) := by
  obtain ⟨n, hn'⟩ : ∃ n, L.length = n := ⟨_, rfl⟩
  obtain ⟨i0, hi, hz0, hz1, hz2⟩ := info_parts Try.info3
  have HV := hid hv
  have HN := hid hn'
  have HS0 : Hid (N2 w w (.slice none 0 0) (.slice none 0 0) [] []) := ⟨World.ownsRow_nil _ _ _ _, World.ownsRow_nil _ _ _ _, .inl rfl, G.refl w⟩
  rw [hn'] at hn ⊢
  clear hv hn'
  go_enter Try.func11, Try.ntmps11
  go_wp2
  go_loopg [4, 5, 6] n (fun gh v0 v1 i wr => ∃ k : Nat, k ≤ n ∧ gh = n - k ∧ i = .int .i64 k ∧ Hid (N2 w wr v0 v1 (grw L 0 k) (grw L 1 k)))
  case atStart => exact ⟨0, Nat.zero_le _, rfl, rfl, HS0.out⟩
  case round =>
    clear HS0
    obtain ⟨k, hk, rfl, rfl, HR⟩ := hrel
    obtain ⟨a3, c3, e3⟩ := owns_form HR.out.1
    obtain ⟨a4, c4, e4⟩ := owns_form HR.out.2.1
    generalize hl3 : (grw L 0 k).length = l3 at e3
    generalize hl4 : (grw L 1 k).length = l4 at e4
    subst e3 e4
    by_cases hlt : k < n
    · obtain ⟨c, hc⟩ : ∃ c, L[k]? = some c := ⟨L[k]'(by rw [HN.out]; exact hlt), by simp⟩
      obtain ⟨g, o, rfl, hl⟩ := HV.out.at hc
      have hl' : Lies wr g (o + k * 10) (cc c) := hl.up HR.out.2.2.2
      have q1 : wr.cell? ⟨g, o + k * 10 + 1, none⟩ = some (.int .i64 c.what) := hl' 1 _ rfl
      have q4 : wr.cell? ⟨g, o + k * 10 + 4, none⟩ = some (.int .i64 c.keep) := hl' 4 _ rfl
      have q5 : wr.cell? ⟨g, o + k * 10 + 5, none⟩ = some (.int .i64 c.take) := hl' 5 _ rfl
      have ltI : (k : Int) < (n : Int) := by omega
      have geI : (0 : Int) ≤ (k : Int) := by omega
      have hln := grw_len L 0 k
      have hln1 := grw_len L 1 k
      have HY0 : Hid (srt c = 0 → grw L 0 (k + 1) = grw L 0 k ++ [(k : Int)] ∧ grw L 1 (k + 1) = grw L 1 k) := fun h => ⟨grw_yes hc h, grw_no hc (by omega)⟩
      have HY1 : Hid (srt c = 1 → grw L 1 (k + 1) = grw L 1 k ++ [(k : Int)] ∧ grw L 0 (k + 1) = grw L 0 k) := fun h => ⟨grw_yes hc h, grw_no hc (by omega)⟩
      have HY2 : Hid (srt c = 2 → grw L 1 (k + 1) = grw L 1 k ∧ grw L 0 (k + 1) = grw L 0 k) := fun h => ⟨grw_no hc (by omega), grw_no hc (by omega)⟩
      have hcase := srt_cases c
      have HL := hid (And.intro hl3 hl4)
      clear hl3 hl4 hc hl hl'
      go_upto_region 5 with fail
      go_quiet (fail)
      obtain ⟨wz, hwz⟩ : ∃ wz, wr.drewN nq = wz := ⟨_, rfl⟩
      have gz : G wr wz := by rw [← hwz]; exact (G.refl wr).drewN nq
      have HZ : Hid (N2 w wz (.slice a3 l3 c3) (.slice a4 l4 c4) (grw L 0 k) (grw L 1 k)) := ⟨HR.out.1.up gz, HR.out.2.1.up gz, HR.out.2.2.1, HR.out.2.2.2.up gz⟩
      have r1 := (gz.cell (p := ⟨g, o + k * 10 + 1, none⟩) (World.block_lt_of_cell? wr _ q1)).trans q1
      rw [hwz]
      clear q1 q4 q5 hwz gz HR
      have HSZ := hid HZ.out.2.2.2.size
      obtain ⟨B1, hB1⟩ : ∃ B1, wz.heap.size = B1 := ⟨_, rfl⟩
      rcases hcase with ⟨h1, hs⟩ | ⟨h1, ⟨h3, hs⟩ | ⟨h3, h4, hs⟩ | ⟨h3, h4, h5, h6, hs⟩⟩
      · have hs := hid hs
        go_wp2
        go_roundg (n - (k + 1))
        case measure => omega
        case rel => exact ⟨k + 1, by omega, rfl, by go_num, by rw [(HY2.out hs.out).1, (HY2.out hs.out).2]; exact HZ.out⟩
      · have hs := hid hs
        have e3 : (c.what == 3) = true := by simp [h3]
        clear h3
        have HO : Hid (OwnsN (wz.alloc (.cells #[.int .i64 (k : Int)] 3)) w.heap.size (.slice a3 l3 c3) (grw L 0 k)) := (HZ.out).1.up (G.al _ _)
        go_wp2_with (at_builtin; refine wpList_append_lies _ rfl _ _ _ rfl w.heap.size 3 i0 _ 1 8 Try.underlying29 hi hz0 hz1 hz2 rfl (by omega) (.slice a3 l3 c3) (grw L 0 k).length (flat nc (grw L 0 k)) rfl HO.out ⟨B1, 0, none⟩ 1 1 (nc (k : Int)).toList rfl rfl ?c1 ?c2 (by omega) (by unfold maxLen; omega) (by omega) ?c3 (B1 + 1) ?c4 ?_)
        case c1 =>
          intro j u hj
          match j, hj with
          | 0, hj => simp [nc] at hj; subst hj; first | rfl | (rw [← hB1]; simp [Addr.add])
        case c2 => intro u hu; simp [nc] at hu; subst hu; rfl
        case c3 => have := HSZ.out; omega
        intro g2 cap2 w2 hown hgr hat hlt2
        have HE : Hid (N2 w w2 (.slice (some ⟨g2, 0, none⟩) ((grw L 0 k).length + 1) cap2) (.slice a4 l4 c4) (grw L 0 k ++ [(k : Int)]) (grw L 1 k)) := by
          refine N2.put (HZ.out) (G.al _ _) hown hgr ?_
          rcases hat with h | h
          · exact .inl h
          · exact .inr (by simp [hB1]; omega)
        clear hown hgr hat
        go_wp2
        go_roundg (n - (k + 1))
        case measure => omega
        case rel => exact ⟨k + 1, by omega, rfl, by go_num, by rw [(HY0.out hs.out).1, (HY0.out hs.out).2]; exact HE.out⟩
      · have hs := hid hs
        have e3 : (c.what == 3) = false := by simp [h3]
        clear h3
        go_upto_if 35 with fail
        go_cut [35] (fun s w' => s = .bool true ∧ wz = w')
        case first =>
          cases e1 : (c.what == 1) with
          | true =>
            go_wp2
            go_meet
            exact ⟨rfl, rfl⟩
          | false =>
            cases e2 : (c.what == 2) with
            | true =>
              go_wp2
              go_meet
              exact ⟨rfl, rfl⟩
            | false =>
              have e5 : (c.what == 5) = true := by
                have n1 : c.what ≠ 1 := by simpa using e1
                have n2 : c.what ≠ 2 := by simpa using e2
                have : c.what = 5 := by omega
                simp [this]
              go_wp2
              go_meet
              exact ⟨rfl, rfl⟩
        case rest =>
        obtain ⟨rfl, rfl⟩ := hcut
        clear h4
        have HO : Hid (OwnsN (wz.alloc (.cells #[.int .i64 (k : Int)] 3)) w.heap.size (.slice a4 l4 c4) (grw L 1 k)) := (HZ.out.swap).1.up (G.al _ _)
        go_wp2_with (at_builtin; refine wpList_append_lies _ rfl _ _ _ rfl w.heap.size 3 i0 _ 1 8 Try.underlying29 hi hz0 hz1 hz2 rfl (by omega) (.slice a4 l4 c4) (grw L 1 k).length (flat nc (grw L 1 k)) rfl HO.out ⟨B1, 0, none⟩ 1 1 (nc (k : Int)).toList rfl rfl ?c1 ?c2 (by omega) (by unfold maxLen; omega) (by omega) ?c3 (B1 + 1) ?c4 ?_)
        case c1 =>
          intro j u hj
          match j, hj with
          | 0, hj => simp [nc] at hj; subst hj; first | rfl | (rw [← hB1]; simp [Addr.add])
        case c2 => intro u hu; simp [nc] at hu; subst hu; rfl
        case c3 => have := HSZ.out; omega
        intro g2 cap2 w2 hown hgr hat hlt2
        have HE : Hid (N2 w w2 (.slice (some ⟨g2, 0, none⟩) ((grw L 1 k).length + 1) cap2) (.slice a3 l3 c3) (grw L 1 k ++ [(k : Int)]) (grw L 0 k)) := by
          refine N2.put (HZ.out.swap) (G.al _ _) hown hgr ?_
          rcases hat with h | h
          · exact .inl h
          · exact .inr (by simp [hB1]; omega)
        clear hown hgr hat
        go_wp2
        go_roundg (n - (k + 1))
        case measure => omega
        case rel => exact ⟨k + 1, by omega, rfl, by go_num, by rw [(HY1.out hs.out).1, (HY1.out hs.out).2]; exact HE.out.swap⟩
      · have hs := hid hs
        have e3 : (c.what == 3) = false := by simp [h3]
        have e1 : (c.what == 1) = false := by simp [h4]
        have e2 : (c.what == 2) = false := by simp [h5]
        have e5 : (c.what == 5) = false := by simp [h6]
        clear h3 h4 h5 h6
        go_wp2
        go_roundg (n - (k + 1))
        case measure => omega
        case rel => exact ⟨k + 1, by omega, rfl, by go_num, by rw [(HY2.out hs.out).1, (HY2.out hs.out).2]; exact HZ.out⟩
    · obtain rfl : k = n := by omega
      clear hl3 hl4
      go_wp2
      refine bodyPost_ret (v := .tuple #[.slice a3 l3 c3, .slice a4 l4 c4]) ?_ rfl ⟨_, _, rfl, HR.out⟩
      simp [results, Try.results11, go_sem]
end Go.Proofs.Ytpenaeoodfgmpaa
