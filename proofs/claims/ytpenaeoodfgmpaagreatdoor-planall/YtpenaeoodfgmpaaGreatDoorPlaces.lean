/-
  plan.placesOf and plan.itemsOf by contract.
-/
import Derived.Test.YtpenaeoodfgmpaaGreatDoorLeave
namespace Go.Proofs.YtpenaeoodfgmpaaGreatDoor
open Go.RowKit

/-- a number's cell -/
def nc (i : Int) : Array Value := #[.int .i64 i]
theorem nc_size (i : Int) : (nc i).size = 1 := rfl
theorem nc_one (p : Int) : (nc p).all (·.oneCell') = true := by simp [nc, Value.oneCell']
def OwnsN (w : World) (lo : Nat) (v : Value) (R : List Int) : Prop := w.ownsRow lo 3 1 v R.length (flat nc R)
def OwnsI (w : World) (lo : Nat) (v : Value) (R : List It) : Prop := w.ownsRow lo 71 7 v R.length (flat ic R)
theorem Tryz.info3 : (Tryz.prog.info? 3).map (fun i => (i.zero, i.size, i.bytes)) = some (some (.int .i64 0), 1, 8) := by kernel_rfl
theorem Tryz.info45 : (Tryz.prog.info? 71).map (fun i => (i.zero, i.size, i.bytes)) = some (some (.agg z45), 7, 64) := by kernel_rfl
theorem OwnsN.up {w w' : World} {lo : Nat} {v : Value} {R : List Int} (h : OwnsN w lo v R) (hb : G w w') : OwnsN w' lo v R := World.ownsRow.kept h (grown_of hb) (by cases hv : v.ownBlock <;> simp)
theorem OwnsI.up {w w' : World} {lo : Nat} {v : Value} {R : List It} (h : OwnsI w lo v R) (hb : G w w') : OwnsI w' lo v R := World.ownsRow.kept h (grown_of hb) (by cases hv : v.ownBlock <;> simp)
/-- what grows by append alone, above lo -/
theorem grow_below {w wr w1 w2 : World} {v : Value} (hb : G w wr) (h1 : G wr w1) (hown : ∀ k, v.ownBlock = some k → w.heap.size ≤ k) (hg : w1.grownBy w2 v.ownBlock) : G w w2 := by
  have h2 := hb.up h1
  refine ⟨hg.os.trans h2.os, hg.tape.trans h2.tape, hg.output.trans h2.output, Nat.le_trans h2.size hg.size, fun k hk => ?_⟩
  refine (hg.block k (Nat.lt_of_lt_of_le hk h2.size) fun e => ?_).trans (h2.block k hk)
  have := hown k e.symm
  omega
theorem pls_yes {B : List Bool} {k : Nat} (h : B[k]? = some true) : pls B (k + 1) = pls B k ++ [(k : Int)] := by simp [pls, h]
theorem pls_no {B : List Bool} {k : Nat} (h : B[k]? = some false) : pls B (k + 1) = pls B k := by simp [pls, h]
/-- a value that owns, and what grows -/
def NS (w wr : World) (v : Value) (R : List Int) : Prop := OwnsN wr w.heap.size v R ∧ G w wr
def IS (w wr : World) (v : Value) (R : List It) : Prop := OwnsI wr w.heap.size v R ∧ G w wr

set_option maxHeartbeats 2000000 in
set_option maxRecDepth 100000 in
theorem placesOf_any (b : Nat) (B : List Bool) (w : World) (hB : RowB w b B) (hn : B.length ≤ 400) :
    Calls Tryz.prog 22 #[.slice (some ⟨b, 0, none⟩) B.length B.length] w fun e w' => ∃ v, e = .returned v ∧ NS w w' v (pls B B.length) := by
  obtain ⟨n, hn'⟩ : ∃ n, B.length = n := ⟨_, rfl⟩
  obtain ⟨i0, hi, hz0, hz1, hz2⟩ := info_parts Tryz.info3
  have HB := hid hB
  have HN := hid hn'
  have HS0 : Hid (NS w w (.slice none 0 0) []) := ⟨World.ownsRow_nil _ _ _ _, G.refl w⟩
  rw [hn'] at hn ⊢
  clear hB hn'
  go_enter Tryz.func22, Tryz.ntmps22
  go_wp2
  go_loopw [3, 8] (fun v i wr => ∃ k : Nat, k ≤ n ∧ i = .int .i64 k ∧ Hid (NS w wr v (pls B k))) (fun _ i _ => n - (intOf i).toNat)
  case atStart => exact ⟨0, Nat.zero_le _, rfl, HS0.out⟩
  case round =>
    obtain ⟨k, hk, rfl, HR⟩ := hrel
    obtain ⟨a3, c3, e3⟩ := owns_form HR.out.1
    generalize hl3 : (pls B k).length = l3 at e3
    subst e3
    by_cases hlt : k < n
    · obtain ⟨bb, hb⟩ : ∃ bb, B[k]? = some bb := ⟨B[k]'(by rw [HN.out]; exact hlt), by simp⟩
      have hc := (HB.out.keep HR.out.2).at hb
      have ltI : (k : Int) < (n : Int) := by omega
      have geI : (0 : Int) ≤ (k : Int) := by omega
      have hln := pls_len B k
      cases bb with
      | false =>
        have HP := hid (pls_no hb)
        go_wp2
        go_roundw
        case rel => exact ⟨k + 1, by omega, by go_num, by rw [HP.out]; exact HR.out⟩
        case measure => simp [intOf]; omega
      | true =>
        have HP := hid (pls_yes hb)
        have HO : Hid (OwnsN (wr.alloc (.cells #[.int .i64 (k : Int)] 3)) w.heap.size (.slice a3 l3 c3) (pls B k)) := HR.out.1.up (G.al _ _)
        have HSZ := hid HR.out.2.size
        have HL := hid hl3
        clear hb hl3
        obtain ⟨B1, hB1⟩ : ∃ B1, wr.heap.size = B1 := ⟨_, rfl⟩
        go_wp2_with (at_builtin; refine wpList_append_lies _ rfl _ _ _ rfl w.heap.size 3 i0 _ 1 8 Tryz.underlying28 hi hz0 hz1 hz2 rfl (by omega) (.slice a3 l3 c3) (pls B k).length (flat nc (pls B k)) rfl HO.out ⟨B1, 0, none⟩ 1 1 (nc (k : Int)).toList rfl rfl ?c1 ?c2 (by omega) (by unfold maxLen; omega) (by omega) ?c3 (B1 + 1) ?c4 ?_)
        case c1 =>
          intro j u hj
          match j, hj with
          | 0, hj => simp [nc] at hj; subst hj; rw [← hB1]; simp [Addr.add]
        case c2 => intro u hu; simp [nc] at hu; subst hu; rfl
        case c3 => simp; have := HSZ.out; omega
        case c4 => simp [hB1]
        intro g2 cap2 w2 hown hgr hat hlt2
        have HE : Hid (NS w w2 (.slice (some ⟨g2, 0, none⟩) ((pls B k).length + 1) cap2) (pls B (k + 1))) := by
          rw [HP.out]
          refine ⟨?_, grow_below HR.out.2 (G.al _ _) (fun b hb => (World.ownsRow.lt HO.out b hb).1) hgr⟩
          unfold OwnsN
          rw [flat_snoc, List.length_append]
          exact hown
        clear hown hgr hat
        go_wp2
        go_roundw
        case rel => exact ⟨k + 1, by omega, by go_num, HE.out⟩
        case measure => simp [intOf]; omega
    · obtain rfl : k = n := by omega
      clear hl3
      go_wp2
      go_ret
      exact ⟨_, rfl, HR.out⟩
end Go.Proofs.YtpenaeoodfgmpaaGreatDoor
