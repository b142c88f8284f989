/-
  THE REFERENCE's READER: a word that is wanted.
-/
import Derived.Test.YtfigneaaeakbcaaDoorUd
namespace Go.Proofs.YtfigneaaeakbcaaDoor
open Go.RowKit Hm
attribute [local go_sem] Oper.semAt_some

/-- a word read -/
def wordS (s : By) (st : St) (e : Nat) : St := match st with
  | .ok ws => wordW s ws e
  | .error y => .error y
theorem wordS_take {s : By} {st : St} {e : Nat} {y : Er} (h : takeS st e = .error y) : wordS s st e = .error y := by
  cases st with
  | ok ws => show wordW s ws e = _; unfold wordW; rw [show takeW ws e = .error y from h]
  | error z => injection h with h; rw [h]; rfl
theorem wordS_ok {s : By} {st : St} {e : Nat} {x : W} {r : List W} (h : takeS st e = .ok (x, r)) : wordS s st e = (if x.kind = 0 ∧ x.text = s then .ok r else .error (x.pl, 200)) := by
  cases st with
  | ok ws => show wordW s ws e = _; unfold wordW; rw [show takeW ws e = .ok (x, r) from h]
  | error z => cases h
set_option maxRecDepth 100000 in
set_option maxHeartbeats 8000000 in
theorem one_any (c e : Nat) (st : St) (w : World) (h : Rr c e st w) (g0 : Nat) (s : ByteArray) (hg0 : w.heap[g0]? = some (.cells #[.string s] 9 (0, 0))) (hgc : g0 ≠ c) : Calls Tryd.prog 8 #[.pointer (some ⟨c, 0, none⟩), .slice (some ⟨g0, 0, none⟩) 1 1] w fun E w' => (∃ v, E = .returned v) ∧ Kp (fun g => g = c) w w' ∧ Rr c e (wordS (tl s) st e) w' := by
  have CF := hid (fun (st' : St) (a r : Nat) (hr : r ≠ 0) (W : World) (h' : Rr c e st' W) => fail_any c e st' a r hr W h')
  have CT := rtake_any c e st w h
  have hcl := h.lt
  have HG0 := hid hg0
  have hgl : g0 < w.heap.size := (Array.getElem?_eq_some_iff.1 hg0).1
  clear hg0
  cases ht : takeS st e with
  | error y =>
    have CT : Hid (Calls Tryd.prog 16 #[.pointer (some ⟨c, 0, none⟩)] w fun E w' => E = .returned (.tuple #[.agg #[.int .i64 0, .string ⟨#[]⟩, .int .i64 0], .bool false]) ∧ Kp (fun g => g = c) w w' ∧ Rr c e (.error y) w') := CT.mono (by
      rintro E w' ⟨k, h2⟩
      rw [ht] at h2
      exact ⟨h2.1, k, h2.2⟩)
    have HT := hid ht
    clear ht h
    go_enter Tryd.func8, Tryd.ntmps8
    go_wp2_with (first
      | (go_at_call 16; refine CT.out.mono ?_; rintro E w1 ⟨rfl, k1, f1⟩; have H1 := hid (⟨k1, f1⟩ : _ ∧ _); clear k1 f1)
      | ((with_reducible refine pl_alloc 5 65 #[.int .i64 0, .string ⟨#[]⟩, .int .i64 0] ?_ ?_ ?_ ?_ ?_); rfl; rfl; kernel_rfl; exact zero65; intro w2 b2 hb2 hu2 hv2 hs2; have H2 := hid (⟨hb2, hu2, hv2, hs2⟩ : _ ∧ _ ∧ _ ∧ _); clear hb2 hu2 hv2 hs2)
      | ((with_reducible refine pl_store 65 (.tmp 5) (.tmp 11) b2 #[.int .i64 0, .string ⟨#[]⟩, .int .i64 0] #[.int .i64 0, .string ⟨#[]⟩, .int .i64 0] ?_ ?_ ?_ ?_ ?_ ?_ ?_ ?_ ?_ ?_); rfl; rfl; kernel_rfl; rfl; rfl; exact H2.out.2.2.1; exact siz65; exact rfl; exact (by simp [Value.oneCell']); intro w3 k3 v3 s3; have H3 := hid (⟨k3, v3, s3⟩ : _ ∧ _ ∧ _); clear k3 v3 s3))
    go_ret
    obtain ⟨k, f⟩ := H1.out
    obtain ⟨p1, p2, p3, p4⟩ := H2.out
    obtain ⟨q1, q2, q3⟩ := H3.out
    have g13 : G w1 w3 := g_new p2 q1 (by omega)
    refine ⟨⟨_, rfl⟩, k.snd (Kp.of g13), ?_⟩
    rw [wordS_take HT.out]
    exact f.up g13
  | ok xr =>
    obtain ⟨x, r⟩ := xr
    have CT : Hid (Calls Tryd.prog 16 #[.pointer (some ⟨c, 0, none⟩)] w fun E w' => E = .returned (.tuple #[.agg (rc x), .bool true]) ∧ Kp (fun g => g = c) w w' ∧ Rr c e (.ok r) w') := CT.mono (by
      rintro E w' ⟨k, h2⟩
      rw [ht] at h2
      exact ⟨h2.1, k, h2.2⟩)
    have HT := hid ht
    clear ht h
    go_enter Tryd.func8, Tryd.ntmps8
    go_upto_region 5 with (first
      | (go_at_call 16; refine CT.out.mono ?_; rintro E w1 ⟨rfl, k1, f1⟩; have H1 := hid (⟨k1, f1⟩ : _ ∧ _); clear k1 f1)
      | ((with_reducible refine pl_alloc 5 65 #[.int .i64 0, .string ⟨#[]⟩, .int .i64 0] ?_ ?_ ?_ ?_ ?_); rfl; rfl; kernel_rfl; exact zero65; intro w2 b2 hb2 hu2 hv2 hs2; have H2 := hid (⟨hb2, hu2, hv2, hs2⟩ : _ ∧ _ ∧ _ ∧ _); clear hb2 hu2 hv2 hs2)
      | ((with_reducible refine pl_store 65 (.tmp 5) (.tmp 11) b2 (rc x) #[.int .i64 0, .string ⟨#[]⟩, .int .i64 0] ?_ ?_ ?_ ?_ ?_ ?_ ?_ ?_ ?_ ?_); rfl; rfl; kernel_rfl; rfl; rfl; exact H2.out.2.2.1; exact siz65; exact rfl; exact (rc_one x); intro w3 k3 v3 s3; have H3 := hid (⟨k3, v3, s3⟩ : _ ∧ _ ∧ _); clear k3 v3 s3; have cc1 : w3.cell? ⟨b2, 1, none⟩ = some (.string ⟨x.text.toArray⟩) := (by rw [cell_heap H3.out.2.1]; rfl); have cc0 : w3.cell? ⟨b2, 0, none⟩ = some (.int .i64 ((x.kind + 1 : Nat) : Int)) := (by rw [cell_heap H3.out.2.1]; rfl); have cc2 : w3.cell? ⟨b2, 2, none⟩ = some (.int .i64 (x.pl : Int)) := (by rw [cell_heap H3.out.2.1]; rfl)))
    have hres : Hid (Kp (fun g => g = c) w w3 ∧ Rr c e (.ok r) w3) := by
      obtain ⟨k, f⟩ := H1.out
      obtain ⟨p1, p2, p3, p4⟩ := H2.out
      obtain ⟨q1, q2, q3⟩ := H3.out
      have g13 : G w1 w3 := g_new p2 q1 (by omega)
      exact ⟨k.snd (Kp.of g13), f.up g13⟩
    have cs : w3.cell? ⟨g0, 0, none⟩ = some (.string s) := by rw [cell_heap ((hres.out.1.block g0 hgl hgc).trans HG0.out)]; rfl
    clear H2 H3
    have HC := hid (⟨cc0, cc1, cc2, cs⟩ : _ ∧ _ ∧ _ ∧ _)
    clear cc0 cc1 cc2 cs
    go_loopw [7] (fun x7 w9 => ∃ (k : Nat), x7 = .int .i64 (k : Int) ∧ k ≤ 1 ∧ Hid (G w3 w9) ∧ Hid (k = 1 → ¬ (x.kind = 0 ∧ x.text = tl s))) (fun x7 _ => 1 - iOf x7)
    case atStart => exact ⟨0, rfl, by decide, Below.refl _ _, fun q => by omega⟩
    case round =>
      obtain ⟨k, rfl, hk1, HG, HX⟩ := hrel
      have cc0 : wr.cell? ⟨b2, 0, none⟩ = some (.int .i64 ((x.kind + 1 : Nat) : Int)) := by rw [HG.out.cell (World.block_lt_of_cell? w3 _ HC.out.1)]; exact HC.out.1
      have cc1 : wr.cell? ⟨b2, 1, none⟩ = some (.string ⟨x.text.toArray⟩) := by rw [HG.out.cell (World.block_lt_of_cell? w3 _ HC.out.2.1)]; exact HC.out.2.1
      have cc2 : wr.cell? ⟨b2, 2, none⟩ = some (.int .i64 (x.pl : Int)) := by rw [HG.out.cell (World.block_lt_of_cell? w3 _ HC.out.2.2.1)]; exact HC.out.2.2.1
      have cs : wr.cell? ⟨g0, 0, none⟩ = some (.string s) := by rw [HG.out.cell (World.block_lt_of_cell? w3 _ HC.out.2.2.2)]; exact HC.out.2.2.2
      by_cases hk0 : k = 0
      · subst hk0
        have hN : Hid (∀ n, G w3 (wr.drewN n)) := fun n => HG.out.tr (below_drewN (Below.refl _ wr) n)
        by_cases hx0 : x.kind = 0
        · have b1 : (((x.kind + 1 : Nat) : Int) == 1) = true := by simp [hx0]
          have b1' : (((x.kind : Int) + 1) == 1) = true := by simp [hx0]
          by_cases hx : x.text = tl s
          · have hst : (x.text == s.toList) = true := by simpa using hx
            have HO : Hid (wordS (tl s) st e = .ok r) := by show _ = _; rw [wordS_ok HT.out, if_pos ⟨hx0, hx⟩]
            clear hx
            go_upto_region 7 with fail
            go_quiet (fail)
            go_wp2
            go_ret
            rw [HO.out]
            exact ⟨⟨_, rfl⟩, hres.out.1.snd (Kp.of (hN.out _)), hres.out.2.up (hN.out _)⟩
          · have hst : (x.text == s.toList) = false := by simpa using hx
            have hX : Hid (0 + 1 = 1 → ¬ (x.kind = 0 ∧ x.text = tl s)) := fun _ q => hx q.2
            clear hx
            go_upto_region 7 with fail
            go_quiet (fail)
            go_wp2
            go_roundw
            case rel => exact ⟨1, rfl, by decide, hN.out _, fun _ => hX.out rfl⟩
            case measure => simp
        · have b1 : (((x.kind + 1 : Nat) : Int) == 1) = false := by simp; omega
          have b1' : (((x.kind : Int) + 1) == 1) = false := by simp; omega
          have hX : Hid (0 + 1 = 1 → ¬ (x.kind = 0 ∧ x.text = tl s)) := fun _ q => hx0 q.1
          go_upto_region 7 with fail
          go_quiet (fail)
          go_wp2
          go_roundw
          case rel => exact ⟨1, rfl, by decide, hN.out _, fun _ => hX.out rfl⟩
          case measure => simp
      · have hk1 : k = 1 := by omega
        subst hk1
        have HO : Hid (wordS (tl s) st e = .error (x.pl, 200)) := by show _ = _; rw [wordS_ok HT.out, if_neg (HX.out rfl)]
        have HR : Hid (Rr c e (.ok r) wr) := hres.out.2.up HG.out
        go_wp2_with (first
          | (go_at_call 17; refine (CF.out (.ok r) x.pl 200 (by decide) wr HR.out).mono ?_; rintro E w5 ⟨rfl, f1, f2⟩; have H5 := hid (⟨f1, f2⟩ : _ ∧ _); clear f1 f2))
        go_ret
        rw [HO.out]
        exact ⟨⟨_, rfl⟩, (hres.out.1.snd (Kp.of HG.out)).snd H5.out.1, H5.out.2⟩
end Go.Proofs.YtfigneaaeakbcaaDoor
