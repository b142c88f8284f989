/-
  The reference's padded, starts, roots.
-/
import Derived.Test.YtmglopfjjbnfiaaDoorRefWords
namespace Go.Proofs.YtmglopfjjbnfiaaDoor
open Go.RowKit

theorem tail8_take (n i : Nat) (hi : i < 8) : (Sha.tail8 n).take i ++ [8 * n / 2 ^ (56 - 8 * i) % 256] = (Sha.tail8 n).take (i + 1) := by
  obtain ⟨N, hN⟩ : ∃ N, N = 8 * n := ⟨_, rfl⟩
  unfold Sha.tail8
  rw [← hN]
  match i, hi with
  | 0, _ | 1, _ | 2, _ | 3, _ | 4, _ | 5, _ | 6, _ | 7, _ => simp [Sha.four]; try omega

theorem padded_eq (l : List Nat) : Sha.pad l = l ++ (128 :: List.replicate ((119 - l.length % 64) % 64) 0) ++ Sha.tail8 l.length := by
  unfold Sha.pad Sha.tail8; simp

def padM (n : Nat) (v : Value) : Nat := match v with | .slice _ m _ => n + 200 - m | _ => 0

set_option maxHeartbeats 4000000 in
set_option maxRecDepth 100000 in
theorem padded_any (v : Value) (l : List Nat) (w : World) (hv : Has w v l) (hl : l.length ≤ 100000) :
    Calls Tryd.prog 42 #[v] w fun e w' => ∃ u, e = .returned u ∧ Owns w' w.heap.size u (Sha.pad l) ∧ Below w.heap.size w w' := by
  obtain ⟨ao, cap, rfl, _⟩ := hv.form
  have HV : Hid (Has w (.slice ao l.length cap) l) := hv
  obtain ⟨n, hn⟩ : ∃ n, n = l.length := ⟨_, rfl⟩
  have HN : Hid (n = l.length) := hn
  rw [← hn]
  rw [← hn] at hl
  clear hv hn
  go_enter Tryd.func42, Tryd.ntmps42
  go_wp2_with (first
    | (at_builtin; refine wpList_append_has rfl (.tmp 6) (.tmp 7) rfl w.heap.size _ _ [] l rfl rfl (Owns.nil _ _) (by rw [HN.out]; exact HV.out) (by have := HN.out; simp; omega) (Nat.le_refl _) ?_; intro v1 w1 ho1 hb1; rw [List.nil_append] at ho1; have H1 : Hid (Owns w1 w.heap.size v1 l ∧ Below w.heap.size w w1) := ⟨ho1, hb1⟩; clear ho1 hb1)
    | (at_builtin; refine wpList_append_has rfl (.tmp 9) (.tmp 10) rfl w.heap.size _ _ l [128] rfl rfl (H1.out.1.block fun q hq => heap_alloc_old _ _ (H1.out.1.lt q hq).2) (has_fr _ [128] rfl (heap_alloc_new _ _)) (by have := HN.out; simp; omega) (by have := H1.out.2.size; simp; omega) ?_; intro v2 w2 ho2 hb2; have H2 : Hid (Owns w2 w.heap.size v2 (l ++ [128]) ∧ Below w.heap.size w w2) := ⟨ho2, H1.out.2.trans (((Below.refl w.heap.size w1).alloc H1.out.2.size _).trans hb2)⟩; clear ho2 hb2))
  go_loopw [3] (fun ov wr => ∃ (j : Nat), j ≤ (119 - n % 64) % 64 ∧ Hid (Owns wr w.heap.size ov (l ++ (128 :: List.replicate j 0))) ∧ Hid (Below w.heap.size w wr)) (fun ov _ => padM n ov)
  case atStart => exact ⟨0, by omega, H2.out.1, H2.out.2⟩
  case round =>
    clear H2 H1
    obtain ⟨j, hj, HO, HW⟩ := hrel
    have hol : (l ++ (128 :: List.replicate j 0)).length = n + 1 + j := by rw [List.length_append, ← HN.out]; simp; omega
    obtain ⟨oo, oc, e0, _⟩ := HO.out.has.form
    subst e0
    obtain ⟨m, hm⟩ : ∃ m, m = n + 1 + j := ⟨_, rfl⟩
    rw [hol, ← hm] at HO ⊢
    have HOL : Hid ((l ++ (128 :: List.replicate j 0)).length = m) := by show _ = _; rw [hol, hm]
    by_cases hlt : j < (119 - n % 64) % 64
    · have h1 : ((m : Int) % 64 != 56) = true := by simp; omega
      have h2 : ¬ ((m : Int) % 64 = 56) := by omega
      have HN2 : Hid (l ++ (128 :: List.replicate j 0) ++ [0] = l ++ (128 :: List.replicate (j + 1) 0)) := by show _ = _; rw [List.replicate_succ']; simp
      clear hol
      go_wp2_with (at_builtin; refine wpList_append_has rfl (.tmp 16) (.tmp 17) rfl w.heap.size _ _ _ [0] rfl rfl (HO.out.block fun q hq => heap_alloc_old _ _ (HO.out.lt q hq).2) (has_fr _ [0] rfl (heap_alloc_new _ _)) (by have := HOL.out; simp only [List.length_singleton]; omega) (by have := HW.out.size; simp; omega) ?_; intro v2 w2 ho2 hb2; have H2 : Hid (Owns w2 w.heap.size v2 (l ++ (128 :: List.replicate (j + 1) 0)) ∧ Below w.heap.size w w2) := ⟨by rw [← HN2.out]; exact ho2, HW.out.trans (((Below.refl w.heap.size wr).alloc HW.out.size _).trans hb2)⟩; clear ho2 hb2)
      have hol2 : (l ++ (128 :: List.replicate (j + 1) 0)).length = m + 1 := by rw [← HN2.out, List.length_append, HOL.out]; rfl
      obtain ⟨oo2, oc2, e2, _⟩ := H2.out.1.has.form
      subst e2
      go_roundw
      case rel => exact ⟨j + 1, by omega, H2.out.1, H2.out.2⟩
      case measure => simp only [padM]; omega
    · have hj2 : j = (119 - n % 64) % 64 := by omega
      have h1 : ((m : Int) % 64 != 56) = false := by simp; omega
      have h2 : (m : Int) % 64 = 56 := by omega
      obtain ⟨P, hP⟩ : ∃ P, P = l ++ (128 :: List.replicate j 0) := ⟨_, rfl⟩
      have HP : Hid (Sha.pad l = P ++ Sha.tail8 n) := by show _ = _; rw [padded_eq, hP, ← HN.out, hj2]
      rw [← hP] at HO HOL
      have h8 : IntKind.u64.wrap (8 * (n : Int)) = 8 * (n : Int) := by rw [IntKind.wrap_u64]; omega
      have hmle : m ≤ 100200 := by omega
      clear hP hol hj2 hlt hm hj
      go_wp2_with fail
      clear h1 h2
      go_loopw [3, 5] (fun ov i wr => ∃ (k : Nat) (T : List Nat), k ≤ 8 ∧ i = .int .i64 k ∧ Hid (T = P ++ (Sha.tail8 n).take k) ∧ Hid (Owns wr w.heap.size ov T) ∧ Hid (Below w.heap.size w wr)) (fun _ i _ => 8 - (intOf i).toNat)
      case atStart => exact ⟨0, P, by omega, rfl, by show _ = _; simp, HO.out, HW.out⟩
      case round =>
        clear HO HW
        obtain ⟨k, T, hk, rfl, HT, HO, HW⟩ := hrel
        obtain ⟨oo2, oc2, e0, _⟩ := HO.out.has.form
        subst e0
        by_cases hlt : k < 8
        · have hkI : (k : Int) < 8 := by omega
          obtain ⟨q, hq⟩ : ∃ q, q = 8 * n / 2 ^ (56 - 8 * k) := ⟨_, rfl⟩
          have HTN : Hid (T ++ [q % 256] = P ++ (Sha.tail8 n).take (k + 1)) := by show _ = _; rw [HT.out, hq, List.append_assoc, tail8_take n k hlt]
          have HTL : Hid (T.length ≤ 200000) := by
            show _ ≤ _
            rw [HT.out, List.length_append, HOL.out]; simp [Sha.tail8_len]; omega
          have hqI : (8 * (n : Int)) / 2 ^ (56 - 8 * k) = (q : Int) := by rw [hq, Int.natCast_ediv, Int.natCast_pow]; rfl
          clear hq HT
          have hvb : (#[Value.int .u8 ((q : Int) % 256)] : Array Value) = ([q % 256].map vb).toArray := by simp [vb]
          have HVB : Hid ((#[Value.int .u8 ((q : Int) % 256)] : Array Value) = ([q % 256].map vb).toArray) := hvb
          clear hvb
          go_wp2_with (at_builtin; refine wpList_append_has rfl (.tmp 27) (.tmp 35) rfl w.heap.size _ _ _ [q % 256] rfl rfl (HO.out.block fun q hq => heap_alloc_old _ _ (HO.out.lt q hq).2) (has_fr _ [q % 256] HVB.out (heap_alloc_new _ _)) (by have := HTL.out; simp only [List.length_singleton]; omega) (by have := HW.out.size; simp; omega) ?_; intro v2 w2 ho2 hb2; have H2 : Hid (Owns w2 w.heap.size v2 (T ++ [q % 256]) ∧ Below w.heap.size w w2) := ⟨ho2, HW.out.trans (((Below.refl w.heap.size wr).alloc HW.out.size _).trans hb2)⟩; clear ho2 hb2)
          obtain ⟨oo3, oc3, e3, _⟩ := H2.out.1.has.form
          subst e3
          go_roundw
          case rel => exact ⟨k + 1, T ++ [q % 256], by omega, by go_num, HTN.out, H2.out.1, H2.out.2⟩
          case measure => simp [intOf]; omega
        · have hkI : ¬ (k : Int) < 8 := by omega
          obtain rfl : k = 8 := by omega
          have RR : Hid (Owns wr w.heap.size (.slice oo2 T.length oc2) (Sha.pad l) ∧ Below w.heap.size w wr) := ⟨by rw [HP.out, show Sha.tail8 n = (Sha.tail8 n).take 8 from rfl, ← HT.out]; exact HO.out, HW.out⟩
          clear HO HW HT HP
          go_wp2
          go_ret
          exact ⟨_, rfl, RR.out⟩

def startL : List Nat := [1779033703, 3144134277, 1013904242, 2773480762, 1359893119, 2600822924, 528734635, 1541459225]
theorem hasQ_new0 (W : World) (l : List Nat) (c : Array Value) (T : TypeId) (hc : c = (l.map vq).toArray) : HasQ (W.alloc (.cells c T)) (.slice (some ⟨W.heap.size, 0, none⟩) l.length l.length) l := by
  refine .inr ⟨_, _, rfl, Nat.le_refl _, fun i hi => ?_⟩
  rw [cell_of_row _ _ i _ _ _ (heap_alloc_new W _), hc]
  simp [List.getD, hi]

set_option maxHeartbeats 1000000 in
set_option maxRecDepth 100000 in
theorem starts_any (w : World) : Calls Tryd.prog 40 #[] w fun e w' => ∃ u, e = .returned u ∧ HasQ w' u (vlist Sha.first) ∧ Below w.heap.size w w' := by
  go_enter Tryd.func40, Tryd.ntmps40
  go_wp2
  go_ret
  exact ⟨_, rfl, hasQ_new0 w (vlist Sha.first) _ 84 rfl, (Below.refl _ w).alloc (Nat.le_refl _) _⟩

set_option maxHeartbeats 1000000 in
set_option maxRecDepth 100000 in
theorem roots_any (w : World) : Calls Tryd.prog 41 #[] w fun e w' => ∃ u, e = .returned u ∧ HasQ w' u Sha.ks ∧ Below w.heap.size w w' := by
  go_enter Tryd.func41, Tryd.ntmps41
  go_wp2
  go_ret
  exact ⟨_, rfl, hasQ_new0 w Sha.ks _ 84 rfl, (Below.refl _ w).alloc (Nat.le_refl _) _⟩
end Go.Proofs.YtmglopfjjbnfiaaDoor
