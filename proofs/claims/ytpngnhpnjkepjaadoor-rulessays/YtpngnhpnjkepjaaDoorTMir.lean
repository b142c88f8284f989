/-
  The reference's Mirror by contract.
-/
import Derived.Test.YtpngnhpnjkepjaaDoorTPlain
import Derived.Test.YtpngnhpnjkepjaaDoorTParse
import Derived.Deep.Cut
namespace Go.Proofs.YtpngnhpnjkepjaaDoor
open Go.RowKit

set_option maxHeartbeats 2000000 in
set_option maxRecDepth 100000 in
theorem tmir_any (v : Value) (L : List Ru) (w : World) (hv : HasR w v L) (hL : ∀ r ∈ L, r.1 = 1 ∨ r.1 = 2 ∨ r.1 = 3) (hn : L.length ≤ 64) :
    Calls Tryd.prog 18 #[v] w fun e w' => ∃ v', e = .returned v' ∧ HasR w' v' (mirR L) ∧ Below w.heap.size w w' := by
  obtain ⟨i0, hi, hz0, hz1, hz2⟩ := info_parts Tryd.info54
  have HV : Hid (HasR w v L) := hv
  have HL : Hid (∀ r ∈ L, r.1 = 1 ∨ r.1 = 2 ∨ r.1 = 3) := hL
  obtain ⟨ao, cap, hvf⟩ := hv.form
  clear hv hL
  obtain ⟨N, hN⟩ : ∃ N, L.length = N := ⟨_, rfl⟩
  rw [hN] at hvf hn
  have HN : Hid (L.length = N) := hN
  subst hvf
  clear hN
  go_enter Tryd.func18, Tryd.ntmps18
  go_wp2
  go_loopw [3, 4] (fun t3 t4 wr => ∃ (n : Nat) (so : Option Addr) (sc : Nat), t3 = .slice so n sc ∧ t4 = .int .i64 (n : Int) ∧ n ≤ N ∧ Hid (OwnsR wr w.heap.size (.slice so n sc) (mirR (L.take n)) ∧ (n = 0 → Value.slice so n sc = .slice none 0 0)) ∧ Hid (Below w.heap.size w wr)) (fun _ t4 wr => N - iOf t4)
  case atStart => exact ⟨0, none, 0, rfl, rfl, Nat.zero_le _, ⟨World.ownsRow_nil _ _ _ _, fun _ => rfl⟩, Below.refl _ _⟩
  case round =>
    obtain ⟨n, so, sc, rfl, rfl, hnN, HO, HB⟩ := hrel
    by_cases hlt : n < N
    · have i1 : (n : Int) < (N : Int) := by omega
      obtain ⟨r, hr⟩ : ∃ r, L[n]? = some r := ⟨_, List.getElem?_eq_getElem (by rw [HN.out]; exact hlt)⟩
      obtain ⟨g, rfl, hc⟩ : ∃ g, ao = some ⟨g, 0, none⟩ ∧ ∀ i r, L[i]? = some r → wr.cell? ⟨g, i * 2, none⟩ = some (.int .i64 (r.1 : Int)) ∧ wr.cell? ⟨g, i * 2 + 1, none⟩ = some (.string (ofB r.2)) := by
        rcases HV.out.up HB.out with ⟨_, h⟩ | ⟨_, g, c2, hv, _, h⟩
        · subst h; simp at hr
        · cases hv; exact ⟨g, rfl, h⟩
      obtain ⟨y0, y1⟩ := hc n r hr
      clear hc
      have hm := List.mem_of_getElem? hr
      have hk := HL.out r hm
      obtain ⟨k, p⟩ := r
      simp only at hk y0 y1
      have hlen : (mirR (L.take n)).length = n := by rw [mirR_len, List.length_take, HN.out]; omega
      have hown : wr.ownsRow w.heap.size 54 2 (.slice so n sc) n (rcs (mirR (L.take n))) := by have := HO.out.1; unfold OwnsR at this; rw [hlen] at this; exact this
      have HW : Hid (∀ (W w4 : World) v' , World.ownsRow w4 w.heap.size 54 2 v' (n + 1) (rcs (mirR (L.take n)) ++ [.int .i64 (mirK k : Int), .string (ofB p)]) → OwnsR w4 w.heap.size v' (mirR (L.take (n + 1)))) := fun W w4 v' h => by
        rw [take_snoc hr, mirR_snoc]
        unfold OwnsR
        rw [rcs_app, List.length_append, hlen]
        exact h
      have hown' : Hid (wr.ownsRow w.heap.size 54 2 (.slice so n sc) n (rcs (mirR (L.take n)))) := hown
      clear hr hm hlen HO hown
      rcases hk with rfl | rfl | rfl
      · have HW2 := fun w4 v' => HW.out wr w4 v'
        rw [show ((mirK 1 : Nat) : Int) = 1 from rfl] at HW2
        have HW3 : Hid (∀ (w4 : World) v', World.ownsRow w4 w.heap.size 54 2 v' (n + 1) (rcs (mirR (L.take n)) ++ [.int .i64 1, .string (ofB p)]) → OwnsR w4 w.heap.size v' (mirR (L.take (n + 1)))) := HW2
        clear HW HW2
        go_wp2_with (at_builtin; refine wpList_append_own _ rfl _ _ 28 rfl w.heap.size 54 i0 (.agg #[.int .i64 0, .string ⟨#[]⟩]) 2 24 Tryd.underlying28 hi hz0 hz1 hz2 rfl (by decide) _ _ _ rfl (World.ownsRow.alloc (World.ownsRow.alloc hown'.out _) _) ⟨wr.heap.size + 1, 0, none⟩ 1 1 [.int .i64 1, .string (ofB p)] rfl rfl ?c1 ?c2 ?c3 ?c4 ?c5 ?_)
        case c1 => have := two_new_at (w := wr.alloc (.cells #[.int .i64 1, .string (ofB p)] 54)) (a := .int .i64 1) (b := .string (ofB p)) (T := 54); simpa only [World.size_alloc] using this
        case c2 => exact one2 rfl rfl
        case c3 => unfold maxLen; omega
        case c4 => omega
        case c5 => have := HB.out.size; simp; omega
        intro v' w4 hown4 hgrow _
        have R2 : Below w.heap.size w w4 := by
          have h1 := HB.out
          have h2 := h1.size
          exact ((h1.alloc h2 _).alloc (by simp; omega) _).grown hgrow (by simp; omega) fun k hk => (World.ownsRow.lt hown'.out k hk).1
        have R1 := HW3.out w4 v' hown4
        obtain ⟨vo, vc, rfl⟩ := owns_form hown4
        have HO2 : Hid (OwnsR w4 w.heap.size (.slice vo (n + 1) vc) (mirR (L.take (n + 1))) ∧ (n + 1 = 0 → Value.slice vo (n + 1) vc = .slice none 0 0)) := ⟨R1, fun h => by omega⟩
        have HB2 : Hid (Below w.heap.size w w4) := R2
        clear hown4 hgrow R1 R2 HW3 hown'
        go_wp2
        go_roundw
        case rel => exact ⟨n + 1, vo, vc, rfl, by go_num, by omega, HO2, HB2⟩
        case measure => simp; omega
      · have HW2 := fun w4 v' => HW.out wr w4 v'
        rw [show ((mirK 2 : Nat) : Int) = 3 from rfl] at HW2
        have HW3 : Hid (∀ (w4 : World) v', World.ownsRow w4 w.heap.size 54 2 v' (n + 1) (rcs (mirR (L.take n)) ++ [.int .i64 3, .string (ofB p)]) → OwnsR w4 w.heap.size v' (mirR (L.take (n + 1)))) := HW2
        clear HW HW2
        go_wp2_with (at_builtin; refine wpList_append_own _ rfl _ _ 28 rfl w.heap.size 54 i0 (.agg #[.int .i64 0, .string ⟨#[]⟩]) 2 24 Tryd.underlying28 hi hz0 hz1 hz2 rfl (by decide) _ _ _ rfl (World.ownsRow.alloc (World.ownsRow.alloc hown'.out _) _) ⟨wr.heap.size + 1, 0, none⟩ 1 1 [.int .i64 3, .string (ofB p)] rfl rfl ?c1 ?c2 ?c3 ?c4 ?c5 ?_)
        case c1 => have := two_new_at (w := wr.alloc (.cells #[.int .i64 3, .string (ofB p)] 54)) (a := .int .i64 3) (b := .string (ofB p)) (T := 54); simpa only [World.size_alloc] using this
        case c2 => exact one2 rfl rfl
        case c3 => unfold maxLen; omega
        case c4 => omega
        case c5 => have := HB.out.size; simp; omega
        intro v' w4 hown4 hgrow _
        have R2 : Below w.heap.size w w4 := by
          have h1 := HB.out
          have h2 := h1.size
          exact ((h1.alloc h2 _).alloc (by simp; omega) _).grown hgrow (by simp; omega) fun k hk => (World.ownsRow.lt hown'.out k hk).1
        have R1 := HW3.out w4 v' hown4
        obtain ⟨vo, vc, rfl⟩ := owns_form hown4
        have HO2 : Hid (OwnsR w4 w.heap.size (.slice vo (n + 1) vc) (mirR (L.take (n + 1))) ∧ (n + 1 = 0 → Value.slice vo (n + 1) vc = .slice none 0 0)) := ⟨R1, fun h => by omega⟩
        have HB2 : Hid (Below w.heap.size w w4) := R2
        clear hown4 hgrow R1 R2 HW3 hown'
        go_wp2
        go_roundw
        case rel => exact ⟨n + 1, vo, vc, rfl, by go_num, by omega, HO2, HB2⟩
        case measure => simp; omega
      · have HW2 := fun w4 v' => HW.out wr w4 v'
        rw [show ((mirK 3 : Nat) : Int) = 2 from rfl] at HW2
        have HW3 : Hid (∀ (w4 : World) v', World.ownsRow w4 w.heap.size 54 2 v' (n + 1) (rcs (mirR (L.take n)) ++ [.int .i64 2, .string (ofB p)]) → OwnsR w4 w.heap.size v' (mirR (L.take (n + 1)))) := HW2
        clear HW HW2
        go_wp2_with (at_builtin; refine wpList_append_own _ rfl _ _ 28 rfl w.heap.size 54 i0 (.agg #[.int .i64 0, .string ⟨#[]⟩]) 2 24 Tryd.underlying28 hi hz0 hz1 hz2 rfl (by decide) _ _ _ rfl (World.ownsRow.alloc (World.ownsRow.alloc hown'.out _) _) ⟨wr.heap.size + 1, 0, none⟩ 1 1 [.int .i64 2, .string (ofB p)] rfl rfl ?c1 ?c2 ?c3 ?c4 ?c5 ?_)
        case c1 => have := two_new_at (w := wr.alloc (.cells #[.int .i64 2, .string (ofB p)] 54)) (a := .int .i64 2) (b := .string (ofB p)) (T := 54); simpa only [World.size_alloc] using this
        case c2 => exact one2 rfl rfl
        case c3 => unfold maxLen; omega
        case c4 => omega
        case c5 => have := HB.out.size; simp; omega
        intro v' w4 hown4 hgrow _
        have R2 : Below w.heap.size w w4 := by
          have h1 := HB.out
          have h2 := h1.size
          exact ((h1.alloc h2 _).alloc (by simp; omega) _).grown hgrow (by simp; omega) fun k hk => (World.ownsRow.lt hown'.out k hk).1
        have R1 := HW3.out w4 v' hown4
        obtain ⟨vo, vc, rfl⟩ := owns_form hown4
        have HO2 : Hid (OwnsR w4 w.heap.size (.slice vo (n + 1) vc) (mirR (L.take (n + 1))) ∧ (n + 1 = 0 → Value.slice vo (n + 1) vc = .slice none 0 0)) := ⟨R1, fun h => by omega⟩
        have HB2 : Hid (Below w.heap.size w w4) := R2
        clear hown4 hgrow R1 R2 HW3 hown'
        go_wp2
        go_roundw
        case rel => exact ⟨n + 1, vo, vc, rfl, by go_num, by omega, HO2, HB2⟩
        case measure => simp; omega
    · have hn2 : n = N := by omega
      subst hn2
      have hR : HasR wr (.slice so n sc) (mirR L) := by
        have e : L.take n = L := List.take_of_length_le (by rw [HN.out]; exact Nat.le_refl _)
        have h := HO.out
        rw [e] at h
        refine h.1.has fun q => h.2 ?_
        have := congrArg List.length q
        rw [mirR_len, HN.out] at this
        exact this
      have HR : Hid (HasR wr (.slice so n sc) (mirR L)) := hR
      clear hR HO
      go_wp2
      go_ret
      exact ⟨_, rfl, HR.out, HB.out⟩
end Go.Proofs.YtpngnhpnjkepjaaDoor
