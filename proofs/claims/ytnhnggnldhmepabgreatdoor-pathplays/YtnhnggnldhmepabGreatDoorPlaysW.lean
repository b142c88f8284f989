/-
  PathPlays: the walk of the law.
-/
import Derived.Test.YtnhnggnldhmepabGreatDoorBkNew
import Derived.Test.YtnhnggnldhmepabGreatDoorRefSplit
import Derived.Test.YtnhnggnldhmepabGreatDoorSame
import Derived.Test.YtnhnggnldhmepabGreatDoorSorted
import Derived.Test.YtnhnggnldhmepabGreatDoorJoin
import Derived.Test.YtnhnggnldhmepabGreatDoorOrdersL
import Derived.Test.YtnhnggnldhmepabGreatDoorMatchesL
import Derived.Deep.RegionHeld3
namespace Go.Proofs.YtnhnggnldhmepabGreatDoor
open Go.RowKit Bk

/-- The Book at K with n lists. -/
def PB (w0 : World) (K n : Nat) (w : World) : Prop := ∃ B, BookOk w w0.heap.size K n B ∧ Below w0.heap.size w0 w

section
variable {w0 w w' : World} {K n : Nat}
theorem PB.bel (h : PB w0 K n w) : Below w0.heap.size w0 w := by obtain ⟨B, _, h⟩ := h; exact h
theorem PB.up (h : PB w0 K n w) (hb : Below w.heap.size w w') : PB w0 K n w' := by
  obtain ⟨B, h1, h4⟩ := h
  exact ⟨B, h1.keep hb.size (fun b hB => hb.block b (h1.lt b hB)) hb.os hb.tape hb.output, h4.trans (hb.mono h4.size)⟩
theorem PB.hold (h : PB w0 K n w) (hn : n ≤ 200000) : Calls Tryz.prog 9 #[.pointer (some ⟨K, 0, none⟩)] w fun e w' => e = .returned (.bool true) ∧ PB w0 K n w' := by
  obtain ⟨B, h1, h4⟩ := h
  refine (bookHoldOk w _ K n B h1 hn).mono ?_
  rintro e w' ⟨rfl, k, rfl⟩
  exact ⟨rfl, PB.up ⟨B, h1, h4⟩ ⟨rfl, rfl, rfl, Nat.le_refl _, fun _ _ => rfl⟩⟩
theorem PB.texts (h : PB w0 K n w) (htb : Tb w0.heap.size w0) (hb : Below w.heap.size w w') {v : Value} {L : List ByteArray} (hv : OwnsT w' w.heap.size v L) (hl : L.length ≤ 1000000) (mark : Nat) (hm : mark ≤ 100000000) (hn : n ≤ 200000) :
    Calls Tryz.prog 16 #[.pointer (some ⟨K, 0, none⟩), v, .int .i64 mark] w' fun e w2 => e = .returned (.tuple #[]) ∧ PB w0 K (n + 1) w2 := by
  have hu := h.up hb
  obtain ⟨B, h1, h4⟩ := h
  have hs := h4.size
  have k1 : BookOk w' w0.heap.size K n B := h1.keep hb.size (fun b hB => hb.block b (h1.lt b hB)) hb.os hb.tape hb.output
  refine (bookTextsOk w' _ K n B v L mark k1 (hv.mono hs) (fun b hb' hB => by have := (World.ownsRow.lt hv b hb').1; have := h1.lt b hB; omega) hl hm hn (htb.on hu.bel)).mono ?_
  rintro e w2 ⟨rfl, B', b1, b2, b3⟩
  exact ⟨rfl, B', b1, hu.bel.trans b2⟩
end

set_option maxHeartbeats 4000000 in
set_option maxRecDepth 100000 in
theorem once_check (w0 : World) (K n : Nat) (a b : ByteArray) (L : List ByteArray) (m : Int) (ao : Option Addr) (cap : Nat) (mark : Nat) (w : World) (h : PB w0 K n w) (ha : a.size ≤ 30000) :
    Calls Tryz.prog 8 #[.pointer (some ⟨K, 0, none⟩), .agg #[.int .i64 1, .string a, .string b, .slice ao L.length cap, .int .i64 m], .int .i64 mark] w fun e w' => e = .returned (.bool true) ∧ ∃ n', n' ≤ n + 1 ∧ PB w0 K n' w' := by
  obtain ⟨wo, ewo⟩ : ∃ wo, w.alloc (.cells #[.int .i64 1, .string a, .string b, .slice ao L.length cap, .int .i64 m] 29) = wo := ⟨_, rfl⟩
  have bo : Below w.heap.size w wo := by rw [← ewo]; exact (Below.refl _ _).alloc (Nat.le_refl _) _
  have H := hid (h.up bo)
  have c0 : wo.cell? ⟨w.heap.size, 0, none⟩ = some (.int .i64 1) := by rw [← ewo]; simp
  have c1 : wo.cell? ⟨w.heap.size, 1, none⟩ = some (.string a) := by rw [← ewo]; simp
  have c2 : wo.cell? ⟨w.heap.size, 2, none⟩ = some (.string b) := by rw [← ewo]; simp
  have c3 : wo.cell? ⟨w.heap.size, 3, none⟩ = some (.slice ao L.length cap) := by rw [← ewo]; simp
  have c4 : wo.cell? ⟨w.heap.size, 4, none⟩ = some (.int .i64 m) := by rw [← ewo]; simp
  have CC := hid (ChecksR.walk a wo (by unfold maxLen; omega))
  clear h
  go_enter Tryz.func8, Tryz.ntmps8
  go_wp2_with fail
  refine CC.out.mono ?_
  rintro e w1 ⟨rfl, b1⟩
  have H1 := hid (H.out.up b1)
  clear b1 CC H ewo bo
  go_wp2
  go_ret
  exact ⟨rfl, n, by omega, H1.out⟩

set_option maxHeartbeats 4000000 in
set_option maxRecDepth 100000 in
theorem once_order4 (w0 : World) (K n : Nat) (a b : ByteArray) (L : List ByteArray) (m : Int) (ao : Option Addr) (cap : Nat) (mark : Nat) (w : World) (h : PB w0 K n w) (ha : a.size ≤ 30000) (hb : b.size ≤ 30000) :
    Calls Tryz.prog 8 #[.pointer (some ⟨K, 0, none⟩), .agg #[.int .i64 4, .string a, .string b, .slice ao L.length cap, .int .i64 m], .int .i64 mark] w fun e w' => e = .returned (.bool true) ∧ ∃ n', n' ≤ n + 1 ∧ PB w0 K n' w' := by
  obtain ⟨wo, ewo⟩ : ∃ wo, w.alloc (.cells #[.int .i64 4, .string a, .string b, .slice ao L.length cap, .int .i64 m] 29) = wo := ⟨_, rfl⟩
  have bo : Below w.heap.size w wo := by rw [← ewo]; exact (Below.refl _ _).alloc (Nat.le_refl _) _
  have H := hid (h.up bo)
  have c0 : wo.cell? ⟨w.heap.size, 0, none⟩ = some (.int .i64 4) := by rw [← ewo]; simp
  have c1 : wo.cell? ⟨w.heap.size, 1, none⟩ = some (.string a) := by rw [← ewo]; simp
  have c2 : wo.cell? ⟨w.heap.size, 2, none⟩ = some (.string b) := by rw [← ewo]; simp
  have c3 : wo.cell? ⟨w.heap.size, 3, none⟩ = some (.slice ao L.length cap) := by rw [← ewo]; simp
  have c4 : wo.cell? ⟨w.heap.size, 4, none⟩ = some (.int .i64 m) := by rw [← ewo]; simp
  have CC := hid (OrdersR.walk a b wo (by unfold maxLen; omega) (by unfold maxLen; omega))
  clear h
  go_enter Tryz.func8, Tryz.ntmps8
  go_wp2_with fail
  refine CC.out.mono ?_
  rintro e w1 ⟨rfl, b1⟩
  have H1 := hid (H.out.up b1)
  clear b1 CC H ewo bo
  go_wp2
  go_ret
  exact ⟨rfl, n, by omega, H1.out⟩

set_option maxHeartbeats 4000000 in
set_option maxRecDepth 100000 in
theorem once_order5 (w0 : World) (K n : Nat) (a b : ByteArray) (L : List ByteArray) (m : Int) (ao : Option Addr) (cap : Nat) (mark : Nat) (w : World) (h : PB w0 K n w) (ha : a.size ≤ 30000) (hb : b.size ≤ 30000) :
    Calls Tryz.prog 8 #[.pointer (some ⟨K, 0, none⟩), .agg #[.int .i64 5, .string a, .string b, .slice ao L.length cap, .int .i64 m], .int .i64 mark] w fun e w' => e = .returned (.bool true) ∧ ∃ n', n' ≤ n + 1 ∧ PB w0 K n' w' := by
  obtain ⟨wo, ewo⟩ : ∃ wo, w.alloc (.cells #[.int .i64 5, .string a, .string b, .slice ao L.length cap, .int .i64 m] 29) = wo := ⟨_, rfl⟩
  have bo : Below w.heap.size w wo := by rw [← ewo]; exact (Below.refl _ _).alloc (Nat.le_refl _) _
  have H := hid (h.up bo)
  have c0 : wo.cell? ⟨w.heap.size, 0, none⟩ = some (.int .i64 5) := by rw [← ewo]; simp
  have c1 : wo.cell? ⟨w.heap.size, 1, none⟩ = some (.string a) := by rw [← ewo]; simp
  have c2 : wo.cell? ⟨w.heap.size, 2, none⟩ = some (.string b) := by rw [← ewo]; simp
  have c3 : wo.cell? ⟨w.heap.size, 3, none⟩ = some (.slice ao L.length cap) := by rw [← ewo]; simp
  have c4 : wo.cell? ⟨w.heap.size, 4, none⟩ = some (.int .i64 m) := by rw [← ewo]; simp
  have CC := hid (OrdersR.walk a b wo (by unfold maxLen; omega) (by unfold maxLen; omega))
  clear h
  go_enter Tryz.func8, Tryz.ntmps8
  go_wp2_with fail
  refine CC.out.mono ?_
  rintro e w1 ⟨rfl, b1⟩
  have H1 := hid (H.out.up b1)
  clear b1 CC H ewo bo
  go_wp2
  go_ret
  exact ⟨rfl, n, by omega, H1.out⟩

set_option maxHeartbeats 4000000 in
set_option maxRecDepth 100000 in
theorem once_order6 (w0 : World) (K n : Nat) (a b : ByteArray) (L : List ByteArray) (m : Int) (ao : Option Addr) (cap : Nat) (mark : Nat) (w : World) (h : PB w0 K n w) (ha : a.size ≤ 30000) (hb : b.size ≤ 30000) :
    Calls Tryz.prog 8 #[.pointer (some ⟨K, 0, none⟩), .agg #[.int .i64 6, .string a, .string b, .slice ao L.length cap, .int .i64 m], .int .i64 mark] w fun e w' => e = .returned (.bool true) ∧ ∃ n', n' ≤ n + 1 ∧ PB w0 K n' w' := by
  obtain ⟨wo, ewo⟩ : ∃ wo, w.alloc (.cells #[.int .i64 6, .string a, .string b, .slice ao L.length cap, .int .i64 m] 29) = wo := ⟨_, rfl⟩
  have bo : Below w.heap.size w wo := by rw [← ewo]; exact (Below.refl _ _).alloc (Nat.le_refl _) _
  have H := hid (h.up bo)
  have c0 : wo.cell? ⟨w.heap.size, 0, none⟩ = some (.int .i64 6) := by rw [← ewo]; simp
  have c1 : wo.cell? ⟨w.heap.size, 1, none⟩ = some (.string a) := by rw [← ewo]; simp
  have c2 : wo.cell? ⟨w.heap.size, 2, none⟩ = some (.string b) := by rw [← ewo]; simp
  have c3 : wo.cell? ⟨w.heap.size, 3, none⟩ = some (.slice ao L.length cap) := by rw [← ewo]; simp
  have c4 : wo.cell? ⟨w.heap.size, 4, none⟩ = some (.int .i64 m) := by rw [← ewo]; simp
  have CC := hid (OrdersR.walk a b wo (by unfold maxLen; omega) (by unfold maxLen; omega))
  clear h
  go_enter Tryz.func8, Tryz.ntmps8
  go_wp2_with fail
  refine CC.out.mono ?_
  rintro e w1 ⟨rfl, b1⟩
  have H1 := hid (H.out.up b1)
  clear b1 CC H ewo bo
  go_wp2
  go_ret
  exact ⟨rfl, n, by omega, H1.out⟩

set_option maxHeartbeats 4000000 in
set_option maxRecDepth 100000 in
theorem once_match (w0 : World) (K n : Nat) (a b : ByteArray) (L : List ByteArray) (m : Int) (ao : Option Addr) (cap : Nat) (mark : Nat) (w : World) (h : PB w0 K n w) (ha : a.size ≤ 30000) (hb : b.size ≤ 30000) :
    Calls Tryz.prog 8 #[.pointer (some ⟨K, 0, none⟩), .agg #[.int .i64 8, .string a, .string b, .slice ao L.length cap, .int .i64 m], .int .i64 mark] w fun e w' => e = .returned (.bool true) ∧ ∃ n', n' ≤ n + 1 ∧ PB w0 K n' w' := by
  obtain ⟨wo, ewo⟩ : ∃ wo, w.alloc (.cells #[.int .i64 8, .string a, .string b, .slice ao L.length cap, .int .i64 m] 29) = wo := ⟨_, rfl⟩
  have bo : Below w.heap.size w wo := by rw [← ewo]; exact (Below.refl _ _).alloc (Nat.le_refl _) _
  have H := hid (h.up bo)
  have c0 : wo.cell? ⟨w.heap.size, 0, none⟩ = some (.int .i64 8) := by rw [← ewo]; simp
  have c1 : wo.cell? ⟨w.heap.size, 1, none⟩ = some (.string a) := by rw [← ewo]; simp
  have c2 : wo.cell? ⟨w.heap.size, 2, none⟩ = some (.string b) := by rw [← ewo]; simp
  have c3 : wo.cell? ⟨w.heap.size, 3, none⟩ = some (.slice ao L.length cap) := by rw [← ewo]; simp
  have c4 : wo.cell? ⟨w.heap.size, 4, none⟩ = some (.int .i64 m) := by rw [← ewo]; simp
  have CC := hid (MatchesR.walk a b wo (by unfold maxLen; omega) (by unfold maxLen; omega))
  clear h
  go_enter Tryz.func8, Tryz.ntmps8
  go_wp2_with fail
  refine CC.out.mono ?_
  rintro e w1 ⟨rfl, b1⟩
  have H1 := hid (H.out.up b1)
  clear b1 CC H ewo bo
  go_wp2
  go_ret
  exact ⟨rfl, n, by omega, H1.out⟩

set_option maxHeartbeats 4000000 in
set_option maxRecDepth 100000 in
theorem once_join (w0 : World) (K n : Nat) (a b : ByteArray) (L : List ByteArray) (m : Int) (ao : Option Addr) (cap : Nat) (mark : Nat) (w : World) (h : PB w0 K n w) (_ha : a.size ≤ 30000) (hl : wsum L ≤ 30000) (hv : HasT w0 (.slice ao L.length cap) L) (htb : Tb w0.heap.size w0) (_hm : mark ≤ 100000000) (_hn : n ≤ 100000) :
    Calls Tryz.prog 8 #[.pointer (some ⟨K, 0, none⟩), .agg #[.int .i64 3, .string a, .string b, .slice ao L.length cap, .int .i64 m], .int .i64 mark] w fun e w' => e = .returned (.bool true) ∧ ∃ n', n' ≤ n + 1 ∧ PB w0 K n' w' := by
  obtain ⟨wo, ewo⟩ : ∃ wo, w.alloc (.cells #[.int .i64 3, .string a, .string b, .slice ao L.length cap, .int .i64 m] 29) = wo := ⟨_, rfl⟩
  have bo : Below w.heap.size w wo := by rw [← ewo]; exact (Below.refl _ _).alloc (Nat.le_refl _) _
  have H := hid (h.up bo)
  have c0 : wo.cell? ⟨w.heap.size, 0, none⟩ = some (.int .i64 3) := by rw [← ewo]; simp
  have c1 : wo.cell? ⟨w.heap.size, 1, none⟩ = some (.string a) := by rw [← ewo]; simp
  have c2 : wo.cell? ⟨w.heap.size, 2, none⟩ = some (.string b) := by rw [← ewo]; simp
  have c3 : wo.cell? ⟨w.heap.size, 3, none⟩ = some (.slice ao L.length cap) := by rw [← ewo]; simp
  have c4 : wo.cell? ⟨w.heap.size, 4, none⟩ = some (.int .i64 m) := by rw [← ewo]; simp
  obtain ⟨f1, f2, f3⟩ := wsum_facts (L := L)
  have HV := hid (hv.below h.bel)
  have HVo := hid (HV.out.below bo)
  have HTB := hid htb
  have HSZ : Hid (∀ s ∈ L, s.size ≤ 1048576) := fun s hs => by have := f3 s hs; omega
  clear f3 hv htb
  obtain ⟨z, hz⟩ : ∃ z, ofB (joinL (L.map tl)) = z := ⟨_, rfl⟩
  have C17 : Hid (∀ W, Below wo.heap.size wo W → Calls Tryz.prog 17 #[.slice ao L.length cap] W fun e w' => e = .returned (.string z) ∧ Below wo.heap.size wo w') := fun W hW => by
    refine (join_any _ L W (HVo.out.below hW) (by omega) (by omega)).mono ?_
    rintro e w' ⟨rfl, hb⟩
    exact ⟨by rw [hz], Below.up hW hb⟩
  have C18 : Hid (∀ W, Below wo.heap.size wo W → Calls Tryz.prog 18 #[.slice ao L.length cap] W fun e w' => e = .returned (.string z) ∧ w' = W) := fun W hW => by
    have := refJoin_any _ L W (HVo.out.below hW) (by omega) (by omega)
    rw [← hz]; exact this
  have hzz : (z.toList == z.toList) = true := by simp
  clear hz
  clear h
  go_enter Tryz.func8, Tryz.ntmps8
  have BD : Hid (Below wo.heap.size wo wo.drew) := ⟨rfl, rfl, rfl, Nat.le_refl _, fun _ _ => rfl⟩
  go_wp2_with fail
  go_region_held3 (fun w' => w'.cell? ⟨w.heap.size, 3, none⟩ = some (.slice ao L.length cap)) (first | go_keep | assumption)
    (first
    | (go_at_call 17
       refine (C17.out _ BD.out).mono ?_
       rintro e w1 ⟨rfl, b1⟩
       have B1 := hid b1
       have d3 : w1.cell? ⟨w.heap.size, 3, none⟩ = some (.slice ao L.length cap) := bcell b1 c3
       clear b1)
    | (go_at_call 18
       refine (C18.out _ B1.out).mono ?_
       rintro e w2 ⟨rfl, e2⟩
       have e2' := e2.symm
       clear e2
       subst e2'))
  all_goals
    have H1 := hid (H.out.up B1.out)
    clear C17 C18 H ewo bo c0 c1 c2 c3 c4 B1 BD d3
    go_wp2
    go_ret
    exact ⟨rfl, n, by omega, H1.out⟩
set_option maxHeartbeats 4000000 in
set_option maxRecDepth 100000 in
theorem once_split (w0 : World) (K n : Nat) (a b : ByteArray) (L : List ByteArray) (m : Int) (ao : Option Addr) (cap : Nat) (mark : Nat) (w : World) (h : PB w0 K n w) (ha : a.size ≤ 30000) (hl : wsum L ≤ 30000) (hv : HasT w0 (.slice ao L.length cap) L) (htb : Tb w0.heap.size w0) (hm : mark ≤ 100000000) (hn : n ≤ 100000) :
    Calls Tryz.prog 8 #[.pointer (some ⟨K, 0, none⟩), .agg #[.int .i64 2, .string a, .string b, .slice ao L.length cap, .int .i64 m], .int .i64 mark] w fun e w' => e = .returned (.bool true) ∧ ∃ n', n' ≤ n + 1 ∧ PB w0 K n' w' := by
  obtain ⟨wo, ewo⟩ : ∃ wo, w.alloc (.cells #[.int .i64 2, .string a, .string b, .slice ao L.length cap, .int .i64 m] 29) = wo := ⟨_, rfl⟩
  have bo : Below w.heap.size w wo := by rw [← ewo]; exact (Below.refl _ _).alloc (Nat.le_refl _) _
  have H := hid (h.up bo)
  have c0 : wo.cell? ⟨w.heap.size, 0, none⟩ = some (.int .i64 2) := by rw [← ewo]; simp
  have c1 : wo.cell? ⟨w.heap.size, 1, none⟩ = some (.string a) := by rw [← ewo]; simp
  have c2 : wo.cell? ⟨w.heap.size, 2, none⟩ = some (.string b) := by rw [← ewo]; simp
  have c3 : wo.cell? ⟨w.heap.size, 3, none⟩ = some (.slice ao L.length cap) := by rw [← ewo]; simp
  have c4 : wo.cell? ⟨w.heap.size, 4, none⟩ = some (.int .i64 m) := by rw [← ewo]; simp
  obtain ⟨f1, f2, f3⟩ := wsum_facts (L := L)
  have HV := hid (hv.below h.bel)
  have HVo := hid (HV.out.below bo)
  have HTB := hid htb
  have HSZ : Hid (∀ s ∈ L, s.size ≤ 1048576) := fun s hs => by have := f3 s hs; omega
  clear f3 hv htb
  have HL : Hid (∀ O : List ByteArray, O.map tl = splitL (tl a) m → O.length ≤ 30001) := fun O h => by
    have h1 : O.length = (splitL (tl a) m).length := by rw [← h, List.length_map]
    have h2 := pieces_len' (tl a)
    rw [tl_len] at h2
    rw [h1]
    unfold splitL
    split
    · omega
    · simp
  obtain ⟨E, hE⟩ : ∃ E, splitE (tl a) m = E := ⟨_, rfl⟩
  have CP := hid (split_any a m wo (by omega))
  have CR := hid (fun wz => refSplit_any a m wz (by omega))
  rw [hE] at CR CP
  clear hE
  clear h
  go_enter Tryz.func8, Tryz.ntmps8
  go_wp2_with fail
  refine CP.out.mono ?_
  rintro e w3 ⟨⟨v, O, rfl, hov, hO⟩, b3⟩
  have hol : O.length ≤ 30001 := HL.out O hO
  obtain ⟨pv, cv, rfl, _⟩ := hov.has.form
  have HOV := hid hov
  have HOO := hid hO
  have HB3 := hid b3
  have d1 : w3.cell? ⟨w.heap.size, 1, none⟩ = some (.string a) := bcell b3 c1
  have d4 : w3.cell? ⟨w.heap.size, 4, none⟩ = some (.int .i64 m) := bcell b3 c4
  clear hov hO b3 CP c0 c1 c2 c3 c4 ewo
  go_wp2_with fail
  refine (CR.out w3).mono ?_
  rintro e w4 ⟨⟨vw, Ow, rfl, hw, hOw⟩, b4⟩
  have how : Ow.length ≤ 30001 := HL.out Ow hOw
  obtain ⟨pw, cw, rfl, _⟩ := hw.has.form
  have HHW := hid hw.has
  have HOV4 : Hid (OwnsT w4 wo.heap.size (.slice pv O.length cv) O) := row_block HOV.out fun k hk => b4.block k (World.ownsRow.lt HOV.out k hk).2
  have HB4 : Hid (Below wo.heap.size wo w4) := Below.up HB3.out b4
  have HOW := hid hOw
  clear hw hOw b4 CR HOV HB3 d1 d4
  have CS : Hid (Calls Tryz.prog 15 #[.slice pv O.length cv, .slice pw Ow.length cw] w4 fun e w' => e = .returned (.bool true) ∧ Drew w4 w') := by
    refine (same_any _ _ O Ow w4 HOV4.out.has HHW.out (by omega) (by omega)).mono ?_
    rintro e w' ⟨rfl, hd⟩
    exact ⟨by rw [HOO.out, HOW.out]; simp, hd⟩
  go_wp2_with (first
    | (go_at_call 14; refine (num_any _ _).mono ?_; rintro e wy ⟨rfl, hy⟩; have hy' := hy.symm; clear hy; subst hy'))
  refine CS.out.mono ?_
  rintro e w5 ⟨rfl, d5⟩
  have CT := hid (H.out.texts HTB.out (Below.drews HB4.out d5) (row_block HOV4.out fun k _ => by rw [d5.heap]) (by omega) mark hm (by omega))
  clear d5 CS HOV4 HB4 HHW H
  go_wp2_with (go_at_call 16; refine CT.out.mono ?_; rintro e w6 ⟨rfl, h6⟩; have HS6 := hid h6; clear h6 CT)
  go_ret
  exact ⟨rfl, n + 1, by omega, HS6.out⟩
set_option maxHeartbeats 4000000 in
set_option maxRecDepth 100000 in
theorem once_sorted (w0 : World) (K n : Nat) (a b : ByteArray) (L : List ByteArray) (m : Int) (ao : Option Addr) (cap : Nat) (mark : Nat) (w : World) (h : PB w0 K n w) (_ha : a.size ≤ 30000) (hl : wsum L ≤ 30000) (hv : HasT w0 (.slice ao L.length cap) L) (htb : Tb w0.heap.size w0) (hm : mark ≤ 100000000) (hn : n ≤ 100000) :
    Calls Tryz.prog 8 #[.pointer (some ⟨K, 0, none⟩), .agg #[.int .i64 7, .string a, .string b, .slice ao L.length cap, .int .i64 m], .int .i64 mark] w fun e w' => e = .returned (.bool true) ∧ ∃ n', n' ≤ n + 1 ∧ PB w0 K n' w' := by
  obtain ⟨wo, ewo⟩ : ∃ wo, w.alloc (.cells #[.int .i64 7, .string a, .string b, .slice ao L.length cap, .int .i64 m] 29) = wo := ⟨_, rfl⟩
  have bo : Below w.heap.size w wo := by rw [← ewo]; exact (Below.refl _ _).alloc (Nat.le_refl _) _
  have H := hid (h.up bo)
  have c0 : wo.cell? ⟨w.heap.size, 0, none⟩ = some (.int .i64 7) := by rw [← ewo]; simp
  have c1 : wo.cell? ⟨w.heap.size, 1, none⟩ = some (.string a) := by rw [← ewo]; simp
  have c2 : wo.cell? ⟨w.heap.size, 2, none⟩ = some (.string b) := by rw [← ewo]; simp
  have c3 : wo.cell? ⟨w.heap.size, 3, none⟩ = some (.slice ao L.length cap) := by rw [← ewo]; simp
  have c4 : wo.cell? ⟨w.heap.size, 4, none⟩ = some (.int .i64 m) := by rw [← ewo]; simp
  obtain ⟨f1, f2, f3⟩ := wsum_facts (L := L)
  have HV := hid (hv.below h.bel)
  have HVo := hid (HV.out.below bo)
  have HTB := hid htb
  have HSZ : Hid (∀ s ∈ L, s.size ≤ 1048576) := fun s hs => by have := f3 s hs; omega
  clear f3 hv htb
  have C20 := hid (sorted_any _ L wo HVo.out (by omega) HSZ.out)
  clear h
  go_enter Tryz.func8, Tryz.ntmps8
  go_wp2_with fail
  refine C20.out.mono ?_
  rintro e w3 ⟨⟨v, O, rfl, ho, hp, hso⟩, b3⟩
  obtain ⟨pv, cv, hvf, _⟩ := ho.has.form
  have hol : O.length = L.length := hp.length_eq
  have HOL := hid hol
  rw [hol] at hvf
  subst hvf
  clear hol
  have HO := hid ho
  have HP := hid hp
  have HSO := hid hso
  have HB3 := hid b3
  have d3 : w3.cell? ⟨w.heap.size, 3, none⟩ = some (.slice ao L.length cap) := bcell b3 c3
  have C21 := hid (refSorted_any _ L w3 (HVo.out.below b3) (by omega) HSZ.out)
  clear ho hp hso b3 C20 c0 c1 c2 c3 c4 ewo
  go_wp2_with fail
  refine C21.out.mono ?_
  rintro e w4 ⟨⟨v2, O2, rfl, ho2, hp2, hso2⟩, b4⟩
  obtain rfl : O2 = O := srt_unique (hp2.trans HP.out.symm) hso2 HSO.out
  have HB4 : Hid (Below wo.heap.size wo w4) := Below.up HB3.out b4
  have HO4 : Hid (OwnsT w4 wo.heap.size (.slice pv L.length cv) O2) := row_block HO.out fun k hk => b4.block k (World.ownsRow.lt HO.out k hk).2
  have HX4 : Hid (HasT w4 v2 O2) := ho2.has
  obtain ⟨pv2, cv2, hvf2, _⟩ := ho2.has.form
  rw [HOL.out] at hvf2
  subst hvf2
  clear ho2 hp2 hso2 b4 C21 HO HB3 HP HSO d3
  have CS : Hid (Calls Tryz.prog 15 #[.slice pv L.length cv, .slice pv2 L.length cv2] w4 fun e w' => e = .returned (.bool true) ∧ Drew w4 w') := by
    have hol := HOL.out
    refine (same_any _ _ O2 O2 w4 HO4.out.has HX4.out (by omega) (by omega)).mono ?_
    rintro e w' ⟨rfl, hd⟩
    exact ⟨by simp, hd⟩
  go_wp2_with fail
  refine CS.out.mono ?_
  rintro e w5 ⟨rfl, d5⟩
  have CT := hid (H.out.texts HTB.out (Below.drews HB4.out d5) (row_block HO4.out fun k _ => by rw [d5.heap]) (by have := HOL.out; omega) mark hm (by omega))
  clear d5 CS HO4 HB4 HX4 H
  go_wp2_with (go_at_call 16; refine CT.out.mono ?_; rintro e w6 ⟨rfl, h6⟩; have HS6 := hid h6; clear h6 CT)
  go_ret
  exact ⟨rfl, n + 1, by omega, HS6.out⟩
set_option maxHeartbeats 4000000 in
set_option maxRecDepth 100000 in
theorem once_other (w0 : World) (K n : Nat) (kd : Int) (a b : ByteArray) (L : List ByteArray) (m : Int) (ao : Option Addr) (cap : Nat) (mark : Nat) (w : World) (h : PB w0 K n w) (h1 : kd ≠ 1) (h2 : kd ≠ 2) (h3 : kd ≠ 3) (h4 : kd ≠ 4) (h5 : kd ≠ 5) (h6 : kd ≠ 6) (h7 : kd ≠ 7) (h8 : kd ≠ 8) :
    Calls Tryz.prog 8 #[.pointer (some ⟨K, 0, none⟩), .agg #[.int .i64 kd, .string a, .string b, .slice ao L.length cap, .int .i64 m], .int .i64 mark] w fun e w' => e = .returned (.bool true) ∧ ∃ n', n' ≤ n + 1 ∧ PB w0 K n' w' := by
  have b1 : (kd == 1) = false := beq_false_of_ne h1
  have b2 : (kd == 2) = false := beq_false_of_ne h2
  have b3 : (kd == 3) = false := beq_false_of_ne h3
  have b4 : (kd == 4) = false := beq_false_of_ne h4
  have b5 : (kd == 5) = false := beq_false_of_ne h5
  have b6 : (kd == 6) = false := beq_false_of_ne h6
  have b7 : (kd == 7) = false := beq_false_of_ne h7
  have b8 : (kd == 8) = false := beq_false_of_ne h8
  obtain ⟨wo, ewo⟩ : ∃ wo, w.alloc (.cells #[.int .i64 kd, .string a, .string b, .slice ao L.length cap, .int .i64 m] 29) = wo := ⟨_, rfl⟩
  have bo : Below w.heap.size w wo := by rw [← ewo]; exact (Below.refl _ _).alloc (Nat.le_refl _) _
  have H := hid (h.up bo)
  have c0 : wo.cell? ⟨w.heap.size, 0, none⟩ = some (.int .i64 kd) := by rw [← ewo]; simp
  clear h bo
  go_enter Tryz.func8, Tryz.ntmps8
  go_wp2
  go_ret
  exact ⟨rfl, n, by omega, H.out⟩

/-- once. -/
theorem once_any (w0 : World) (K n : Nat) (kd : Int) (a b : ByteArray) (L : List ByteArray) (m : Int) (ao : Option Addr) (cap : Nat) (mark : Nat) (w : World) (h : PB w0 K n w) (ha : a.size ≤ 30000) (hb : b.size ≤ 30000) (hl : wsum L ≤ 30000) (hv : HasT w0 (.slice ao L.length cap) L) (htb : Tb w0.heap.size w0) (hm : mark ≤ 100000000) (hn : n ≤ 100000) :
    Calls Tryz.prog 8 #[.pointer (some ⟨K, 0, none⟩), .agg #[.int .i64 kd, .string a, .string b, .slice ao L.length cap, .int .i64 m], .int .i64 mark] w fun e w' => e = .returned (.bool true) ∧ ∃ n', n' ≤ n + 1 ∧ PB w0 K n' w' := by
  by_cases h1 : kd = 1
  · subst h1; exact once_check w0 K n a b L m ao cap mark w h ha
  by_cases h2 : kd = 2
  · subst h2; exact once_split w0 K n a b L m ao cap mark w h ha hl hv htb hm hn
  by_cases h3 : kd = 3
  · subst h3; exact once_join w0 K n a b L m ao cap mark w h ha hl hv htb hm hn
  by_cases h4 : kd = 4
  · subst h4; exact once_order4 w0 K n a b L m ao cap mark w h ha hb
  by_cases h5 : kd = 5
  · subst h5; exact once_order5 w0 K n a b L m ao cap mark w h ha hb
  by_cases h6 : kd = 6
  · subst h6; exact once_order6 w0 K n a b L m ao cap mark w h ha hb
  by_cases h7 : kd = 7
  · subst h7; exact once_sorted w0 K n a b L m ao cap mark w h ha hl hv htb hm hn
  by_cases h8 : kd = 8
  · subst h8; exact once_match w0 K n a b L m ao cap mark w h ha hb
  exact once_other w0 K n kd a b L m ao cap mark w h h1 h2 h3 h4 h5 h6 h7 h8
end Go.Proofs.YtnhnggnldhmepabGreatDoor
namespace Go.Proofs.YtnhnggnldhmepabGreatDoor
open Go.RowKit

theorem many_any (w : World) : Calls Tryz.prog 4 #[.int .i64 30000] w fun e w' => e = .returned (.pointer (some ⟨w.heap.size, 0, none⟩)) ∧ w' = w.alloc (.cells #[.int .i64 30000] 54) := by
  go_enter Tryz.func4, Tryz.ntmps4
  go_wp2
  go_ret
  exact ⟨rfl, rfl⟩

theorem ok_any (cb : Nat) (n : Int) (w : World) (hc : w.heap[cb]? = some (.cells #[.int .i64 n] 54)) : Calls Tryz.prog 5 #[.pointer (some ⟨cb, 0, none⟩)] w fun e w' => e = .returned (.bool (decide (0 ≤ n))) ∧ w' = w := by
  have c0 : w.cell? ⟨cb, 0, none⟩ = some (.int .i64 n) := by simp [World.cell?, hc]
  go_enter Tryz.func5, Tryz.ntmps5
  go_wp2
  go_ret
  exact ⟨rfl, rfl⟩

theorem textC_any (s : ByteArray) (n : Int) (cb B : Nat) (w : World) (hB : B ≤ cb) (hc : w.heap[cb]? = some (.cells #[.int .i64 n] 54)) (hn : n ≤ 30000) (hs : s.size ≤ 9223372036854775807) :
    Calls Tryz.prog 6 #[.pointer (some ⟨cb, 0, none⟩), .string s] w fun e w' => e = .returned (.tuple #[]) ∧ (∃ m : Int, w'.heap[cb]? = some (.cells #[.int .i64 m] 54) ∧ m ≤ 30000 ∧ (0 ≤ m → 0 ≤ n ∧ m = n - 1 - s.size)) ∧ Below B w w' := by
  by_cases h0 : 0 ≤ n
  · refine (text60_any s n cb B w hB hc ⟨h0, hn⟩ hs).mono ?_
    rintro e w' ⟨rfl, ⟨m, d1, d2, d3, _⟩, b⟩
    exact ⟨rfl, ⟨m, d1, d2, fun q => ⟨h0, d3 q⟩⟩, b⟩
  · have c0 : w.cell? ⟨cb, 0, none⟩ = some (.int .i64 n) := by simp [World.cell?, hc]
    have h1 : ¬ (0 ≤ n) := h0
    go_enter Tryz.func6, Tryz.ntmps6
    go_wp2
    go_end0
    exact ⟨rfl, ⟨n, hc, hn, fun q => by omega⟩, Below.refl _ _⟩

set_option maxHeartbeats 1000000 in
set_option maxRecDepth 100000 in
theorem textsC_any (v : Value) (L : List ByteArray) (n : Int) (cb : Nat) (w0 w : World) (hv : HasT w0 v L) (hL : ∀ s ∈ L, s.size ≤ 9223372036854775807) (hLl : L.length ≤ 9223372036854775807) (hw : Below w0.heap.size w0 w) (hB : w0.heap.size ≤ cb) (hc : w.heap[cb]? = some (.cells #[.int .i64 n] 54)) (hn : n ≤ 30000) :
    Calls Tryz.prog 7 #[.pointer (some ⟨cb, 0, none⟩), v] w fun e w' => e = .returned (.tuple #[]) ∧ (∃ m : Int, w'.heap[cb]? = some (.cells #[.int .i64 m] 54) ∧ m ≤ 30000 ∧ (0 ≤ m → 0 ≤ n ∧ (wsum L : Int) + m = n)) ∧ Below w0.heap.size w0 w' := by
  have HV : Hid (HasT w0 v L) := hv
  have HLs : Hid (∀ s ∈ L, s.size ≤ 9223372036854775807) := hL
  obtain ⟨ao, cap, rfl, _⟩ := hv.form
  clear hv hL
  go_enter Tryz.func7, Tryz.ntmps7
  go_wp2
  go_loopw [4] (fun i wr => ∃ (k : Nat) (m : Int), i = .int .i64 k ∧ k ≤ L.length ∧ wr.heap[cb]? = some (.cells #[.int .i64 m] 54) ∧ m ≤ 30000 ∧ Hid (0 ≤ m → 0 ≤ n ∧ (wsum (L.take k) : Int) + m = n) ∧ Hid (Below w0.heap.size w0 wr)) (fun i _ => L.length - iOf i)
  case atStart => exact ⟨0, n, rfl, Nat.zero_le _, hc, hn, fun q => ⟨q, by simp [wsum]⟩, hw⟩
  case round =>
    obtain ⟨k, m, rfl, hk, hcr, hm, HM, HB⟩ := hrel
    have c0 : wr.cell? ⟨cb, 0, none⟩ = some (.int .i64 m) := by simp [World.cell?, hcr]
    by_cases hlt : k < L.length
    · have i1 : (k : Int) < (L.length : Int) := by omega
      by_cases h0 : 0 ≤ m
      · obtain ⟨x, hx⟩ : ∃ x, L[k]? = some x := ⟨_, List.getElem?_eq_getElem hlt⟩
        have hxs := HLs.out x (List.mem_of_getElem? hx)
        have C := text60_any x m cb w0.heap.size wr hB hcr ⟨h0, hm⟩ hxs
        obtain ⟨a0, _, hva, hca⟩ := (HV.out.below HB.out).at hx
        simp at hva
        obtain ⟨rfl, rfl⟩ := hva
        have hws := wsum_take hx
        go_wp2_with (first
          | (go_at_call 6; refine C.mono ?_; rintro e w1 ⟨rfl, ⟨m1, d1, d2, d3, d4⟩, b1⟩)
          | go_in)
        have HB2 : Hid (Below w0.heap.size w0 w1) := HB.out.trans b1
        have HM2 : Hid (0 ≤ m1 → 0 ≤ n ∧ (wsum (L.take (k + 1)) : Int) + m1 = n) := by
          intro q
          have := d3 q
          have := HM.out h0
          rw [hws]; omega
        go_roundw
        case rel => exact ⟨k + 1, m1, by go_num, by omega, d1, d2, HM2, HB2⟩
        case measure => simp; omega
      · have hneg : ¬ (0 ≤ m) := h0
        go_wp2
        go_end0
        exact ⟨rfl, ⟨m, hcr, hm, fun q => by omega⟩, HB.out⟩
    · have i1 : ¬ ((k : Int) < (L.length : Int)) := by omega
      go_wp2
      go_end0
      refine ⟨rfl, ⟨m, hcr, hm, fun q => ?_⟩, HB.out⟩
      have := HM.out q
      rw [List.take_of_length_le (by omega)] at this
      omega

/-- One call of the script. -/
structure OpP where
  kind : Int
  a : ByteArray
  b : ByteArray
  lv : Value
  l : List ByteArray
  n : Int

def opCellsP (x : OpP) : Array Value := #[.int .i64 x.kind, .string x.a, .string x.b, x.lv, .int .i64 x.n]
structure OpP.ok (w : World) (x : OpP) : Prop where
  l : HasT w x.lv x.l
  a : x.a.size ≤ 9223372036854775807
  b : x.b.size ≤ 9223372036854775807
  s : ∀ s ∈ x.l, s.size ≤ 9223372036854775807
  n : x.l.length ≤ 9223372036854775807

/-- A slice's value holds these calls. -/
def HasP (w : World) (v : Value) (l : List OpP) : Prop :=
  ∃ ao cap, v = .slice ao l.length cap ∧ ∀ (i : Nat) (x : OpP), l[i]? = some x → x.ok w ∧ ∃ g o, ao = some ⟨g, o, none⟩ ∧ ∀ j y, (opCellsP x)[j]? = some y → w.cell? ⟨g, o + i * 5 + j, none⟩ = some y
end Go.Proofs.YtnhnggnldhmepabGreatDoor
namespace Go.Proofs.YtnhnggnldhmepabGreatDoor
open Go.RowKit Bk

set_option maxHeartbeats 8000000 in
set_option maxRecDepth 100000 in
theorem plays_walk (vs : Value) (L : List OpP) (w : World) (hops : HasP w vs L) (hL : L.length ≤ 60) (htb : Tb w.heap.size w) :
    Calls Tryz.prog 3 #[vs] w fun e w' => e = .returned (.bool true) ∧ Below w.heap.size w w' := by
  obtain ⟨so, sc, rfl, hop⟩ := hops
  have HOP := hid hop
  have HTB := hid htb
  clear hop htb
  obtain ⟨cb, hcb⟩ : ∃ cb, w.heap.size = cb := ⟨_, rfl⟩
  obtain ⟨wc, ewc⟩ : ∃ wc, w.alloc (.cells #[.int .i64 30000] 54) = wc := ⟨_, rfl⟩
  have bwc : Below w.heap.size w wc := by rw [← ewc]; exact (Below.refl _ _).alloc (Nat.le_refl _) _
  have hcc : wc.heap[cb]? = some (.cells #[.int .i64 30000] 54) := by rw [← ewc, ← hcb]; exact heap_alloc_new _ _
  have CM := hid (many_any w)
  rw [hcb, ewc] at CM
  have HBC := hid bwc
  have HCC := hid hcc
  clear bwc hcc ewc
  go_enter Tryz.func3, Tryz.ntmps3
  go_wp2_with fail
  refine CM.out.mono ?_
  rintro e wz ⟨rfl, ez⟩
  have ez' := ez.symm
  clear ez
  subst ez'
  clear CM
  go_wp2
  go_loopw [4] (fun i wi => ∃ (j : Nat) (m : Int), j ≤ L.length ∧ i = .int .i64 j ∧ Hid (wi.heap[cb]? = some (.cells #[.int .i64 m] 54) ∧ m ≤ 30000 ∧ (0 ≤ m → ∀ t x, t < j → L[t]? = some x → x.a.size ≤ 30000 ∧ x.b.size ≤ 30000 ∧ wsum x.l ≤ 30000) ∧ Below w.heap.size w wi)) (fun i _ => L.length - (intOf i).toNat)
  case atStart => exact ⟨0, 30000, Nat.zero_le _, rfl, HCC.out, by omega, fun _ t x ht => by omega, HBC.out⟩
  case round =>
    clear HCC HBC
    obtain ⟨j, m, hj, rfl, HJ⟩ := hrel
    obtain ⟨h1, h2, h3, h4⟩ := HJ.out
    have H1 := hid h1
    have H3 := hid h3
    have H4 := hid h4
    have c0 : wr.cell? ⟨cb, 0, none⟩ = some (.int .i64 m) := by simp [World.cell?, h1]
    have CO := hid (fun wz (hz : wz.heap = wr.heap) => ok_any cb m wz (by rw [hz]; exact H1.out))
    clear h1 h3 h4 HJ
    by_cases hjl : j < L.length
    · have i1 : (j : Int) < (L.length : Int) := by omega
      by_cases h0 : 0 ≤ m
      · have e0 : decide (0 ≤ m) = true := decide_eq_true h0
        rw [e0] at CO
        obtain ⟨x, hx⟩ : ∃ x, L[j]? = some x := ⟨_, List.getElem?_eq_getElem hjl⟩
        obtain ⟨ok, g, o, rfl, hcs⟩ := HOP.out j x hx
        have OK := hid ok
        have HX := hid hx
        have HC := hid hcs
        have d1 : wr.cell? ⟨g, o + j * 5 + 1, none⟩ = some (.string x.a) := bcell H4.out (hcs 1 _ rfl)
        clear ok hx hcs e0 c0
        go_wp2_with fail
        refine (CO.out wr rfl).mono ?_
        rintro e wz ⟨rfl, ez⟩
        have ez' := ez.symm
        clear ez
        subst ez'
        clear CO
        have C1 := hid (textC_any x.a m cb w.heap.size wr (by omega) H1.out h2 OK.out.a)
        go_wp2_with fail
        refine C1.out.mono ?_
        rintro e w1 ⟨rfl, ⟨m1, p1, p2, p3⟩, q1⟩
        have P1 := hid p1
        have P3 := hid p3
        have B1 := hid (H4.out.trans q1)
        have d2 : w1.cell? ⟨g, o + j * 5 + 2, none⟩ = some (.string x.b) := bcell B1.out (HC.out 2 _ rfl)
        clear p1 p3 q1 C1 d1 H1 H4
        have C2 := hid (textC_any x.b m1 cb w.heap.size w1 (by omega) P1.out p2 OK.out.b)
        go_wp2_with fail
        refine C2.out.mono ?_
        rintro e w2 ⟨rfl, ⟨m2, p4, p5, p6⟩, q2⟩
        have P4 := hid p4
        have P6 := hid p6
        have B2 := hid (B1.out.trans q2)
        have d3 : w2.cell? ⟨g, o + j * 5 + 3, none⟩ = some x.lv := bcell B2.out (HC.out 3 _ rfl)
        clear p4 p6 q2 C2 d2 P1 B1
        have C3 := hid (textsC_any x.lv x.l m2 cb w w2 OK.out.l OK.out.s OK.out.n B2.out (by omega) P4.out p5)
        obtain ⟨al, cl, hlv, _⟩ := OK.out.l.form
        rw [hlv] at d3 C3
        go_wp2_with fail
        refine C3.out.mono ?_
        rintro e w3 ⟨rfl, ⟨m3, p7, p8, p9⟩, q3⟩
        have FIN : Hid (w3.heap[cb]? = some (.cells #[.int .i64 m3] 54) ∧ m3 ≤ 30000 ∧ (0 ≤ m3 → ∀ t y, t < j + 1 → L[t]? = some y → y.a.size ≤ 30000 ∧ y.b.size ≤ 30000 ∧ wsum y.l ≤ 30000) ∧ Below w.heap.size w w3) := by
          refine ⟨p7, p8, fun q t y ht hy => ?_, q3⟩
          obtain ⟨r1, r2⟩ := p9 q
          obtain ⟨r3, r4⟩ := P6.out r1
          obtain ⟨r5, r6⟩ := P3.out r3
          by_cases e : t = j
          · subst e
            have e2 := HX.out
            rw [hy] at e2
            obtain rfl := Option.some.inj e2
            refine ⟨by omega, by omega, by omega⟩
          · exact H3.out h0 t y (by omega) hy
        clear p7 p9 q3 C3 d3 P4 P6 P3 B2 H3
        go_wp2
        exact ⟨⟨j + 1, m3, by omega, by go_num, FIN.out⟩, by simp [intOf]; omega⟩
      · have e0 : decide (0 ≤ m) = false := decide_eq_false h0
        rw [e0] at CO
        clear c0
        go_wp2_with fail
        refine (CO.out wr rfl).mono ?_
        rintro e wz ⟨rfl, ez⟩
        have ez' := ez.symm
        clear ez
        subst ez'
        go_wp2_with fail
        refine (CO.out wr rfl).mono ?_
        rintro e wy ⟨rfl, ey⟩
        have ey' := ey.symm
        clear ey
        subst ey'
        clear CO
        go_wp2
        go_ret
        exact ⟨rfl, H4.out⟩
    · obtain rfl : j = L.length := by omega
      clear c0
      by_cases h0 : 0 ≤ m
      · have e0 : decide (0 ≤ m) = true := decide_eq_true h0
        rw [e0] at CO
        have HALL := hid (H3.out h0)
        clear H3 e0
        go_wp2_with fail
        refine (CO.out wr rfl).mono ?_
        rintro e wy ⟨rfl, ey⟩
        have ey' := ey.symm
        clear ey
        subst ey'
        clear CO H1
        go_upto_region 13 with (refine wpList_book rfl rfl rfl _ rfl rfl ?_)
        have hsz := H4.out.size
        obtain ⟨K, hK⟩ : ∃ K, wr.heap.size = K := ⟨_, rfl⟩
        obtain ⟨wb, ewb⟩ : ∃ wb, wr.alloc bookObj = wb := ⟨_, rfl⟩
        have HB : Hid (PB w K 0 wb) := by
          refine ⟨fun b => b = K, ?_, ?_⟩
          · have := book_new wr w.heap.size hsz
            rw [ewb, hK] at this
            exact this
          · rw [← ewb]; exact H4.out.alloc hsz _
        rw [ewb, hK]
        clear ewb hK hsz H4
        go_wp2
        go_loopw [6] (fun i wi => ∃ (r : Nat), r ≤ 3 ∧ i = .int .i64 r ∧ Hid (∃ n, n ≤ r * 60 ∧ PB w K n wi)) (fun i _ => 3 - (intOf i).toNat)
        case atStart => exact ⟨0, by omega, rfl, 0, by omega, HB.out⟩
        case round =>
          clear HB
          obtain ⟨r, hr, rfl, HR⟩ := hrel
          by_cases hr3 : r < 3
          · have i2 : (r : Int) < 3 := by omega
            go_wp2
            go_loopw [7] (fun i wi => ∃ (t : Nat), t ≤ L.length ∧ i = .int .i64 t ∧ Hid (∃ n, n ≤ r * 60 + t ∧ PB w K n wi)) (fun i _ => L.length - (intOf i).toNat)
            case atStart =>
              obtain ⟨n, hn, hp⟩ := HR.out
              exact ⟨0, Nat.zero_le _, rfl, n, by omega, hp⟩
            case round =>
              clear HR
              obtain ⟨t, ht, rfl, HT⟩ := hrel
              obtain ⟨n, hn, hp⟩ := HT.out
              have HP := hid hp
              clear hp HT
              by_cases htl : t < L.length
              · obtain ⟨x, hx⟩ : ∃ x, L[t]? = some x := ⟨_, List.getElem?_eq_getElem htl⟩
                obtain ⟨ok, g, o, rfl, hcs⟩ := HOP.out t x hx
                obtain ⟨s1, s2, s3⟩ := HALL.out t x htl hx
                obtain ⟨al, cl, hlv, _⟩ := ok.l.form
                have d0 : wr.cell? ⟨g, o + t * 5, none⟩ = some (.int .i64 x.kind) := bcell HP.out.bel (hcs 0 _ rfl)
                have d1 : wr.cell? ⟨g, o + t * 5 + 1, none⟩ = some (.string x.a) := bcell HP.out.bel (hcs 1 _ rfl)
                have d2 : wr.cell? ⟨g, o + t * 5 + 2, none⟩ = some (.string x.b) := bcell HP.out.bel (hcs 2 _ rfl)
                have d3 : wr.cell? ⟨g, o + t * 5 + 3, none⟩ = some (.slice al x.l.length cl) := by rw [← hlv]; exact bcell HP.out.bel (hcs 3 _ rfl)
                have d4 : wr.cell? ⟨g, o + t * 5 + 4, none⟩ = some (.int .i64 x.n) := bcell HP.out.bel (hcs 4 _ rfl)
                have hl := ok.l
                rw [hlv] at hl
                have CO : Hid (∀ wz, Below wr.heap.size wr wz → Calls Tryz.prog 8 #[.pointer (some ⟨K, 0, none⟩), .agg #[.int .i64 x.kind, .string x.a, .string x.b, .slice al x.l.length cl, .int .i64 x.n], .int .i64 (1000 * (r : Int) + 10 * (t : Int))] wz fun e w' => e = .returned (.bool true) ∧ ∃ n', n' ≤ n + 1 ∧ PB w K n' w') := fun wz hz => by
                  have h := once_any w K n x.kind x.a x.b x.l x.n al cl (1000 * r + 10 * t) wz (HP.out.up hz) s1 s2 s3 hl HTB.out (by omega) (by omega)
                  push_cast at h
                  exact h
                clear ok hx hcs hl s1 s2 s3 hlv
                go_wp2_with fail
                refine (CO.out wr (Below.refl _ _)).mono ?_
                rintro e w1 ⟨rfl, n', hn', hp'⟩
                have HP' := hid hp'
                have CH := hid (hp'.hold (by omega))
                clear hp' CO d0 d1 d2 d3 d4 HP
                go_wp2_with fail
                refine CH.out.mono ?_
                rintro e w2 ⟨rfl, hp2⟩
                have HP2 := hid hp2
                clear hp2 CH HP'
                go_wp2
                exact ⟨⟨t + 1, by omega, by go_num, n', by omega, HP2.out⟩, by simp [intOf]; omega⟩
              · obtain rfl : t = L.length := by omega
                go_wp2
                exact ⟨⟨r + 1, by omega, by go_num, n, by omega, HP.out⟩, by simp [intOf]; omega⟩
          · obtain rfl : r = 3 := by omega
            obtain ⟨n, hn, hp⟩ := HR.out
            have HP := hid hp
            clear hp HR
            go_wp2
            go_ret
            exact ⟨rfl, HP.out.bel⟩
      · have e0 : decide (0 ≤ m) = false := decide_eq_false h0
        rw [e0] at CO
        go_wp2_with fail
        refine (CO.out wr rfl).mono ?_
        rintro e wy ⟨rfl, ey⟩
        have ey' := ey.symm
        clear ey
        subst ey'
        clear CO
        go_wp2
        go_ret
        exact ⟨rfl, H4.out⟩
end Go.Proofs.YtnhnggnldhmepabGreatDoor
