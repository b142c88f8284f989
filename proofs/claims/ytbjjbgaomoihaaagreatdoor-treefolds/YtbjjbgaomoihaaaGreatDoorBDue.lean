import Derived.Test.YtbjjbgaomoihaaaGreatDoorBMarks
set_option maxRecDepth 100000
set_option maxHeartbeats 1600000
namespace Go.Proofs.YtbjjbgaomoihaaaGreatDoor
open Go.RowKit
theorem Tryz.info9 : (Tryz.prog.info? 9).map (fun i => (i.zero, i.size, i.bytes)) = some (some (.string ⟨#[]⟩), 1, 16) := by kernel_rfl
def HasT (w : World) (v : Value) (L : List ByteArray) : Prop :=
  (v = .slice none 0 0 ∧ L = []) ∨ ∃ a cap, v = .slice (some a) L.length cap ∧ L.length ≤ cap ∧ ∀ i s, L[i]? = some s → w.cell? (a.add i) = some (.string s)
def OwnsT (w : World) (lo : Nat) (v : Value) (L : List ByteArray) : Prop := w.ownsRow lo 9 1 v L.length (L.map Value.string)
theorem OwnsT.has {w : World} {lo : Nat} {v : Value} {l : List ByteArray} (h : OwnsT w lo v l) : HasT w v l := by
  have h0 := h
  obtain ⟨_, h | ⟨g, cap, cur, hv, hg, hh, hn, hm, hs, ht⟩⟩ := h
  · obtain ⟨rfl, hl⟩ := h
    exact .inl ⟨rfl, List.length_eq_zero_iff.1 hl⟩
  · subst hv
    refine .inr ⟨_, cap, rfl, hn, fun i s hi => ?_⟩
    have := World.ownsRow.cells h0 (g := g) rfl i (.string s) (by simp [hi])
    exact this
theorem OwnsT.nil (w : World) (lo : Nat) : OwnsT w lo (.slice none 0 0) [] := World.ownsRow_nil _ _ _ _
theorem OwnsT.lt {w : World} {lo : Nat} {v : Value} {l : List ByteArray} (h : OwnsT w lo v l) : ∀ k, v.ownBlock = some k → lo ≤ k ∧ k < w.heap.size := World.ownsRow.lt h
theorem OwnsT.mono {w : World} {lo lo' : Nat} {v : Value} {l : List ByteArray} (h : OwnsT w lo v l) (hl : lo' ≤ lo) : OwnsT w lo' v l := by
  obtain ⟨h1, h | ⟨g, cap, cur, hv, hg, hr⟩⟩ := h
  · exact ⟨h1, .inl h⟩
  · exact ⟨h1, .inr ⟨g, cap, cur, hv, Nat.le_trans hl hg, hr⟩⟩
theorem HasT.block {w w' : World} {v : Value} {l : List ByteArray} (h : HasT w v l) (hb : ∀ a : Addr, a.block < w.heap.size → w'.cell? a = w.cell? a) : HasT w' v l := by
  rcases h with h | ⟨a, cap, hv, hc, h⟩
  · exact .inl h
  · refine .inr ⟨a, cap, hv, hc, fun i s hi => ?_⟩
    have h1 := h i s hi
    rw [hb _ (World.block_lt_of_cell? w _ h1)]
    exact h1
theorem HasT.below {w w' : World} {v : Value} {l : List ByteArray} (h : HasT w v l) (hb : Below w.heap.size w w') : HasT w' v l :=
  h.block fun _ ha => hb.cell ha
theorem HasT.drew {w w' : World} {v : Value} {l : List ByteArray} (h : HasT w v l) (hb : Drew w w') : HasT w' v l := h.below hb.below
theorem Below.up {w w1 w2 : World} (h : Below w.heap.size w w1) (k : Below w1.heap.size w1 w2) : Below w.heap.size w w2 := h.trans (k.mono h.size)
theorem HasT.form {w : World} {v : Value} {l : List ByteArray} (h : HasT w v l) : ∃ ao cap, v = .slice ao l.length cap ∧ l.length ≤ cap := by
  rcases h with ⟨rfl, rfl⟩ | ⟨a, cap, rfl, hc, _⟩
  · exact ⟨none, 0, rfl, Nat.le_refl _⟩
  · exact ⟨some a, cap, rfl, hc⟩
theorem HasT.at {w : World} {v : Value} {l : List ByteArray} (h : HasT w v l) {k : Nat} {s : ByteArray} (hk : l[k]? = some s) : ∃ a cap, v = .slice (some a) l.length cap ∧ w.cell? (a.add k) = some (.string s) := by
  rcases h with ⟨_, rfl⟩ | ⟨a, cap, rfl, _, hc⟩
  · simp at hk
  · exact ⟨a, cap, rfl, hc k s hk⟩
theorem one_new {w : World} {x : Value} {T : TypeId} : ∀ (j : Nat) (u : Value), [x][j]? = some u → (w.alloc (Obj.cells #[x] T)).cell? ((⟨w.heap.size, 0, none⟩ : Addr).add j) = some u := by
  intro j u hj
  match j, hj with
  | 0, hj => simp at hj; subst hj; simp [Addr.add]
end Go.Proofs.YtbjjbgaomoihaaaGreatDoor
namespace Go.Proofs.YtbjjbgaomoihaaaGreatDoor.Bk
open Go.RowKit
theorem sameTexts_eq (va vb : Value) (A : List ByteArray) (w : World) (ha : HasT w va A) (hb : HasT w vb A) (hal : A.length ≤ 1048576) :
    Calls Tryz.prog 73 #[va, vb] w fun e w' => e = .returned (.bool true) ∧ w' = w := by
  have HA : Hid (HasT w va A) := ha
  have HB : Hid (HasT w vb A) := hb
  obtain ⟨ao, ca, rfl, _⟩ := ha.form
  obtain ⟨bo, cb, rfl, _⟩ := hb.form
  clear ha hb
  have hlb : ((A.length : Int) != (A.length : Int)) = false := by simp
  go_enter Tryz.func73, Tryz.ntmps73
  go_wp2
  go_loopw [5] (fun i wr => ∃ k : Nat, wr = w ∧ k ≤ A.length ∧ i = .int .i64 k) (fun i _ => A.length - iOf i)
  case atStart => exact ⟨0, rfl, Nat.zero_le _, rfl⟩
  case round =>
    obtain ⟨k, rfl, hk, rfl⟩ := hrel
    by_cases hlt : k < A.length
    · have i1 : (k : Int) < (A.length : Int) := by omega
      obtain ⟨x, hx⟩ : ∃ x, A[k]? = some x := ⟨_, List.getElem?_eq_getElem hlt⟩
      obtain ⟨a0, _, hva, hca⟩ := HA.out.at hx
      obtain ⟨b0, _, hvb, hcb⟩ := HB.out.at hx
      simp at hva hvb
      obtain ⟨rfl, rfl⟩ := hva
      obtain ⟨rfl, rfl⟩ := hvb
      have hq : (x.toList != x.toList) = false := by simp
      clear hx
      go_wp2
      go_roundw
      case rel => exact ⟨k + 1, by simp, by omega, by go_num⟩
      case measure => simp; omega
    · have i1 : ¬ ((k : Int) < (A.length : Int)) := by omega
      go_wp2
      go_ret
      exact ⟨rfl, rfl⟩
structure Ot where
  v : Value
  tv : Value
  c : List ByteArray
def Ot.ok (w : World) (x : Ot) : Prop := HasT w x.v x.c ∧ HasT w x.tv x.c ∧ x.c.length ≤ 1048576
theorem row_form {w : World} {lo e n : Nat} {v : Value} {xs : List Value} (h : w.ownsRow lo e 1 v n xs) : ∃ o c, v = .slice o n c := by
  obtain ⟨_, h | ⟨g, cap, cur, hv, _⟩⟩ := h
  · exact ⟨none, 0, by rw [h.1, h.2]⟩
  · exact ⟨_, cap, hv⟩
theorem row_at {w : World} {lo e : Nat} {v : Value} {xs : List Value} (h : w.ownsRow lo e 1 v xs.length xs) {j : Nat} (hj : j < xs.length) :
    ∃ g cap, v = .slice (some ⟨g, 0, none⟩) xs.length cap ∧ w.cell? ⟨g, j, none⟩ = some (xs[j]) := by
  have h0 := h
  obtain ⟨_, h | ⟨g, cap, cur, hv, _⟩⟩ := h
  · omega
  · subst hv
    refine ⟨g, cap, rfl, ?_⟩
    have := World.ownsRow.cells h0 (g := g) rfl j xs[j] (List.getElem?_eq_getElem hj)
    rwa [show (⟨g, 0, none⟩ : Addr).add j = ⟨g, j, none⟩ from by
      unfold Addr.add; split
      · rename_i e; rw [e]
      · simp] at this
theorem bookHold_texts (lo K : Nat) (os ws : List Ot) (hO hT hW hN : Value) (w : World) (c4 : w.cell? ⟨K, 22, none⟩ = some hO) (c5 : w.cell? ⟨K, 23, none⟩ = some hT) (c6 : w.cell? ⟨K, 24, none⟩ = some hW) (c7 : w.cell? ⟨K, 25, none⟩ = some hN)
    (rO : w.ownsRow lo 56 1 hO os.length (os.map Ot.v)) (rT : w.ownsRow lo 56 1 hT os.length (os.map Ot.tv)) (rW : w.ownsRow lo 56 1 hW ws.length (ws.map Ot.v)) (rN : w.ownsRow lo 56 1 hN ws.length (ws.map Ot.tv))
    (hos : ∀ x ∈ os, x.ok w) (hws : ∀ x ∈ ws, x.ok w) (hol : os.length ≤ 1000000) (hwl : ws.length ≤ 1000000) :
    Calls Tryz.prog 42 #[.pointer (some ⟨K, 0, none⟩)] w fun e w' => e = .returned (.bool true) ∧ ∃ n, w' = w.drewN n := by
  obtain ⟨oO, kO, eO⟩ := row_form rO
  obtain ⟨oT, kT, eT⟩ := row_form rT
  obtain ⟨oW, kW, eW⟩ := row_form rW
  obtain ⟨oN, kN, eN⟩ := row_form rN
  subst eO eT eW eN
  have RO : Hid (w.ownsRow lo 56 1 (.slice oO os.length kO) os.length (os.map Ot.v)) := rO
  have RT : Hid (w.ownsRow lo 56 1 (.slice oT os.length kT) os.length (os.map Ot.tv)) := rT
  have RW : Hid (w.ownsRow lo 56 1 (.slice oW ws.length kW) ws.length (ws.map Ot.v)) := rW
  have RN : Hid (w.ownsRow lo 56 1 (.slice oN ws.length kN) ws.length (ws.map Ot.tv)) := rN
  have HS : Hid (∀ x ∈ os, x.ok w) := hos
  have HS2 : Hid (∀ x ∈ ws, x.ok w) := hws
  clear rO rT rW rN hos hws
  go_enter Tryz.func42, Tryz.ntmps42
  go_wp2
  go_loopw [3] (fun i wr => ∃ k : Nat, k ≤ os.length ∧ i = .int .i64 k ∧ Hid (∃ n, wr = w.drewN n)) (fun i _ => os.length - iOf i)
  case atStart => exact ⟨0, Nat.zero_le _, rfl, ⟨0, rfl⟩⟩
  case round =>
    obtain ⟨k, hk, rfl, HW⟩ := hrel
    have hz : wr.heap = w.heap := by
      obtain ⟨n, hn⟩ := HW.out
      rw [hn]; rfl
    have HZ : Hid (wr.heap = w.heap) := hz
    have cc : ∀ o y, w.cell? ⟨K, o, none⟩ = some y → wr.cell? ⟨K, o, none⟩ = some y := fun o y h => by
      simp only [World.cell?, hz] at h ⊢; exact h
    have d4 := cc _ _ c4
    have d5 := cc _ _ c5
    have d6 := cc _ _ c6
    have d7 := cc _ _ c7
    clear cc hz
    by_cases hlt : k < os.length
    · obtain ⟨gB, cB, eB, qB⟩ := row_at (xs := os.map Ot.v) (by simpa using RO.out) (j := k) (by simpa using hlt)
      obtain ⟨gA, cA, eA, qA⟩ := row_at (xs := os.map Ot.tv) (by simpa using RT.out) (j := k) (by simpa using hlt)
      simp at eB eA
      obtain ⟨rfl, rfl⟩ := eB
      obtain ⟨rfl, rfl⟩ := eA
      obtain ⟨x, hx⟩ : ∃ x, os[k] = x := ⟨_, rfl⟩
      obtain ⟨hv, ht, hl⟩ := HS.out x (hx ▸ List.getElem_mem hlt)
      simp [hx] at qB qA
      have qB' : wr.cell? ⟨gB, k, none⟩ = some x.v := by simp only [World.cell?, HZ.out] at qB ⊢; exact qB
      have qA' : wr.cell? ⟨gA, k, none⟩ = some x.tv := by simp only [World.cell?, HZ.out] at qA ⊢; exact qA
      have C : Hid (∀ wz : World, wz.heap = w.heap → Calls Tryz.prog 73 #[x.v, x.tv] wz fun e w' => e = .returned (.bool true) ∧ w' = wz) := fun wz hz => by
        exact sameTexts_eq x.v x.tv x.c wz (hv.block fun a _ => by simp [World.cell?, hz]) (ht.block fun a _ => by simp [World.cell?, hz]) hl
      clear hv ht hl hx
      go_wp2_with fail
      go_quiet ((go_at_call 73; exact Calls.quiet_of_same (C.out _ (by exact HZ.out))))
      go_wp2
      go_roundw
      case rel => exact ⟨k + 1, by omega, by go_num, by obtain ⟨n, hn⟩ := HW.out; subst hn; exact ⟨_, World.drewN_drewN _ _ _⟩⟩
      case measure => simp; omega
    · go_wp2
      go_loopw [4] (fun i wz => ∃ k : Nat, k ≤ ws.length ∧ i = .int .i64 k ∧ Hid (∃ n, wz = w.drewN n)) (fun i _ => ws.length - iOf i)
      case atStart => exact ⟨0, Nat.zero_le _, rfl, HW⟩
      case round =>
        obtain ⟨k, hk, rfl, HW⟩ := hrel
        have hz : wr.heap = w.heap := by
          obtain ⟨n, hn⟩ := HW.out
          rw [hn]; rfl
        have HZ : Hid (wr.heap = w.heap) := hz
        have cc : ∀ o y, w.cell? ⟨K, o, none⟩ = some y → wr.cell? ⟨K, o, none⟩ = some y := fun o y h => by
          simp only [World.cell?, hz] at h ⊢; exact h
        have d4 := cc _ _ c4
        have d5 := cc _ _ c5
        have d6 := cc _ _ c6
        have d7 := cc _ _ c7
        clear cc hz
        by_cases hlt : k < ws.length
        · obtain ⟨gB, cB, eB, qB⟩ := row_at (xs := ws.map Ot.v) (by simpa using RW.out) (j := k) (by simpa using hlt)
          obtain ⟨gA, cA, eA, qA⟩ := row_at (xs := ws.map Ot.tv) (by simpa using RN.out) (j := k) (by simpa using hlt)
          simp at eB eA
          obtain ⟨rfl, rfl⟩ := eB
          obtain ⟨rfl, rfl⟩ := eA
          obtain ⟨x, hx⟩ : ∃ x, ws[k] = x := ⟨_, rfl⟩
          obtain ⟨hv, ht, hl⟩ := HS2.out x (hx ▸ List.getElem_mem hlt)
          simp [hx] at qB qA
          have qB' : wr.cell? ⟨gB, k, none⟩ = some x.v := by simp only [World.cell?, HZ.out] at qB ⊢; exact qB
          have qA' : wr.cell? ⟨gA, k, none⟩ = some x.tv := by simp only [World.cell?, HZ.out] at qA ⊢; exact qA
          have C : Hid (∀ wz : World, wz.heap = w.heap → Calls Tryz.prog 73 #[x.v, x.tv] wz fun e w' => e = .returned (.bool true) ∧ w' = wz) := fun wz hz => by
            exact sameTexts_eq x.v x.tv x.c wz (hv.block fun a _ => by simp [World.cell?, hz]) (ht.block fun a _ => by simp [World.cell?, hz]) hl
          clear hv ht hl hx
          go_wp2_with fail
          go_quiet ((go_at_call 73; exact Calls.quiet_of_same (C.out _ (by exact HZ.out))))
          go_wp2
          go_roundw
          case rel => exact ⟨k + 1, by omega, by go_num, by obtain ⟨n, hn⟩ := HW.out; subst hn; exact ⟨_, World.drewN_drewN _ _ _⟩⟩
          case measure => simp; omega
        · go_wp2
          go_ret
          exact ⟨rfl, HW.out⟩
theorem bookHold_any (lo K : Nat) (os ws : List Ot) (hO hT hW hN : Value) (w : World) (hbad : w.cell? ⟨K, 1, none⟩ = some (.bool false)) (hi : Idle w K)
    (c4 : w.cell? ⟨K, 22, none⟩ = some hO) (c5 : w.cell? ⟨K, 23, none⟩ = some hT) (c6 : w.cell? ⟨K, 24, none⟩ = some hW) (c7 : w.cell? ⟨K, 25, none⟩ = some hN)
    (rO : w.ownsRow lo 56 1 hO os.length (os.map Ot.v)) (rT : w.ownsRow lo 56 1 hT os.length (os.map Ot.tv)) (rW : w.ownsRow lo 56 1 hW ws.length (ws.map Ot.v)) (rN : w.ownsRow lo 56 1 hN ws.length (ws.map Ot.tv))
    (hos : ∀ x ∈ os, x.ok w) (hws : ∀ x ∈ ws, x.ok w) (hol : os.length ≤ 1000000) (hwl : ws.length ≤ 1000000) :
    Calls Tryz.prog 23 #[.pointer (some ⟨K, 0, none⟩)] w fun e w' => e = .returned (.bool true) ∧ ∃ n, w' = w.drewN n :=
  hold_by K w (fun w' => ∃ n, w' = w.drewN n) (bookHold_texts lo K os ws hO hT hW hN w c4 c5 c6 c7 rO rT rW rN hos hws hol hwl) (fun w' h => by obtain ⟨n, rfl⟩ := h; exact hi) hi hbad
theorem done_by (K turn : Nat) (w : World) (Q1 Q2 : World → Prop) (h3 : w.cell? ⟨K, 3, none⟩ = some (.int .i64 1)) (hf : ∀ o, w.frozen? ⟨K, o, none⟩ = false) (ht : turn ≤ 1000000)
    (hM : Calls Tryz.prog 69 #[.pointer (some ⟨K, 0, none⟩)] (w.setCell ⟨K, 3, none⟩ (.int .i64 0)) fun e w' => e = .returned (.tuple #[]) ∧ Q1 w')
    (hG : ∀ w1, Q1 w1 → Calls Tryz.prog 70 #[.pointer (some ⟨K, 0, none⟩)] w1 fun e w' => e = .returned (.tuple #[]) ∧ Q2 w')
    (hT : ∀ w2, Q2 w2 → w2.cell? ⟨K, 2, none⟩ = some (.int .i64 turn) ∧ ∀ o, w2.frozen? ⟨K, o, none⟩ = false) :
    Calls Tryz.prog 39 #[.pointer (some ⟨K, 0, none⟩)] w fun e w' => e = .returned (.tuple #[]) ∧ ∃ w2, Q2 w2 ∧ w' = w2.setCell ⟨K, 2, none⟩ (.int .i64 (turn + 1 : Nat)) := by
  have HG : Hid (∀ w1, Q1 w1 → Calls Tryz.prog 70 #[.pointer (some ⟨K, 0, none⟩)] w1 fun e w' => e = .returned (.tuple #[]) ∧ Q2 w') := hG
  have HT : Hid (∀ w2, Q2 w2 → w2.cell? ⟨K, 2, none⟩ = some (.int .i64 turn) ∧ ∀ o, w2.frozen? ⟨K, o, none⟩ = false) := hT
  have HM : Hid (Calls Tryz.prog 69 #[.pointer (some ⟨K, 0, none⟩)] (w.setCell ⟨K, 3, none⟩ (.int .i64 0)) fun e w' => e = .returned (.tuple #[]) ∧ Q1 w') := hM
  clear hM hG hT
  go_enter Tryz.func39, Tryz.ntmps39
  go_wp2_with fail
  refine HM.out.mono ?_
  rintro e w1 ⟨rfl, hq1⟩
  have C := HG.out w1 hq1
  have HC : Hid (Calls Tryz.prog 70 #[.pointer (some ⟨K, 0, none⟩)] w1 fun e w' => e = .returned (.tuple #[]) ∧ Q2 w') := C
  clear C hq1
  go_wp2_with fail
  refine HC.out.mono ?_
  rintro e w2 ⟨rfl, hq2⟩
  obtain ⟨k2, kf⟩ := HT.out w2 hq2
  have HQ : Hid (Q2 w2) := hq2
  clear hq2 h3 hf
  go_wp2
  go_end0
  exact ⟨rfl, w2, HQ.out, by simp⟩
def dueOf (turn n : Nat) : Nat := if n % 3 = 0 then turn else if n % 3 = 1 then turn + 1 + n / 3 % 8 else turn + 1
theorem due_any (K turn n : Nat) (w : World) (h0 : w.cell? ⟨K, 0, none⟩ = some (.bool false)) (h2 : w.cell? ⟨K, 2, none⟩ = some (.int .i64 turn)) (ht : turn ≤ 1000000) (hn : n ≤ 1000000) :
    Calls Tryz.prog 38 #[.pointer (some ⟨K, 0, none⟩), .int .i64 n] w fun e w' => e = .returned (.int .i64 (dueOf turn n)) ∧ w' = w := by
  by_cases c0 : n % 3 = 0
  · have e : dueOf turn n = turn := by simp [dueOf, c0]
    rw [e]
    go_enter Tryz.func38, Tryz.ntmps38
    go_wp2
    go_ret
    exact ⟨rfl, rfl⟩
  by_cases c1 : n % 3 = 1
  · have e : dueOf turn n = turn + 1 + n / 3 % 8 := by simp [dueOf, c1]
    rw [e]
    go_enter Tryz.func38, Tryz.ntmps38
    go_wp2
    go_ret
    exact ⟨rfl, rfl⟩
  · have e : dueOf turn n = turn + 1 := by simp [dueOf, c0, c1]
    rw [e]
    go_enter Tryz.func38, Tryz.ntmps38
    go_wp2
    go_ret
    exact ⟨rfl, rfl⟩
end Go.Proofs.YtbjjbgaomoihaaaGreatDoor.Bk
