/-
  WireMany: the law's state, with the Book's blocks hidden.
-/
import Derived.Test.YthpelabmfpogbaaGreatDoorMany1
import Derived.Test.YthpelabmfpogbaaGreatDoorReadsX
namespace Go.Proofs.YthpelabmfpogbaaGreatDoor
open Go.RowKit Wire Bk

/-- The Book with n lists, the pairs, the slice of pairs v. -/
def MX (w0 : World) (ps : List Pr) (v : Value) (n : Nat) (w : World) : Prop := ∃ B, MA w0 w w0.heap.size w0.heap.size n B ps v

theorem flat2 : ∀ (ps : List Pr) (t : Nat) (p : Pr), ps[t]? = some p → (ps.flatMap Pr.cells)[t * 2]? = some (.pointer (some ⟨p.R, 0, none⟩)) ∧ (ps.flatMap Pr.cells)[t * 2 + 1]? = some (.pointer (some ⟨p.M, 0, none⟩))
  | [], t, p, h => by simp at h
  | q :: ps, 0, p, h => by
    obtain rfl : q = p := by simpa using h
    exact ⟨rfl, rfl⟩
  | q :: ps, t + 1, p, h => by
    have k := flat2 ps t p (by simpa using h)
    rw [show (t + 1) * 2 = t * 2 + 2 by omega, show t * 2 + 2 + 1 = t * 2 + 1 + 2 by omega]
    exact k

section
variable {w0 w w' : World} {ps : List Pr} {v : Value} {n : Nat}
theorem MX.bel (h : MX w0 ps v n w) : Below w0.heap.size w0 w := by obtain ⟨B, h⟩ := h; exact h.bel
theorem MX.up (h : MX w0 ps v n w) (hb : Below w.heap.size w w') : MX w0 ps v n w' := by obtain ⟨B, h⟩ := h; exact ⟨B, h.up h.bel.size hb⟩
theorem MX.form (h : MX w0 ps v n w) (hp : 0 < ps.length) : ∃ g cap, v = .slice (some ⟨g, 0, none⟩) ps.length cap := by
  obtain ⟨B, h⟩ := h
  obtain ⟨_, ⟨_, h0⟩ | ⟨g, cap, cur, hv, _⟩⟩ := h.own
  · omega
  · exact ⟨g, cap, hv⟩
theorem MX.pc {g N cap t : Nat} {p : Pr} (h : MX w0 ps (.slice (some ⟨g, 0, none⟩) N cap) n w) (hp : ps[t]? = some p) : w.cell? ⟨g, t * 2, none⟩ = some (.pointer (some ⟨p.R, 0, none⟩)) ∧ w.cell? ⟨g, t * 2 + 1, none⟩ = some (.pointer (some ⟨p.M, 0, none⟩)) := by
  obtain ⟨B, h⟩ := h
  obtain ⟨k0, k1⟩ := flat2 ps t p hp
  have c0 := World.ownsRow.cells h.own (g := g) rfl _ _ k0
  have c1 := World.ownsRow.cells h.own (g := g) rfl _ _ k1
  rw [Addr.add_lit, Nat.zero_add] at c0 c1
  exact ⟨c0, c1⟩
theorem MX.stands {t : Nat} {p : Pr} (h : MX w0 ps v n w) (hp : ps[t]? = some p) : Calls Tryz.prog 18 #[.agg #[.pointer (some ⟨p.R, 0, none⟩), .pointer (some ⟨p.M, 0, none⟩)]] w fun e w' => e = .returned (.bool true) ∧ MX w0 ps v n w' := by
  obtain ⟨s, t⟩ : ∃ s, _ := h.choose_spec.two p (List.mem_of_getElem? hp)
  refine (stands_any _ _ _ _ _ _ _ _ t.rd t.rf).mono ?_
  rintro e w' ⟨rfl, hb⟩
  exact ⟨rfl, h.up hb⟩
theorem MX.hold (h : MX w0 ps v n w) (hn : n ≤ 200000) : Calls Tryz.prog 15 #[.pointer (some ⟨w0.heap.size, 0, none⟩)] w fun e w' => e = .returned (.bool true) ∧ MX w0 ps v n w' := by
  refine (hold_up _ _ _ n _ h.choose_spec.book hn).mono ?_
  rintro e w' ⟨rfl, hb⟩
  exact ⟨rfl, h.up hb⟩
theorem MX.does {t : Nat} {p : Pr} (h : MX w0 ps v n w) (hp : ps[t]? = some p) (hBy : Bytes p.l) (hl : p.l.length ≤ 100000) (kd : Int) (sec : Bool) (most : Nat) (nn : Int) (mark : Nat) (hnn : -9223372036854775808 ≤ nn ∧ nn ≤ 9223372036854775807) (hmk : mark ≤ 100000000) (hn : n ≤ 200000) :
    Calls Tryz.prog 19 #[.agg #[.pointer (some ⟨p.R, 0, none⟩), .pointer (some ⟨p.M, 0, none⟩)], .pointer (some ⟨w0.heap.size, 0, none⟩), .agg #[.int .i64 kd, .bool sec, .int .u64 most, .int .i64 nn], .int .i64 mark] w fun e w' => e = .returned (.bool true) ∧ ∃ n', n' ≤ n + 1 ∧ MX w0 ps v n' w' := by
  obtain ⟨B, h⟩ := h
  obtain ⟨s, q⟩ := h.two p (List.mem_of_getElem? hp)
  refine (does_any _ _ n B _ _ _ _ p.l _ kd sec most nn mark w q hBy hl hnn hmk hn).mono ?_
  rintro e w' ⟨rfl, hd⟩
  obtain ⟨n', B', h1, h2⟩ := h.does hp hd
  exact ⟨rfl, n', h1, B', h2⟩
end
end Go.Proofs.YthpelabmfpogbaaGreatDoor
