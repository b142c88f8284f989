/-
  ROWS OF RULES AND OF THEIR FUNCTIONS; matching, preferring and what they hand out, by contract.
-/
import Derived.Test.YtpngnhpnjkepjaaGreatDoorRRead
import Derived.Laws.OwnMore
import Derived.Maps.AppendAt
namespace Go.Proofs.YtpngnhpnjkepjaaGreatDoor
open Go.RowKit

theorem run_store_func {P : Program} {w : World} {a : Addr} {m : Mode} (f : Fn) (x y : Array Value) : (store a (.func f x y) m).run P w = stored P w a (.func f x y) m := run_store P w a _ m rfl
attribute [local go_sem] run_store_func
theorem Tryz.info53 : (Tryz.prog.info? 53).map (fun i => (i.zero, i.size, i.bytes)) = some (some .nilFunc, 1, 8) := by kernel_rfl
theorem Tryz.info84 : (Tryz.prog.info? 84).map (fun i => (i.zero, i.size, i.bytes)) = some (some .nilFunc, 1, 8) := by kernel_rfl
theorem und63 : Tryz.prog.underlying 71 = some (.slice 53) := Tryz.underlying71
theorem und64 : Tryz.prog.underlying 72 = some (.slice 84) := Tryz.underlying72
theorem und28 : Tryz.prog.underlying 22 = some (.slice 57) := Tryz.underlying22
/-- a rule's cells -/
def rc (r : Ru) : List Value := [.int .i64 (r.1 : Int), .string (ofB r.2)]
def rcs (L : List Ru) : List Value := (L.map rc).flatten
theorem rcs_len (L : List Ru) : (rcs L).length = L.length * 2 := by
  induction L with
  | nil => rfl
  | cons k K ih =>
    show (rc k ++ rcs K).length = _
    rw [List.length_append, ih, List.length_cons]
    show 2 + _ = _
    omega
theorem rcs_app (K M : List Ru) : rcs (K ++ M) = rcs K ++ rcs M := by simp [rcs]
theorem rcs_at : ∀ {L : List Ru} {i : Nat} {r : Ru}, L[i]? = some r → (rcs L)[i * 2]? = some (.int .i64 (r.1 : Int)) ∧ (rcs L)[i * 2 + 1]? = some (.string (ofB r.2))
  | [], i, r, h => by simp at h
  | k :: L, i, r, h => by
    have e : rcs (k :: L) = .int .i64 (k.1 : Int) :: .string (ofB k.2) :: rcs L := rfl
    rw [e]
    cases i with
    | zero => simp at h; subst h; exact ⟨rfl, rfl⟩
    | succ i =>
      have := rcs_at (L := L) (i := i) (r := r) (by simpa using h)
      rw [show (i + 1) * 2 = i * 2 + 1 + 1 from by omega]
      exact this
def OwnsR (w : World) (lo : Nat) (v : Value) (L : List Ru) : Prop := w.ownsRow lo 57 2 v L.length (rcs L)
def HasR (w : World) (v : Value) (L : List Ru) : Prop :=
  (v = .slice none 0 0 ∧ L = []) ∨ (L ≠ [] ∧ ∃ g cap, v = .slice (some ⟨g, 0, none⟩) L.length cap ∧ g < w.heap.size ∧ ∀ i r, L[i]? = some r → w.cell? ⟨g, i * 2, none⟩ = some (.int .i64 (r.1 : Int)) ∧ w.cell? ⟨g, i * 2 + 1, none⟩ = some (.string (ofB r.2)))
theorem OwnsR.has {w : World} {lo : Nat} {v : Value} {L : List Ru} (h : OwnsR w lo v L) (hL : L = [] → v = .slice none 0 0) : HasR w v L := by
  by_cases e : L = []
  · exact .inl ⟨hL e, e⟩
  · have h0 := h
    obtain ⟨_, h | ⟨g, cap, cur, hv, hg, hh, hn, hm, hs, ht⟩⟩ := h
    · exact absurd (List.length_eq_zero_iff.1 h.2) e
    · subst hv
      refine .inr ⟨e, g, cap, rfl, (Array.getElem?_eq_some_iff.1 hh).1, fun i r hi => ?_⟩
      have hl := (List.getElem?_eq_some_iff.1 hi).1
      rw [World.ownsRow.cellAt h0 _ (by omega), World.ownsRow.cellAt h0 _ (by omega)]
      exact rcs_at hi
theorem HasR.up {w w' : World} {v : Value} {L : List Ru} (h : HasR w v L) (hb : Below w.heap.size w w') : HasR w' v L := by
  rcases h with h | ⟨hne, g, cap, hv, hg, h⟩
  · exact .inl h
  · exact .inr ⟨hne, g, cap, hv, Nat.lt_of_lt_of_le hg hb.size, fun i r hi => ⟨(hb.cell (p := ⟨g, i * 2, none⟩) hg).trans (h i r hi).1, (hb.cell (p := ⟨g, i * 2 + 1, none⟩) hg).trans (h i r hi).2⟩⟩
theorem HasR.form {w : World} {v : Value} {L : List Ru} (h : HasR w v L) : ∃ ao cap, v = .slice ao L.length cap := by
  rcases h with ⟨rfl, rfl⟩ | ⟨_, g, cap, rfl, _⟩
  · exact ⟨none, 0, rfl⟩
  · exact ⟨_, cap, rfl⟩

/-- one after the other -/
def All2 {α : Type} (Q : Value → α → Prop) : List Value → List α → Prop
  | [], [] => True
  | c :: cs, p :: ps => Q c p ∧ All2 Q cs ps
  | _, _ => False
theorem All2.len {α : Type} {Q : Value → α → Prop} : ∀ {cs : List Value} {ps : List α}, All2 Q cs ps → cs.length = ps.length
  | [], [], _ => rfl
  | _ :: _, _ :: _, h => by simp [All2.len h.2]
  | [], _ :: _, h => absurd h (by simp [All2])
  | _ :: _, [], h => absurd h (by simp [All2])
theorem All2.mono {α : Type} {Q R : Value → α → Prop} (hq : ∀ c p, Q c p → R c p) : ∀ {cs : List Value} {ps : List α}, All2 Q cs ps → All2 R cs ps
  | [], [], _ => trivial
  | _ :: _, _ :: _, h => ⟨hq _ _ h.1, All2.mono hq h.2⟩
  | [], _ :: _, h => absurd h (by simp [All2])
  | _ :: _, [], h => absurd h (by simp [All2])
theorem All2.snoc {α : Type} {Q : Value → α → Prop} {c : Value} {p : α} (hc : Q c p) : ∀ {cs : List Value} {ps : List α}, All2 Q cs ps → All2 Q (cs ++ [c]) (ps ++ [p])
  | [], [], _ => ⟨hc, trivial⟩
  | _ :: _, _ :: _, h => ⟨h.1, All2.snoc hc h.2⟩
  | [], _ :: _, h => absurd h (by simp [All2])
  | _ :: _, [], h => absurd h (by simp [All2])
theorem All2.at {α : Type} {Q : Value → α → Prop} : ∀ {cs : List Value} {ps : List α}, All2 Q cs ps → ∀ {i : Nat} {p : α}, ps[i]? = some p → ∃ c, cs[i]? = some c ∧ Q c p
  | [], [], _, i, p, hi => by simp at hi
  | c :: cs, q :: ps, h, i, p, hi => by
    cases i with
    | zero => simp at hi; subst hi; exact ⟨c, rfl, h.1⟩
    | succ i =>
      obtain ⟨x, hx, hq⟩ := All2.at h.2 (i := i) (p := p) (by simpa using hi)
      exact ⟨x, by simpa using hx, hq⟩
  | [], _ :: _, h, _, _, _ => absurd h (by simp [All2])
  | _ :: _, [], h, _, _, _ => absurd h (by simp [All2])

def fM (b : Nat) : Value := .func (.func 73) #[] #[.pointer (some ⟨b, 0, none⟩)]
def fP (b g : Nat) : Value := .func (.func 74) #[] #[.pointer (some ⟨b, 0, none⟩), .pointer (some ⟨g, 0, none⟩)]
/-- a skip rule's function, its blocks in D -/
def IsM (D : Nat → Prop) (w : World) (c : Value) (p : By) : Prop := ∃ b, D b ∧ c = fM b ∧ w.heap[b]? = some (.cells #[.string (ofB p)] 9)
def IsP (D : Nat → Prop) (w : World) (c : Value) (r : Nat × By) : Prop := ∃ b g m, D b ∧ D g ∧ c = fP b g ∧ w.heap[b]? = some (.cells #[m] 53) ∧ IsM D w m r.2 ∧ w.heap[g]? = some (.cells #[.int .i64 (r.1 : Int)] 3)
theorem IsM.up {D E : Nat → Prop} {w w' : World} {c : Value} {p : By} (h : IsM D w c p) (hE : ∀ b, D b → E b) (hw : ∀ b, D b → w'.heap[b]? = w.heap[b]?) : IsM E w' c p := by
  obtain ⟨b, h1, h2, h3⟩ := h
  exact ⟨b, hE b h1, h2, (hw b h1).trans h3⟩
theorem IsP.up {D E : Nat → Prop} {w w' : World} {c : Value} {p : Nat × By} (h : IsP D w c p) (hE : ∀ b, D b → E b) (hw : ∀ b, D b → w'.heap[b]? = w.heap[b]?) : IsP E w' c p := by
  obtain ⟨b, g, m, h1, h2, h3, h4, h5, h6⟩ := h
  exact ⟨b, g, m, hE b h1, hE g h2, h3, (hw b h1).trans h4, h5.up hE hw, (hw g h2).trans h6⟩
def skipsOf (M : List Ru) : List By := (M.filter fun r => decide (r.1 = 1)).map (·.2)
def prefsOf (M : List Ru) : List (Nat × By) := (M.filter fun r => !decide (r.1 = 1)).map fun r => (r.1 - 1, r.2)

set_option maxRecDepth 100000 in
theorem matching_any (s : ByteArray) (w : World) : Calls Tryz.prog 44 #[.string s] w fun e w' => e = .returned (fM w.heap.size) ∧ w' = w.alloc (.cells #[.string s] 9) := by
  have hmf : ∀ (fn : Fn) (first cap : Array Value) (w : World), (Instr.makeFunc fn first cap).run Tryz.prog w = .ok (.func fn first cap) w := fun _ _ _ _ => rfl
  go_enter Tryz.func44, Tryz.ntmps44
  go_wp2
  go_ret
  exact ⟨rfl, rfl⟩
set_option maxRecDepth 100000 in
theorem preferring_any (k : Int) (s : ByteArray) (w : World) : Calls Tryz.prog 45 #[.int .i64 k, .string s] w fun e w' => e = .returned (fP (w.heap.size + 2) w.heap.size) ∧ w' = ((w.alloc (.cells #[.int .i64 k] 3)).alloc (.cells #[.string s] 9)).alloc (.cells #[fM (w.heap.size + 1)] 53) := by
  have hmf : ∀ (fn : Fn) (first cap : Array Value) (w : World), (Instr.makeFunc fn first cap).run Tryz.prog w = .ok (.func fn first cap) w := fun _ _ _ _ => rfl
  obtain ⟨i0, hi, hz0, hz1, hz2⟩ := info_parts Tryz.info53
  have C := fun W => matching_any s W
  obtain ⟨c0, f0⟩ := cell_new_l ((w.alloc (.cells #[.int .i64 k] 3)).alloc (.cells #[.string s] 9)) .nilFunc 53
  simp only [World.size_alloc] at c0 f0
  go_enter Tryz.func45, Tryz.ntmps45
  go_wp2_with (go_at_call 44; refine (C _).mono ?_; rintro e w1 ⟨rfl, rfl⟩; unfold fM; simp only [World.size_alloc])
  go_ret
  exact ⟨rfl, rfl⟩
end Go.Proofs.YtpngnhpnjkepjaaGreatDoor
