/-
  THE REFERENCE's READER: what lies in memory; fail; take.
-/
import Derived.Test.YtfigneaaeakbcaaDoorTd
namespace Go.Proofs.YtfigneaaeakbcaaDoor
open Go.RowKit Hm
attribute [local go_sem] Oper.semAt_some

theorem zero65 : (Tryd.prog.info? 65).bind (·.zero) = some (.agg #[.int .i64 0, .string ⟨#[]⟩, .int .i64 0]) := by kernel_rfl
theorem siz65 : (Tryd.prog.info? 65).map (·.size) = some 3 := by kernel_rfl
theorem siz28 : (Tryd.prog.info? 28).map (·.size) = some 2 := by kernel_rfl
abbrev St := Except Er (List W)
/-- the reference's reader: the words that are left, or the first fault -/
def Rr (c e : Nat) (st : St) (w : World) : Prop := match st with
  | .ok ws => ∃ p cap, w.heap[c]? = some (.cells #[.slice p ws.length cap, .int .i64 (e : Int), .int .i64 0, .int .i64 0] 41 (0, 0)) ∧
      (ws ≠ [] → ∃ g o, p = some ⟨g, o, none⟩ ∧ g ≠ c ∧ (∃ cs f, w.heap[g]? = some (.cells cs 65 f)) ∧ ws.length ≤ cap ∧ ∀ i x, (ws.map rc)[i]? = some x → Lies w g (o + i * 3) x)
  | .error y => y.2 ≠ 0 ∧ ∃ p n cap, w.heap[c]? = some (.cells #[.slice p n cap, .int .i64 (e : Int), .int .i64 (y.1 : Int), .int .i64 (y.2 : Int)] 41 (0, 0))
theorem Rr.lt {c e : Nat} {st : St} {w : World} (h : Rr c e st w) : c < w.heap.size := by
  cases st with
  | ok ws => obtain ⟨p, cap, h, _⟩ := h; exact (Array.getElem?_eq_some_iff.1 h).1
  | error y => obtain ⟨_, p, n, cap, h⟩ := h; exact (Array.getElem?_eq_some_iff.1 h).1
theorem Rr.kp {S : Nat → Prop} {c e : Nat} {st : St} {w w' : World} (h : Rr c e st w) (k : Kp S w w') (hc : ¬ S c) (hS : ∀ g cs f, S g → w.heap[g]? ≠ some (.cells cs 65 f)) : Rr c e st w' := by
  have hl := h.lt
  cases st with
  | ok ws =>
    obtain ⟨p, cap, h1, h2⟩ := h
    refine ⟨p, cap, (k.block c hl hc).trans h1, fun hn => ?_⟩
    obtain ⟨g, o, e1, e2, ⟨cs, f, ec⟩, e3, e4⟩ := h2 hn
    exact ⟨g, o, e1, e2, ⟨cs, f, (k.block g (Array.getElem?_eq_some_iff.1 ec).1 (fun q => hS g _ _ q ec)).trans ec⟩, e3, fun i x hi => Lies.kp (e4 i x hi) k (fun q => hS g _ _ q ec)⟩
  | error y => obtain ⟨h0, p, n, cap, h1⟩ := h; exact ⟨h0, p, n, cap, (k.block c hl hc).trans h1⟩
theorem Rr.up {c e : Nat} {st : St} {w w' : World} (h : Rr c e st w) (k : G w w') : Rr c e st w' := h.kp (S := fun _ => False) (Kp.of k) (fun q => q) (fun _ _ _ q => q.elim)
/-- the cells ahead of the fault -/
theorem Rr.two {c e : Nat} {st : St} {w : World} (h : Rr c e st w) : ∃ p n cap a b, w.heap[c]? = some (.cells #[.slice p n cap, .int .i64 (e : Int), .int .i64 (a : Int), .int .i64 (b : Int)] 41 (0, 0)) ∧ (match st with | .ok _ => a = 0 ∧ b = 0 | .error y => a = y.1 ∧ b = y.2 ∧ y.2 ≠ 0) := by
  cases st with
  | ok ws => obtain ⟨p, cap, h, _⟩ := h; exact ⟨p, _, cap, 0, 0, h, rfl, rfl⟩
  | error y => obtain ⟨h0, p, n, cap, h⟩ := h; exact ⟨p, n, cap, y.1, y.2, h, rfl, rfl, h0⟩
def failS (st : St) (y : Er) : St := match st with
  | .ok _ => .error y
  | .error z => .error z
set_option maxRecDepth 100000 in
set_option maxHeartbeats 4000000 in
theorem fail_any (c e : Nat) (st : St) (a r : Nat) (hr : r ≠ 0) (w : World) (h : Rr c e st w) : Calls Tryd.prog 17 #[.pointer (some ⟨c, 0, none⟩), .int .i64 (a : Int), .int .i64 (r : Int)] w fun E w' => E = .returned (.tuple #[]) ∧ Kp (fun g => g = c) w w' ∧ Rr c e (failS st (a, r)) w' := by
  cases st with
  | ok ws =>
    obtain ⟨p, cap, hb, _⟩ := h
    have c3 : w.cell? ⟨c, 3, none⟩ = some (.int .i64 0) := by rw [cell_heap hb]; rfl
    have HB := hid hb
    clear hb
    go_enter Tryd.func17, Tryd.ntmps17
    go_wp2_with (first
      | ((with_reducible refine pl_storeM 28 (.tmp 17) (.tmp 15) c 2 #[.int .i64 (a : Int), .int .i64 (r : Int)] 41 [.slice p ws.length cap, .int .i64 (e : Int), .int .i64 0, .int .i64 0] ?_ ?_ ?_ ?_ ?_ ?_ ?_ ?_ ?_ ?_); rfl; rfl; kernel_rfl; rfl; rfl; exact HB.out; exact (by simp); exact siz28; exact (by simp [Value.oneCell']); intro w3 k3 v3 s3; have H3 := hid (⟨k3, v3⟩ : _ ∧ _); clear k3 v3 s3))
    go_end0
    exact ⟨rfl, H3.out.1, hr, p, _, cap, H3.out.2⟩
  | error y =>
    have hh := h
    obtain ⟨h0, p, n, cap, hb⟩ := h
    have c3 : w.cell? ⟨c, 3, none⟩ = some (.int .i64 (y.2 : Int)) := by rw [cell_heap hb]; rfl
    have b1 : ((y.2 : Int) == 0) = false := by simp; omega
    have HB := hid hh
    clear hb hh h0
    go_enter Tryd.func17, Tryd.ntmps17
    go_wp2
    go_end0
    exact ⟨rfl, Kp.refl _ _, HB.out⟩
end Go.Proofs.YtfigneaaeakbcaaDoor
