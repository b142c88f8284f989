/-
  Prefer by contract.
-/
import Derived.Test.YtpngnhpnjkepjaaDoorRBack
namespace Go.Proofs.YtpngnhpnjkepjaaDoor
open Go.RowKit Go.Shelf
attribute [local go_sem] Oper.semAt_some

/-- what a prefer rule says of p -/
def sideR (r : Nat × By) (p : By) : Nat := if (matchV r.2 p).1 then r.1 else 0
def firstNZ (l : List Nat) : Nat := (l.find? fun x => x != 0).getD 0
def prefR (L : List Ru) (p : By) : Nat := firstNZ ((prefsOf L).reverse.map fun r => sideR r p)
set_option maxRecDepth 100000 in
theorem fP_any (r : Nat × By) (p : ByteArray) (b g : Nat) (m : Value) (D : Nat → Prop) (w : World) (hb : w.heap[b]? = some (.cells #[m] 36)) (hm : IsM D w m r.2) (hg : w.heap[g]? = some (.cells #[.int .i64 (r.1 : Int)] 3)) (_ : ∀ b, D b → b < w.heap.size) (hq : r.2.length ≤ 1048576) (hp : p.size ≤ 1048576) :
    Calls Tryd.prog 73 #[.string p, .pointer (some ⟨b, 0, none⟩), .pointer (some ⟨g, 0, none⟩)] w fun e w' => e = .returned (.int .i64 (sideR r (tl p) : Int)) ∧ Below w.heap.size w w' := by
  obtain ⟨c0, _⟩ := one_heap hb
  obtain ⟨b', hb', rfl, hm'⟩ := hm
  unfold fM at c0
  have C := fM_any r.2 p b' w hm' hq hp
  have hgw := fun (w1 : World) (h : Below w.heap.size w w1) => (one_heap (heap_up hg h)).1
  unfold sideR
  generalize (matchV r.2 (tl p)).1 = B at *
  cases B with
  | true =>
    rw [if_pos rfl]
    clear hb hm' hg
    go_enter Tryd.func73, Tryd.ntmps73
    go_wp2_with (go_at_call 72; refine C.mono ?_; rintro e w1 ⟨rfl, hg1⟩; have c1 := hgw w1 hg1)
    go_ret
    exact ⟨rfl, hg1⟩
  | false =>
    rw [if_neg (by simp)]
    clear hb hm' hg
    go_enter Tryd.func73, Tryd.ntmps73
    go_wp2_with (go_at_call 72; refine C.mono ?_; rintro e w1 ⟨rfl, hg1⟩)
    go_ret
    exact ⟨rfl, hg1⟩
theorem firstNZ_zero {l : List Nat} (h : ∀ x ∈ l, x = 0) : firstNZ l = 0 := by
  unfold firstNZ
  rw [List.find?_eq_none.2 fun x hx => by simp [h x hx]]; rfl
theorem firstNZ_at {a : List Nat} {x : Nat} (r : List Nat) (h : ∀ y ∈ a, y = 0) (hx : x ≠ 0) : firstNZ (a ++ x :: r) = x := by
  unfold firstNZ
  rw [List.find?_append, List.find?_eq_none.2 fun y hy => by simp [h y hy]]
  simp [hx]
theorem map_range_getD {α β : Type} (qs : List α) (d : α) (f : α → β) : (List.range qs.length).map (fun i => f (qs.getD i d)) = qs.map f := by
  refine List.ext_getElem (by simp) fun i h1 h2 => ?_
  simp at h1
  simp [h1]
theorem revs_map (qs : List (Nat × By)) (p : By) : (revs qs.length).map (fun i => sideR (qs.getD i (0, [])) p) = qs.reverse.map fun r => sideR r p := by
  unfold revs
  rw [List.map_reverse, map_range_getD qs (0, []) (fun r => sideR r p), List.map_reverse]
theorem prefs_short {L : List Ru} (h : ShortR L) : (∀ q ∈ prefsOf L, q.2.length ≤ 1048576) ∧ (prefsOf L).length ≤ 1048576 := by
  refine ⟨fun q hq => ?_, ?_⟩
  · obtain ⟨r, hr, rfl⟩ := List.mem_map.1 hq
    have := h.1 r (List.mem_filter.1 hr).1
    simp only; omega
  · unfold prefsOf
    rw [List.length_map]
    have := List.length_filter_le (fun r : Ru => !decide (r.1 = 1)) L
    have := h.2; omega
end Go.Proofs.YtpngnhpnjkepjaaDoor
