/-
  Tree.Children as an iterator.
-/
import Derived.Test.YtglnpmdigghibaaEach
namespace Go.Proofs.Ytglnpmdigghibaa
open Go.RowKit Go.Shelf
attribute [local go_sem] Oper.semAt_some

theorem K.items_len : ∀ k : K, k.items.length = k.flat.len
  | .nil => rfl
  | .node _ _ _ _ _ _ ah be => by rw [K.items, K.flat, F.app_len, F.len, List.length_append, List.length_cons, K.items_len ah, K.items_len be]

set_option maxRecDepth 100000 in
set_option maxHeartbeats 1000000 in
theorem childrenF_any (p : Nat) (w : World) :
    Calls Try.prog 23 #[.pointer (some ⟨p, 0, none⟩)] w fun e w' => e = .returned (.func (.func 34) #[] #[.pointer (some ⟨w.heap.size, 0, none⟩)]) ∧ w' = w.alloc (.cells #[.pointer (some ⟨p, 0, none⟩)] 32) := by
  have hmf : ∀ (fn : Fn) (first cap : Array Value) (w : World), (Instr.makeFunc fn first cap).run Try.prog w = .ok (.func fn first cap) w := fun _ _ _ _ => rfl
  go_enter Try.func23, Try.ntmps23
  go_wp2
  go_ret
  exact ⟨rfl, rfl⟩

set_option maxRecDepth 100000 in
set_option maxHeartbeats 1000000 in
theorem children1_in (n : Nat) (w0 : World) (S l Bt p : Nat) (v : Vd) (m : Md) (k : K) (J Jx : List (KidIn w0 S) → World → Prop) (hJD : ∀ pre W, J pre W → J pre W.drew)
    (hY : ∀ pre (x : KidIn w0 S) W, J pre W → pre.length < k.items.length → YieldAt Fence.wide (n - 1) Try.prog l #[.string x.1.nm, .pointer (some ⟨x.1.p, 0, none⟩)] W fun e W' =>
      (e = .returned (.bool true) ∧ J (pre ++ [x]) W' ∧ Below w0.heap.size W W') ∨ (e = .returned (.bool false) ∧ Jx (pre ++ [x]) W'))
    (W : World) (hBt : W.cell? ⟨Bt, 0, none⟩ = some (.pointer (some ⟨p, 0, none⟩))) (hT : AtT w0 p v m k) (hS : k.flat.size ≤ S) (hG : G w0 W) (h0 : J [] W) :
    CallsIn Fence.wide n Try.prog 34 #[.func (.yield l) #[] #[], .pointer (some ⟨Bt, 0, none⟩)] W fun e W' => (∃ v, e = .returned v) ∧
      ((∃ ys : List (KidIn w0 S), kids ys = k.items ∧ J ys W') ∨ (∃ pre : List (KidIn w0 S), kids pre <+: k.items ∧ Jx pre W')) := by
  obtain ⟨pk, h1, h2⟩ := hT
  have c39 := hG.cell (lies_cell h1 39 _ (tc_kids ..))
  have hp := each_in w0 S l k.items.length J Jx hJD (fun m pre x W hj hl => yieldAny rfl m (hY pre x W hj hl)) k (n - 1) pk [] W h2 hS hG h0 (by simp)
  obtain ⟨a, rfl⟩ := h2.form
  clear h1 h2 hY
  refine callsIn_of_wp Try.func34 rfl trivial ?_ rfl
  simp only [Try.ntmps34, List.size_toArray, List.length_cons, List.length_nil, Nat.reduceAdd, Nat.reduceSub, Array.replicate_succ, Array.replicate_zero, List.push_toArray, List.append_toArray, List.nil_append, List.cons_append]
  gi_wp2_with (refine ⟨trivial, fun h => (by cases h), ?_⟩; gi_at_call 35; refine hp.mono ?_; clear hp; rintro e W1 (⟨rfl, ys, hys, hJ1, _⟩ | ⟨rfl, q, hq, hx⟩))
  · go_end0
    exact ⟨⟨_, rfl⟩, .inl ⟨ys, hys, by simpa using hJ1⟩⟩
  · go_end0
    exact ⟨⟨_, rfl⟩, .inr ⟨q, hq, by simpa using hx⟩⟩

theorem children_stops (n : Nat) (w0 : World) (S Bt p : Nat) (v : Vd) (m : Md) (k : K) (w : World) (hBt : Bt < w.heap.size) (hc : w.cell? ⟨Bt, 0, none⟩ = some (.pointer (some ⟨p, 0, none⟩))) (hT : AtT w0 p v m k) (hS : k.flat.size ≤ S) (hG : G w0 w) :
    SeqStopsK Fence.wide n Try.prog 34 #[.pointer (some ⟨Bt, 0, none⟩)] (fun x : KidIn w0 S => #[Value.string x.1.nm, .pointer (some ⟨x.1.p, 0, none⟩)]) (Below w0.heap.size) (fun ys => kids ys = k.items) (fun pre => kids pre <+: k.items) k.items.length w := fun l J Jx W hW hJ _ hY h0 =>
  children1_in n w0 S l Bt p v m k J Jx (fun pre A h => hJ _ _ _ none h ⟨rfl, rfl, rfl, Nat.le_refl _, fun _ _ _ => rfl⟩ (fun r e => by cases e)) hY W ((hW.cell (p := ⟨Bt, 0, none⟩) hBt).trans hc) hT hS (hG.trans hW) h0
end Go.Proofs.Ytglnpmdigghibaa
