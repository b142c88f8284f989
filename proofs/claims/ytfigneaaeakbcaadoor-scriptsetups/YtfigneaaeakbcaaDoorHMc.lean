/-
  A drawn region whose operations on memory come one behind the other: what holds behind each of them; letters for their values.
-/
import Derived.Test.YtfigneaaeakbcaaDoorHSeq
namespace Go.Proofs.YtfigneaaeakbcaaDoor.Hm
open Go.RowKit

/-- letters, one of them chosen anew -/
def ups (r : Nat → Value) (i : Nat) (u : Value) : Nat → Value := fun k => if k = i then u else r k
theorem ups_same (r : Nat → Value) (i : Nat) (u : Value) : ups r i u i = u := by simp [ups]
theorem ups_ne (r : Nat → Value) {i k : Nat} (u : Value) (h : k ≠ i) : ups r i u k = r k := by simp [ups, h]
/-- the last one that is done, of these (the last one first), says what holds -/
def MC (F0 : (Nat → Value) → World → Prop) : List (Nat × ((Nat → Value) → World → Prop)) → (Nat → Value) → (Nat → Bool) → World → Prop
  | [], r, _, w => F0 r w
  | (p, F) :: t, r, done, w => if done p = true then F r w else MC F0 t r done w
theorem MC.step {F0 : (Nat → Value) → World → Prop} {r : Nat → Value} {done : Nat → Bool} {w : World} {j : Nat} : ∀ {ps : List (Nat × ((Nat → Value) → World → Prop))}, MC F0 ps r done w → (ps.map (·.1)).contains j = false → MC F0 ps r (upd done j) w
  | [], h, _ => h
  | (p, F) :: t, h, hj => by
    simp only [List.map_cons, List.contains_cons, Bool.or_eq_false_iff, beq_eq_false_iff_ne] at hj
    rw [MC] at h ⊢
    rw [upd_ne done (Ne.symm hj.1)]
    split
    · rename_i hd
      rw [if_pos hd] at h
      exact h
    · rename_i hd
      rw [if_neg hd] at h
      exact MC.step h hj.2
theorem MC.base {F0 : (Nat → Value) → World → Prop} {r : Nat → Value} {done : Nat → Bool} {w : World} {B : World → Prop} (h0 : ∀ r w, F0 r w → B w) : ∀ {ps : List (Nat × ((Nat → Value) → World → Prop))}, (∀ x ∈ ps, ∀ r w, x.2 r w → B w) → MC F0 ps r done w → B w
  | [], _, h => h0 _ _ h
  | (p, F) :: t, hs, h => by
    rw [MC] at h
    split at h
    · exact hs (p, F) (by simp) _ _ h
    · exact MC.base h0 (fun x hx => hs x (by simp [hx])) h
theorem MC.start {F0 : (Nat → Value) → World → Prop} {r : Nat → Value} {w : World} (h : F0 r w) : ∀ {ps : List (Nat × ((Nat → Value) → World → Prop))}, MC F0 ps r (fun _ => false) w
  | [] => h
  | (p, F) :: t => by rw [MC, if_neg (by simp)]; exact MC.start h
theorem MC.put {F0 F : (Nat → Value) → World → Prop} {r : Nat → Value} {done : Nat → Bool} {w : World} {p : Nat} {post : List (Nat × ((Nat → Value) → World → Prop))} (h : F r w) : ∀ (pre : List (Nat × ((Nat → Value) → World → Prop))), (∀ q ∈ pre, done q.1 = false ∧ q.1 ≠ p) → MC F0 (pre ++ (p, F) :: post) r (upd done p) w
  | [], _ => by rw [List.nil_append, MC, if_pos (upd_same done p)]; exact h
  | (q, G) :: t, hp => by
    have h1 := hp (q, G) (by simp)
    rw [List.cons_append, MC, if_neg (by rw [upd_ne done h1.2, h1.1]; simp)]
    exact MC.put h t fun x hx => hp x (by simp [hx])
theorem MC.get {F0 F : (Nat → Value) → World → Prop} {r : Nat → Value} {done : Nat → Bool} {w : World} {p : Nat} {post : List (Nat × ((Nat → Value) → World → Prop))} (hd : done p = true) : ∀ (pre : List (Nat × ((Nat → Value) → World → Prop))), (∀ q ∈ pre, done q.1 = false) → MC F0 (pre ++ (p, F) :: post) r done w → F r w
  | [], _, h => by rw [List.nil_append, MC, if_pos hd] at h; exact h
  | (q, G) :: t, hp, h => by
    have h1 := hp (q, G) (by simp)
    rw [List.cons_append, MC, if_neg (by rw [h1]; simp)] at h
    exact MC.get hd t (fun x hx => hp x (by simp [hx])) h
theorem MC.get0 {F0 : (Nat → Value) → World → Prop} {r : Nat → Value} {done : Nat → Bool} {w : World} : ∀ (pre : List (Nat × ((Nat → Value) → World → Prop))), (∀ q ∈ pre, done q.1 = false) → MC F0 pre r done w → F0 r w
  | [], _, h => h
  | (q, G) :: t, hp, h => by
    have h1 := hp (q, G) (by simp)
    rw [MC, if_neg (by rw [h1]; simp)] at h
    exact MC.get0 t (fun x hx => hp x (by simp [hx])) h
theorem ie_valL {P : Program} {ops : Array Oper} {Q : Exit → Act → World → Prop} {α : Type} {V : α → Nat → Value} {t0 t : Array Value} {done : Nat → Bool} {Mem : α → (Nat → Bool) → World → Prop} {i d : Nat} {o : Oper} {w : World} (r r' : α) (w' : World) (hB : dstB ops t0.size = true) (ho : ops[i]? = some o) (hg : Region.wanted o (yielded ops t) = true) (hd : o.dst = some d) (hs : Slots ops (V r) t0 t done)
    (he : ∀ k, done k = true → V r' k = V r k) (hM : Mem r' (upd done i) w') (hrun : (execOp (Act.mk t []).eval o).run P w = .ok (.value (V r' i)) w') : wpOp P ops Q i (IE ops V t0 Mem (upd done i)) ⟨t, []⟩ w := by
  unfold wpOp
  rw [ho]
  simp only
  rw [if_pos hg]
  left
  unfold Oper.wp
  rw [hrun]
  show IE ops V t0 Mem (upd done i) (Act.put ⟨t, []⟩ o.dst (V r' i)) w'
  rw [hd]
  exact ⟨r', _, rfl, (hs.re he).put hB ho hd, hM⟩
theorem MC.cut {F0 : (Nat → Value) → World → Prop} {r : Nat → Value} {done : Nat → Bool} {w : World} {post : List (Nat × ((Nat → Value) → World → Prop))} : ∀ (pre : List (Nat × ((Nat → Value) → World → Prop))), (∀ q ∈ pre, done q.1 = false) → MC F0 (pre ++ post) r done w → MC F0 post r done w
  | [], _, h => h
  | (q, G) :: t, hp, h => by
    have h1 := hp (q, G) (by simp)
    rw [List.cons_append, MC, if_neg (by rw [h1]; simp)] at h
    exact MC.cut t (fun x hx => hp x (by simp [hx])) h
theorem was {ops : Array Oper} {k j : Nat} {done : Nat → Bool} (h : waitB ops k j = true) (hc : Closed ops done) (hk : done k = true) : done j = true := by
  cases hj : done j with
  | true => rfl
  | false => rw [not_yet h hc hj] at hk; cases hk
end Go.Proofs.YtfigneaaeakbcaaDoor.Hm
