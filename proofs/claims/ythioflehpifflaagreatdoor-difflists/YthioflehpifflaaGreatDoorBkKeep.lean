/-
  THE BOOK, in Lean alone: how its lists go from one state to the next.
-/
import Derived.Test.YthioflehpifflaaGreatDoorBkRows
set_option autoImplicit false
namespace Go.Proofs.YthioflehpifflaaGreatDoor.Bk
open Go Go.RowKit

theorem nodup_mid {a b : List Nat} {x : Nat} (h : (a ++ x :: b).Nodup) : x ∉ a ++ b := by
  rw [List.nodup_append] at h
  obtain ⟨_, h2, h3⟩ := h
  intro hx
  rcases List.mem_append.1 hx with k | k
  · exact h3 x k x (by simp) rfl
  · exact (List.nodup_cons.1 h2).1 k

section
variable {α : Type} {en : List α → List Value} {e : TypeId} {w w' : World} {lo : Nat} {T T' : Nat → Nat} {ws : List (Lst α)} {os : List (Ot α)} {fr rs : List (Lst α)} {olds : List (Value × TypeId × List Value)}

/-- A step, whatever it touches. -/
theorem Kp.frmO {S : Nat → Prop} (h : Kp en e w lo T ws os fr rs olds) (F : Frm T S w w') (h10 : ¬ S 10) (hL : ∀ x ∈ ws ++ rs ++ fr, ¬ S (11 + x.id)) (hO : ∀ o ∈ os, S o.tag → HasV w' o.v o.c.length (en o.c)) (hT : ∀ b, b < w.heap.size → T' b = T b) : Kp en e w' lo T' ws os fr rs olds := by
  refine ⟨fun x hx => (h.waits x hx).frm F (hL x (by simp [hx])) h10 hT, fun x hx => ?_, fun x hx => (h.fresh x hx).frm F (hL x (by simp [hx])) hT, fun x hx => (h.rests x hx).frm F (hL x (by simp [hx])) h10 hT,
   fun x hx => ⟨rowB (h.elder x hx).1 ((h.elder x hx).2.same F h10), (h.elder x hx).2.frm F hT⟩, h.ids, h.apart, h.link⟩
  have k := h.outs x hx
  refine ⟨?_, k.2.1.block (k.2.2.2.1.same F h10), k.2.2.1.frm F hT, k.2.2.2.1.frm F hT, k.2.2.2.2⟩
  by_cases hs : S x.tag
  · exact hO x hx hs
  · exact k.1.block (k.2.2.1.same F hs)

/-- Other tags, where every list's tag stays. -/
theorem Kp.retag (h : Kp en e w lo T ws os fr rs olds) (hT : ∀ b, b < w.heap.size → 10 ≤ T b → T' b = T b) : Kp en e w lo T' ws os fr rs olds := by
  have tg : ∀ {v : Value} {t : Nat}, 10 ≤ t → Tg w T v t → Tg w T' v t := fun h10 k b hb => ⟨(k b hb).1, by rw [hT b (k b hb).1 (by rw [(k b hb).2]; exact h10)]; exact (k b hb).2⟩
  have ow : ∀ {x : Lst α}, x.own en e w lo T → x.own en e w lo T' := fun k => ⟨k.1, tg (by omega) k.2.1, k.2.2⟩
  have ok : ∀ {x : Lst α}, x.ok en e w lo T → x.ok en e w lo T' := fun k => ⟨ow k.1, k.2.1, tg (by omega) k.2.2.1, k.2.2.2⟩
  exact ⟨fun x hx => ok (h.waits x hx), fun x hx => ⟨(h.outs x hx).1, (h.outs x hx).2.1, tg (h.outs x hx).2.2.2.2.1 (h.outs x hx).2.2.1, tg (by omega) (h.outs x hx).2.2.2.1, (h.outs x hx).2.2.2.2⟩,
    fun x hx => ow (h.fresh x hx), fun x hx => ok (h.rests x hx), fun x hx => ⟨(h.elder x hx).1, tg (by omega) (h.elder x hx).2⟩, h.ids, h.apart, h.link⟩

/-- A new list is taken in. -/
def adopt (T : Nat → Nat) (v : Value) (t : Nat) : Nat → Nat := fun b => if v.ownBlock = some b then t else T b

theorem adopt_other {T : Nat → Nat} {v : Value} {t b : Nat} (h : v.ownBlock ≠ some b) : adopt T v t b = T b := by simp [adopt, h]

theorem Kp.adopt {x : Lst α} (h : Kp en e w lo T ws os [] [] olds) (hr : w.ownsRow lo e 71 x.v x.c.length (en x.c)) (hf : ∀ b, x.v.ownBlock = some b → T b = 0) (hc : x.c.length ≤ 1000000) (hm : x.mark ≤ 100000000)
    (hid : ∀ y ∈ ws, y.id ≠ x.id) (ho : ∀ y ∈ os, y.tag ≠ 11 + x.id) : Kp en e w lo (adopt T x.v (11 + x.id)) ws os [x] [] olds := by
  have k : Kp en e w lo (Bk.adopt T x.v (11 + x.id)) ws os [] [] olds := h.retag fun b _ h10 => adopt_other fun e => by have := hf b e; omega
  refine ⟨k.waits, k.outs, fun y hy => ?_, k.rests, k.elder, ?_, k.apart, fun o ho' y hy e => ?_⟩
  · obtain rfl := List.mem_singleton.1 hy
    exact ⟨hr, fun b hb => ⟨(hr.lt b hb).2, by simp [Bk.adopt, hb]⟩, hc, hm⟩
  · have := k.ids
    simp only [List.append_nil, List.map_nil, List.map_cons] at this ⊢
    rw [List.nodup_append]
    refine ⟨this, by simp, fun a ha b hb => ?_⟩
    obtain rfl := List.mem_singleton.1 hb
    obtain ⟨y, hy, rfl⟩ := List.mem_map.1 ha
    exact hid y hy
  · obtain rfl := List.mem_singleton.1 hy
    exact absurd e (ho o ho')

/-- Its note is there: it waits. -/
theorem Kp.note {x : Lst α} {nv : Value} {due : Nat} (h : Kp en e w lo T ws os [x] [] olds) (hr : w.ownsRow lo e 71 nv x.c.length (en x.c)) (ht : Tg w T nv 10) (hd : due ≤ 100000000) (ho : ∀ y ∈ os, y.tag ≠ 11 + x.id) :
    Kp en e w lo T (ws ++ [{ x with nv := nv, due := due }]) os [] [] olds := by
  refine ⟨fun y hy => ?_, h.outs, by simp, by simp, h.elder, ?_, fun o ho' y hy => ?_, by simp⟩
  · rcases List.mem_append.1 hy with hy | hy
    · exact h.waits y hy
    · obtain rfl := List.mem_singleton.1 hy
      exact ⟨h.fresh x (by simp), hr, ht, hd⟩
  · have := h.ids
    simpa using this
  · rw [List.append_nil] at hy
    rcases List.mem_append.1 hy with hy | hy
    · exact h.apart o ho' y (by simpa using hy)
    · obtain rfl := List.mem_singleton.1 hy
      exact ho o ho'

/-- The round's list. -/
theorem Kp.head {x : Lst α} (h : Kp en e w lo T ws os fr (x :: rs) olds) : x.ok en e w lo T ∧ Kp en e w lo T ws os fr rs olds ∧ (∀ y ∈ ws ++ rs ++ fr, y.id ≠ x.id) ∧ (∀ o ∈ os, o.tag ≠ 11 + x.id) := by
  have hn := h.ids
  refine ⟨h.rests x (by simp), ⟨h.waits, h.outs, h.fresh, fun y hy => h.rests y (by simp [hy]), h.elder, ?_, fun o ho y hy => h.apart o ho y (by rcases List.mem_append.1 hy with k | k <;> simp [k]), h.link⟩, fun y hy => ?_, fun o ho => h.apart o ho x (by simp)⟩
  · refine hn.sublist ?_
    refine List.Sublist.append (List.Sublist.map _ ?_) (List.Sublist.refl _)
    exact List.Sublist.append (List.Sublist.refl _) (List.sublist_cons_self _ _)
  · intro e'
    have h2 : (ws.map Lst.id ++ x.id :: (rs.map Lst.id ++ fr.map Lst.id)).Nodup := by simpa using hn
    apply nodup_mid h2
    rw [← e']
    simp only [List.mem_append, List.mem_map]
    simp only [List.mem_append] at hy
    rcases hy with (hy | hy) | hy
    · exact .inl ⟨y, hy, rfl⟩
    · exact .inr (.inl ⟨y, hy, rfl⟩)
    · exact .inr (.inr ⟨y, hy, rfl⟩)

/-- It waits on. -/
theorem Kp.wait {x : Lst α} (h : Kp en e w lo T ws os fr (x :: rs) olds) : Kp en e w lo T (ws ++ [x]) os fr rs olds := by
  have hh := h.head
  refine ⟨fun y hy => ?_, h.outs, h.fresh, hh.2.1.rests, h.elder, by have := h.ids; simpa using this, fun o ho y hy => h.apart o ho y (by simpa using hy), h.link⟩
  rcases List.mem_append.1 hy with hy | hy
  · exact h.waits y hy
  · obtain rfl := List.mem_singleton.1 hy
    exact hh.1

/-- It was written full: it is kept, and fresh. -/
theorem Kp.due {x : Lst α} {tv : Value} {c' : List α} (h : Kp en e w lo T ws os fr rs olds) (hid : ∀ y ∈ ws ++ rs ++ fr, y.id ≠ x.id) (ho : ∀ o ∈ os, o.tag ≠ 11 + x.id)
    (hx : Lst.own en e w lo T { x with c := c' }) (hr : w.ownsRow lo e 71 tv c'.length (en c')) (ht : Tg w T tv 10) :
    Kp en e w lo T ws (os ++ [⟨x.v, tv, c', 11 + x.id⟩]) (fr ++ [{ x with c := c' }]) rs olds := by
  refine ⟨h.waits, fun o hO => ?_, fun y hy => ?_, h.rests, h.elder, ?_, fun o hO y hy => ?_, fun o hO y hy e' => ?_⟩
  · rcases List.mem_append.1 hO with hO | hO
    · exact h.outs o hO
    · obtain rfl := List.mem_singleton.1 hO
      exact ⟨.of_row hx.1, .of_row hr, hx.2.1, ht, by show 10 ≤ 11 + x.id; omega, by have := hx.2.2.1; show c'.length ≤ _; have : c'.length ≤ 1000000 := this; omega⟩
  · rcases List.mem_append.1 hy with hy | hy
    · exact h.fresh y hy
    · obtain rfl := List.mem_singleton.1 hy
      exact hx
  · have h1 := h.ids
    rw [List.map_append (l₁ := fr), ← List.append_assoc, List.nodup_append]
    refine ⟨h1, by simp, fun a ha b hb => ?_⟩
    obtain rfl := List.mem_singleton.1 hb
    simp only [List.mem_append, List.mem_map] at ha
    rcases ha with ⟨y, hy, rfl⟩ | ⟨y, hy, rfl⟩
    · exact hid y (by simp only [List.mem_append]; exact .inl hy)
    · exact hid y (by simp only [List.mem_append]; exact .inr hy)
  · rcases List.mem_append.1 hO with hO | hO
    · exact h.apart o hO y hy
    · obtain rfl := List.mem_singleton.1 hO
      have := hid y (by rw [List.mem_append]; exact .inl hy)
      show 11 + x.id ≠ _
      omega
  · rcases List.mem_append.1 hO with hO | hO
    · rcases List.mem_append.1 hy with hy | hy
      · exact h.link o hO y hy e'
      · obtain rfl := List.mem_singleton.1 hy
        exact absurd e' (ho o hO)
    · obtain rfl := List.mem_singleton.1 hO
      rcases List.mem_append.1 hy with hy | hy
      · have := hid y (by rw [List.mem_append]; exact .inr hy)
        have e2 : 11 + x.id = 11 + y.id := e'
        omega
      · obtain rfl := List.mem_singleton.1 hy
        exact ⟨rfl, rfl⟩

/-- The fresh list of the round. -/
theorem Kp.top {x : Lst α} (h : Kp en e w lo T ws os (x :: fr) [] []) : x.own en e w lo T ∧ Kp en e w lo T ws os fr [] [] ∧ (∀ y ∈ ws ++ [] ++ fr, y.id ≠ x.id) ∧ (∀ o ∈ os, o.tag = 11 + x.id → o.v = x.v ∧ o.c = x.c) := by
  have hn := h.ids
  refine ⟨h.fresh x (by simp), ⟨h.waits, h.outs, fun y hy => h.fresh y (by simp [hy]), by simp, by simp, ?_, h.apart, fun o ho y hy => h.link o ho y (by simp [hy])⟩, fun y hy e' => ?_, fun o ho => h.link o ho x (by simp)⟩
  · refine hn.sublist ?_
    exact List.Sublist.append (List.Sublist.refl _) (List.Sublist.map _ (List.sublist_cons_self _ _))
  · have h2 : (ws.map Lst.id ++ x.id :: fr.map Lst.id).Nodup := by simpa using hn
    apply nodup_mid h2
    rw [← e']
    simp only [List.append_nil, List.mem_append] at hy
    simp only [List.mem_append, List.mem_map]
    rcases hy with hy | hy
    · exact .inl ⟨y, hy, rfl⟩
    · exact .inr ⟨y, hy, rfl⟩

/-- What was laid on is kept. -/
theorem Kp.more {o : Ot α} (h : Kp en e w lo T ws os fr [] []) (hid : ∀ y ∈ ws ++ [] ++ fr, o.tag ≠ 11 + y.id) (hx : o.ok en w T) : Kp en e w lo T ws (os ++ [o]) fr [] [] := by
  refine ⟨h.waits, fun p hp => ?_, h.fresh, h.rests, h.elder, h.ids, fun p hp y hy => ?_, fun p hp y hy e' => ?_⟩
  · rcases List.mem_append.1 hp with hp | hp
    · exact h.outs p hp
    · obtain rfl := List.mem_singleton.1 hp
      exact hx
  · rcases List.mem_append.1 hp with hp | hp
    · exact h.apart p hp y hy
    · obtain rfl := List.mem_singleton.1 hp
      exact hid y (by rw [List.mem_append]; exact .inl hy)
  · rcases List.mem_append.1 hp with hp | hp
    · exact h.link p hp y hy e'
    · obtain rfl := List.mem_singleton.1 hp
      exact absurd e' (hid y (by rw [List.mem_append]; exact .inr hy))

theorem Kp.drop_olds (h : Kp en e w lo T ws os fr rs olds) : Kp en e w lo T ws os fr rs [] := ⟨h.waits, h.outs, h.fresh, h.rests, by simp, h.ids, h.apart, h.link⟩

/-- The tags once the rows of what waits are laid aside. -/
def aside (T : Nat → Nat) : Nat → Nat := fun b => if T b = 4 ∨ T b = 5 ∨ T b = 7 ∨ T b = 8 then 10 else T b

theorem aside_big {T : Nat → Nat} {b : Nat} (h : 10 ≤ T b) : aside T b = T b := by
  unfold aside; rw [if_neg]; omega
theorem aside_zero {T : Nat → Nat} {b : Nat} : aside T b = 0 ↔ T b = 0 := by
  unfold aside; split <;> omega

theorem Kp.begin (h : Kp en e w lo T ws os [] [] []) (hol : ∀ x ∈ olds, w.ownsRow lo x.2.1 1 x.1 x.2.2.length x.2.2 ∧ Tg w (aside T) x.1 10) : Kp en e w lo (aside T) [] os [] ws olds := by
  have k : Kp en e w lo (aside T) ws os [] [] [] := h.retag fun b _ h10 => aside_big h10
  exact ⟨by simp, k.outs, by simp, k.waits, hol, by have := k.ids; simpa using this, by have := k.apart; simpa using this, by simp⟩
end

/-- All blocks from n on bear the tag t. -/
def upr (T : Nat → Nat) (n t : Nat) : Nat → Nat := fun b => if n ≤ b then t else T b
theorem upr_old {T : Nat → Nat} {n t b : Nat} (h : b < n) : upr T n t b = T b := by simp [upr, Nat.not_le.2 h]
theorem upr_new {T : Nat → Nat} {n t b : Nat} (h : n ≤ b) : upr T n t b = t := by simp [upr, h]

/-- No block beyond the world's end. -/
def cap (T : Nat → Nat) (n : Nat) : Nat → Nat := fun b => if b < n then T b else 0
theorem cap_old {T : Nat → Nat} {n b : Nat} (h : b < n) : cap T n b = T b := by simp [cap, h]
theorem cap_new {T : Nat → Nat} {n b : Nat} (h : n ≤ b) : cap T n b = 0 := by simp [cap, Nat.not_lt.2 h]

end Go.Proofs.YthioflehpifflaaGreatDoor.Bk
