/-
  RAW DATA: forests, and how they lie in memory.
-/
import Derived.Test.YtglnpmdigghibaaBase
namespace Go.Proofs.Ytglnpmdigghibaa
open Go.RowKit

/-- a byte as a cell -/
abbrev vb (n : Nat) : Value := .int .u8 (n : Int)
/-- a value: kind, mode, size, and the 32 bytes of its sum -/
structure Vd where
  kind : Int
  mode : Int
  size : Int
  sum : List Nat
  len : sum.length = 32
  deriving DecidableEq
/-- marks -/
structure Md where
  n0 : Int
  s0 : Int
  n1 : Int
  s1 : Int
  deriving DecidableEq
def vx (v : Vd) : List Value := .int .i64 v.kind :: .int .i64 v.mode :: .int .i64 v.size :: v.sum.map vb
def mx (m : Md) : List Value := [.int .i64 m.n0, .int .i64 m.s0, .int .i64 m.n1, .int .i64 m.s1]
theorem vx_len (v : Vd) : (vx v).length = 35 := by simp [vx, v.len]
theorem mx_len (m : Md) : (mx m).length = 4 := rfl
theorem vb_inj {a b : List Nat} (h : a.map vb = b.map vb) : a = b := by
  refine List.map_inj_right (f := vb) (fun x y e => ?_) |>.1 h
  simp only [vb, Value.int.injEq, true_and] at e
  exact_mod_cast e
theorem vx_inj {a b : Vd} (h : vx a = vx b) : a = b := by
  obtain ⟨k, m, s, l, hl⟩ := a
  obtain ⟨k', m', s', l', hl'⟩ := b
  simp only [vx, List.cons.injEq, Value.int.injEq, true_and] at h
  obtain ⟨rfl, rfl, rfl, h⟩ := h
  obtain rfl := vb_inj h
  rfl
theorem mx_inj {a b : Md} (h : mx a = mx b) : a = b := by
  obtain ⟨k, m, s, l⟩ := a
  obtain ⟨k', m', s', l'⟩ := b
  simp only [mx, List.cons.injEq, Value.int.injEq, true_and, and_true] at h
  obtain ⟨rfl, rfl, rfl, rfl⟩ := h
  rfl

/-- a forest: things with names, each with what hangs on it -/
inductive F where
  | nil
  | cons (nm : ByteArray) (v : Vd) (m : Md) (kids rest : F)
  deriving DecidableEq

namespace F
def len : F → Nat
  | nil => 0
  | cons _ _ _ _ r => r.len + 1
/-- how many things -/
def size : F → Nat
  | nil => 0
  | cons _ _ _ k r => k.size + r.size + 1
def drop : F → Nat → F
  | f, 0 => f
  | nil, _ + 1 => nil
  | cons _ _ _ _ r, k + 1 => r.drop k
def take : F → Nat → F
  | _, 0 => nil
  | nil, _ + 1 => nil
  | cons nm v m k r, n + 1 => cons nm v m k (r.take n)
def app : F → F → F
  | nil, g => g
  | cons nm v m k r, g => cons nm v m k (r.app g)
theorem len_le_size : ∀ f : F, f.len ≤ f.size
  | nil => Nat.le_refl _
  | cons _ _ _ k r => by have := len_le_size r; simp only [len, size]; omega
theorem drop_zero (f : F) : f.drop 0 = f := by cases f <;> rfl
theorem drop_nil (k : Nat) : (nil : F).drop k = nil := by cases k <;> rfl
theorem drop_len : ∀ (f : F) (k : Nat), (f.drop k).len = f.len - k
  | f, 0 => by rw [drop_zero]; rfl
  | nil, _ + 1 => by simp [drop, len]
  | cons _ _ _ _ r, k + 1 => by rw [drop, drop_len r k, len]; omega
theorem drop_size : ∀ (f : F) (k : Nat), (f.drop k).size ≤ f.size
  | f, 0 => by rw [drop_zero]; exact Nat.le_refl _
  | nil, _ + 1 => by simp [drop]
  | cons _ _ _ _ r, k + 1 => by rw [drop, size]; have := drop_size r k; omega
theorem drop_more : ∀ (f : F) (k : Nat), k < f.len → ∃ nm v m ks, f.drop k = cons nm v m ks (f.drop (k + 1))
  | nil, k, h => by simp [len] at h
  | cons nm v m ks r, 0, _ => ⟨nm, v, m, ks, by rw [drop_zero, drop, drop_zero]⟩
  | cons nm v m ks r, k + 1, h => by
    obtain ⟨nm', v', m', ks', e⟩ := drop_more r k (by simp [len] at h; omega)
    exact ⟨nm', v', m', ks', e⟩
theorem drop_all : ∀ (f : F) (k : Nat), f.len ≤ k → f.drop k = nil
  | nil, k, _ => drop_nil k
  | cons _ _ _ _ r, 0, h => by simp [len] at h
  | cons _ _ _ _ r, k + 1, h => drop_all r k (by simp [len] at h; omega)
theorem app_nil : ∀ f : F, f.app nil = f
  | nil => rfl
  | cons _ _ _ _ r => by rw [app, app_nil r]
theorem app_len : ∀ f g : F, (f.app g).len = f.len + g.len
  | nil, g => by simp [app, len]
  | cons _ _ _ _ r, g => by rw [app, len, app_len r g, len]; omega
theorem take_zero (f : F) : f.take 0 = nil := by cases f <;> rfl
theorem take_more : ∀ (f : F) (k : Nat) nm v m ks r, f.drop k = cons nm v m ks r → f.take (k + 1) = (f.take k).app (cons nm v m ks nil)
  | f, 0, nm, v, m, ks, r, h => by rw [drop_zero] at h; subst h; show cons nm v m ks (r.take 0) = _; rw [take_zero, take_zero]; rfl
  | nil, k + 1, _, _, _, _, _, h => by cases h
  | cons a b c d r, k + 1, nm, v, m, ks, r', h => by
    show cons a b c d (r.take (k + 1)) = cons a b c d ((r.take k).app _)
    rw [take_more r k nm v m ks r' h]
theorem take_all : ∀ (f : F) (k : Nat), f.len ≤ k → f.take k = f
  | nil, 0, _ => rfl
  | nil, _ + 1, _ => rfl
  | cons _ _ _ _ r, 0, h => by simp [len] at h
  | cons a b c d r, k + 1, h => by show cons a b c d (r.take k) = _; rw [take_all r k (by simp [len] at h; omega)]
theorem take_len : ∀ (f : F) (k : Nat), k ≤ f.len → (f.take k).len = k
  | f, 0, _ => by cases f <;> rfl
  | nil, _ + 1, h => by simp [len] at h
  | cons _ _ _ _ r, k + 1, h => by show (r.take k).len + 1 = _; rw [take_len r k (by simp [len] at h; omega)]
theorem app_take_drop : ∀ (f : F) (k : Nat), (f.take k).app (f.drop k) = f
  | f, 0 => by rw [drop_zero]; cases f <;> rfl
  | nil, _ + 1 => rfl
  | cons a b c d r, k + 1 => by show cons a b c d ((r.take k).app (r.drop k)) = _; rw [app_take_drop r k]
theorem app_assoc : ∀ f g h : F, (f.app g).app h = f.app (g.app h)
  | nil, _, _ => rfl
  | cons a b c d r, g, h => by simp only [app]; rw [app_assoc r g h]
end F

/-- a thing's 41 cells -/
def nc (nm : ByteArray) (v : Vd) (m : Md) (kv : Value) : Array Value := (Value.string nm :: (vx v ++ (mx m ++ [kv]))).toArray
theorem nc_size (nm : ByteArray) (v : Vd) (m : Md) (kv : Value) : (nc nm v m kv).size = 41 := by simp [nc, vx_len, mx_len]
theorem nc_name (nm : ByteArray) (v : Vd) (m : Md) (kv : Value) : (nc nm v m kv)[0]? = some (.string nm) := by simp [nc]
theorem nc_kids (nm : ByteArray) (v : Vd) (m : Md) (kv : Value) : (nc nm v m kv)[40]? = some kv := by
  simp only [nc, List.getElem?_toArray, List.getElem?_cons_succ]
  rw [List.getElem?_append_right (by simp [vx_len]), List.getElem?_append_right (by simp [vx_len, mx_len])]
  simp [vx_len, mx_len]
theorem nc_val (nm : ByteArray) (v : Vd) (m : Md) (kv : Value) : (nc nm v m kv).extract 1 36 = (vx v).toArray := by
  simp only [nc, List.extract_toArray, List.extract_eq_take_drop, List.drop_succ_cons, List.drop_zero]
  rw [List.take_append_of_le_length (by simp [vx_len]), List.take_of_length_le (by simp [vx_len])]
theorem nc_marks (nm : ByteArray) (v : Vd) (m : Md) (kv : Value) : (nc nm v m kv).extract 36 40 = (mx m).toArray := by
  simp only [nc, List.extract_toArray, List.extract_eq_take_drop, List.drop_succ_cons]
  rw [List.drop_append_of_le_length (by simp [vx_len]), List.drop_of_length_le (by simp [vx_len])]
  simp [mx]

/-- the row of a forest, from a place on -/
def HasR (w : World) : F → Nat → Nat → Prop
  | .nil, _, _ => True
  | .cons nm v m kids rest, g, o => (∃ a cap, (∀ j u, (nc nm v m (.slice a kids.len cap))[j]? = some u → w.cell? ⟨g, o + j, none⟩ = some u) ∧ (kids.len ≤ cap ∧ (kids = .nil ∨ ∃ g' o', a = some ⟨g', o', none⟩ ∧ HasR w kids g' o'))) ∧ HasR w rest g (o + 41)
/-- a slice of a forest -/
def HasS (w : World) (v : Value) (f : F) : Prop := ∃ a cap, v = .slice a f.len cap ∧ f.len ≤ cap ∧ (f = .nil ∨ ∃ g o, a = some ⟨g, o, none⟩ ∧ HasR w f g o)
/-- a thing as a value -/
def HasN (w : World) (c : Array Value) (nm : ByteArray) (v : Vd) (m : Md) (kids : F) : Prop := ∃ kv, c = nc nm v m kv ∧ HasS w kv kids

theorem HasR.drop {w : World} : ∀ {f : F} {k g o : Nat}, HasR w f g o → HasR w (f.drop k) g (o + k * 41)
  | f, 0, g, o, h => by rw [F.drop_zero]; exact h
  | .nil, k + 1, g, o, _ => trivial
  | .cons nm v m ks r, k + 1, g, o, h => by
    have := HasR.drop (k := k) h.2
    rw [show o + 41 + k * 41 = o + (k + 1) * 41 by omega] at this
    exact this
theorem HasR.block {w w' : World} (hb : ∀ a : Addr, a.block < w.heap.size → w'.cell? a = w.cell? a) : ∀ {f : F} {g o : Nat}, HasR w f g o → HasR w' f g o
  | .nil, _, _, _ => trivial
  | .cons nm v m ks r, g, o, h => by
    obtain ⟨⟨a, cap, hc, hl, hk⟩, hr⟩ := h
    refine ⟨⟨a, cap, fun j u hj => ?_, hl, ?_⟩, HasR.block hb hr⟩
    · have h1 := hc j u hj
      rw [hb _ (World.block_lt_of_cell? w _ h1)]
      exact h1
    · rcases hk with hk | ⟨g', o', ha, hk⟩
      · exact .inl hk
      · exact .inr ⟨g', o', ha, HasR.block hb hk⟩
theorem HasS.block {w w' : World} {v : Value} {f : F} (h : HasS w v f) (hb : ∀ a : Addr, a.block < w.heap.size → w'.cell? a = w.cell? a) : HasS w' v f := by
  obtain ⟨a, cap, hv, hl, h⟩ := h
  refine ⟨a, cap, hv, hl, ?_⟩
  rcases h with h | ⟨g, o, ha, h⟩
  · exact .inl h
  · exact .inr ⟨g, o, ha, h.block hb⟩
theorem HasS.below {w w' : World} {v : Value} {f : F} (h : HasS w v f) (hb : Below w.heap.size w w') : HasS w' v f := h.block fun _ ha => hb.cell ha
theorem HasS.drew {w w' : World} {v : Value} {f : F} (h : HasS w v f) (hb : Drew w w') : HasS w' v f := h.below hb.below
theorem HasN.block {w w' : World} {c : Array Value} {nm : ByteArray} {v : Vd} {m : Md} {f : F} (h : HasN w c nm v m f) (hb : ∀ a : Addr, a.block < w.heap.size → w'.cell? a = w.cell? a) : HasN w' c nm v m f := by
  obtain ⟨kv, hc, h⟩ := h
  exact ⟨kv, hc, h.block hb⟩
theorem HasN.below {w w' : World} {c : Array Value} {nm : ByteArray} {v : Vd} {m : Md} {f : F} (h : HasN w c nm v m f) (hb : Below w.heap.size w w') : HasN w' c nm v m f := h.block fun _ ha => hb.cell ha
/-- the slice's form, and its k-th thing -/
theorem HasS.form {w : World} {v : Value} {f : F} (h : HasS w v f) : ∃ a cap, v = .slice a f.len cap ∧ f.len ≤ cap := by
  obtain ⟨a, cap, hv, hl, _⟩ := h
  exact ⟨a, cap, hv, hl⟩
theorem HasS.at {w : World} {v : Value} {f : F} (h : HasS w v f) {k : Nat} (hk : k < f.len) : ∃ g o cap nm vv m ks c, v = .slice (some ⟨g, o, none⟩) f.len cap ∧ f.drop k = .cons nm vv m ks (f.drop (k + 1)) ∧ HasN w c nm vv m ks ∧ (∀ j u, c[j]? = some u → w.cell? ⟨g, o + k * 41 + j, none⟩ = some u) := by
  obtain ⟨a, cap, hv, hl, h⟩ := h
  rcases h with h | ⟨g, o, ha, h⟩
  · subst h; simp [F.len] at hk
  · obtain ⟨nm, vv, m, ks, e⟩ := F.drop_more f k hk
    have h1 := h.drop (k := k)
    rw [e] at h1
    obtain ⟨⟨a', cap', hc, hl', hks⟩, _⟩ := h1
    subst ha
    exact ⟨g, o, cap, nm, vv, m, ks, _, hv, e, ⟨_, rfl, a', cap', rfl, hl', hks⟩, hc⟩
end Go.Proofs.Ytglnpmdigghibaa
