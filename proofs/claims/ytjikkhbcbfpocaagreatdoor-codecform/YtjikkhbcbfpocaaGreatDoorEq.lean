import Derived.Laws.RangeAny
import Derived.Laws.Strings
import Derived.Laws.Concat
import Derived.Lib.Strings
import Derived.Test.YtjikkhbcbfpocaaGreatDoorProg
import Derived.WalkKit
import Derived.WalkSpells
import Derived.WalkLawsBesides
import Derived.Lib.SliceRun
import Derived.KernelRfl
import Derived.Deep.QuietTactic
import Derived.BigQuiet
import Derived.Deep.MidRow
import Derived.RangeFuncRecord
import Derived.Deep.RegionWith
import Derived.Deep.RegionHeld3
import Derived.Deep.DeepCutAuto
import Derived.Deep.RegionLaw
set_option maxRecDepth 100000
namespace Go.Proofs.YtjikkhbcbfpocaaGreatDoor
open Go
abbrev By := List UInt8
def cut : By → By × List By
 | [] => ([], [])
 | x :: xs => if x = 47 then ([], (cut xs).1 :: (cut xs).2) else (x :: (cut xs).1, (cut xs).2)
def joinL : List By → By
 | [] => []
 | [x] => x
 | x :: y :: t => x ++ 47 :: joinL (y :: t)
theorem decode_skip (s : ByteArray) (pos k : Nat) (h1 : pos < k) (h2 : k < pos + (Utf8.decode s pos).2) : k < s.size ∧ 128 ≤ (s.get! k).toNat := by
  have key : ∀ j, pos + j < s.size → (s.get! (pos + j)).toNat / 64 = 2 → k = pos + j → k < s.size ∧ 128 ≤ (s.get! k).toNat := by
    rintro j a b rfl; exact ⟨a, by omega⟩
  revert h2
  simp only [Utf8.decode, Bool.and_eq_true, beq_iff_eq, decide_eq_true_eq]
  repeat' split
  all_goals intro h2
  all_goals simp only at h2
  all_goals first
    | omega
    | (rename_i c _; exact key 1 c.2.1 c.2.2 (by omega))
    | (rename_i c _
       by_cases e : k = pos + 1
       · exact key 1 c.1.2.1 c.1.2.2 e
       · exact key 2 c.2.1 c.2.2 (by omega))
    | (rename_i c _
       by_cases e : k = pos + 1
       · exact key 1 c.1.1.2.1 c.1.1.2.2 e
       · by_cases e : k = pos + 2
         · exact key 2 c.1.2.1 c.1.2.2 e
         · exact key 3 c.2.1 c.2.2 (by omega))
theorem decode_small (s : ByteArray) (pos : Nat) (h : pos < s.size) (c : Nat) (hc : c < 128) : (Utf8.decode s pos).1 = c ↔ (s.get! pos).toNat = c := by
  have e : s.get! pos = s[pos]'h := get_at s pos h
  by_cases ha : (s[pos]'h).toNat < 128
  · rw [decode_ascii s pos h ha, e]
  · have := (decode_high s pos h (by omega)).1
    rw [e]; omega
theorem decode_wide (s : ByteArray) (pos : Nat) (h : pos < s.size) : 1 ≤ (Utf8.decode s pos).2 := by
  by_cases ha : (s[pos]'h).toNat < 128
  · rw [decode_ascii s pos h ha]; exact Nat.le_refl _
  · exact (decode_high s pos h (by omega)).2
theorem decode_in (s : ByteArray) (pos : Nat) (h : pos < s.size) : pos + (Utf8.decode s pos).2 ≤ s.size := by
  have h1 := decode_wide s pos h
  by_cases e : (Utf8.decode s pos).2 = 1
  · omega
  · have := (decode_skip s pos (pos + (Utf8.decode s pos).2 - 1) (by omega) (by omega)).1
    omega
abbrev tl (s : ByteArray) : By := s.toList
theorem tl_len (s : ByteArray) : (tl s).length = s.size := by simp [tl, ByteArray.toList_eq]
theorem tl_at (s : ByteArray) (k : Nat) (h : k < s.size) : (tl s)[k]? = some (s[k]'h) := by
  rw [tl, ByteArray.toList_eq, List.getElem?_eq_some_iff]
  exact ⟨by simpa using h, by simp [ByteArray.getElem_eq_getElem_data]⟩
theorem tl_get (s : ByteArray) (k : Nat) (h : k < s.size) : (tl s)[k]? = some (s.get! k) := by
  have : s.get! k = s[k]'h := get_at s k h
  rw [this]; exact tl_at s k h
theorem tl_mem {s : ByteArray} {x : UInt8} (h : x ∈ tl s) : ∃ k, ∃ h : k < s.size, s[k]'h = x := by
  obtain ⟨k, hk, e⟩ := List.mem_iff_getElem.1 h
  have hk' : k < s.size := by rw [tl_len] at hk; exact hk
  refine ⟨k, hk', ?_⟩
  have := tl_at s k hk'
  rw [List.getElem?_eq_getElem hk] at this
  rw [← Option.some.inj this, e]
theorem decode_none (s : ByteArray) (pos c : Nat) (h : pos < s.size) (hc : c < 128) (hn : (Utf8.decode s pos).1 ≠ c) : ∀ k, pos ≤ k → k < pos + (Utf8.decode s pos).2 → (s.get! k).toNat ≠ c := by
  intro k h1 h2 e
  by_cases h3 : k = pos
  · subst h3; exact hn ((decode_small s k h c hc).2 e)
  · have := (decode_skip s pos k (by omega) h2).2; omega
def nameB (l : By) : Bool := decide (1 ≤ l.length ∧ l.length ≤ 255 ∧ l ≠ [46] ∧ l ≠ [46, 46] ∧ ∀ x ∈ l, x ≠ 47 ∧ x ≠ 0)
theorem take_more {α : Type} {a b : List α} {k : Nat} {x : α} (h : a.take k = b.take k) (ha : a[k]? = some x) (hb : b[k]? = some x) : a.take (k + 1) = b.take (k + 1) := by
 rw [List.take_add_one, List.take_add_one, h, ha, hb]
end Go.Proofs.YtjikkhbcbfpocaaGreatDoor
namespace Go.Proofs.YtjikkhbcbfpocaaGreatDoor
open Go.RowKit
def iOf (v : Value) : Nat := match v with | .int _ i => i.toNat | _ => 0
@[simp] theorem iOf_int (k : IntKind) (i : Int) : iOf (.int k i) = i.toNat := rfl
def Hid (p : Prop) : Prop := p
theorem Hid.out {p : Prop} (h : Hid p) : p := h
def Drew (w w' : World) : Prop := ∃ n, w' = w.drewN n
theorem Drew.refl (w : World) : Drew w w := ⟨0, rfl⟩
theorem Drew.more {w w' : World} (h : Drew w w') (n : Nat) : Drew w (w'.drewN n) := by
 obtain ⟨m, rfl⟩ := h
 exact ⟨m + n, by rw [World.drewN_drewN]⟩
theorem Drew.trans {w w' w'' : World} (h : Drew w w') (k : Drew w' w'') : Drew w w'' := by
 obtain ⟨n, rfl⟩ := k
 exact h.more n
theorem Drew.heap {w w' : World} (h : Drew w w') : w'.heap = w.heap := by
 obtain ⟨n, rfl⟩ := h
 simp
theorem Drew.cell {w w' : World} (h : Drew w w') (p : Addr) : w'.cell? p = w.cell? p := by
 obtain ⟨n, rfl⟩ := h
 simp
theorem Drew.below {w w' : World} (h : Drew w w') : Below w.heap.size w w' := by
 obtain ⟨n, rfl⟩ := h
 exact below_drewN (Below.refl _ w) n
abbrev vb (n : Nat) : Value := .int .u8 (n : Int)
structure Vd where
 kind : Int
 mode : Int
 size : Int
 sum : List Nat
 len : sum.length = 32
 deriving DecidableEq
structure Md where
 n0 : Int
 s0 : Int
 n1 : Int
 s1 : Int
 deriving DecidableEq
def vx (v : Vd) : List Value := .int .i64 v.kind :: .int .i64 v.mode :: .int .i64 v.size :: v.sum.map vb
def mx (m : Md) : List Value := [.int .i64 m.n0, .int .i64 m.s0, .int .i64 m.n1, .int .i64 m.s1]
theorem vx_len (v : Vd) : (vx v).length = 35 := by simp [vx, v.len]
theorem mx_len (m : Md) : (mx m).length = 4 := rfl
inductive F where
 | nil
 | cons (nm : ByteArray) (v : Vd) (m : Md) (kids rest : F)
 deriving DecidableEq
namespace F
def len : F → Nat
 | nil => 0
 | cons _ _ _ _ r => r.len + 1
def size : F → Nat
 | nil => 0
 | cons _ _ _ k r => k.size + r.size + 1
def drop : F → Nat → F
 | f, 0 => f
 | nil, _ + 1 => nil
 | cons _ _ _ _ r, k + 1 => r.drop k
def take : F → Nat → F
 | _, 0 => nil
 | nil, _ + 1 => nil
 | cons nm v m k r, n + 1 => cons nm v m k (r.take n)
def app : F → F → F
 | nil, g => g
 | cons nm v m k r, g => cons nm v m k (r.app g)
theorem len_le_size : ∀ f : F, f.len ≤ f.size
 | nil => Nat.le_refl _
 | cons _ _ _ k r => by have := len_le_size r; simp only [len, size]; omega
theorem drop_zero (f : F) : f.drop 0 = f := by cases f <;> rfl
theorem drop_nil (k : Nat) : (nil : F).drop k = nil := by cases k <;> rfl
theorem drop_len : ∀ (f : F) (k : Nat), (f.drop k).len = f.len - k
 | f, 0 => by rw [drop_zero]; rfl
 | nil, _ + 1 => by simp [drop, len]
 | cons _ _ _ _ r, k + 1 => by rw [drop, drop_len r k, len]; omega
theorem drop_size : ∀ (f : F) (k : Nat), (f.drop k).size ≤ f.size
 | f, 0 => by rw [drop_zero]; exact Nat.le_refl _
 | nil, _ + 1 => by simp [drop]
 | cons _ _ _ _ r, k + 1 => by rw [drop, size]; have := drop_size r k; omega
theorem drop_more : ∀ (f : F) (k : Nat), k < f.len → ∃ nm v m ks, f.drop k = cons nm v m ks (f.drop (k + 1))
 | nil, k, h => by simp [len] at h
 | cons nm v m ks r, 0, _ => ⟨nm, v, m, ks, by rw [drop_zero, drop, drop_zero]⟩
 | cons nm v m ks r, k + 1, h => by
  obtain ⟨nm', v', m', ks', e⟩ := drop_more r k (by simp [len] at h; omega)
  exact ⟨nm', v', m', ks', e⟩
theorem drop_all : ∀ (f : F) (k : Nat), f.len ≤ k → f.drop k = nil
 | nil, k, _ => drop_nil k
 | cons _ _ _ _ r, 0, h => by simp [len] at h
 | cons _ _ _ _ r, k + 1, h => drop_all r k (by simp [len] at h; omega)
theorem app_nil : ∀ f : F, f.app nil = f
 | nil => rfl
 | cons _ _ _ _ r => by rw [app, app_nil r]
theorem app_len : ∀ f g : F, (f.app g).len = f.len + g.len
 | nil, g => by simp [app, len]
 | cons _ _ _ _ r, g => by rw [app, len, app_len r g, len]; omega
theorem take_zero (f : F) : f.take 0 = nil := by cases f <;> rfl
theorem take_more : ∀ (f : F) (k : Nat) nm v m ks r, f.drop k = cons nm v m ks r → f.take (k + 1) = (f.take k).app (cons nm v m ks nil)
 | f, 0, nm, v, m, ks, r, h => by rw [drop_zero] at h; subst h; show cons nm v m ks (r.take 0) = _; rw [take_zero, take_zero]; rfl
 | nil, k + 1, _, _, _, _, _, h => by cases h
 | cons a b c d r, k + 1, nm, v, m, ks, r', h => by
  show cons a b c d (r.take (k + 1)) = cons a b c d ((r.take k).app _)
  rw [take_more r k nm v m ks r' h]
theorem take_all : ∀ (f : F) (k : Nat), f.len ≤ k → f.take k = f
 | nil, 0, _ => rfl
 | nil, _ + 1, _ => rfl
 | cons _ _ _ _ r, 0, h => by simp [len] at h
 | cons a b c d r, k + 1, h => by show cons a b c d (r.take k) = _; rw [take_all r k (by simp [len] at h; omega)]
theorem take_len : ∀ (f : F) (k : Nat), k ≤ f.len → (f.take k).len = k
 | f, 0, _ => by cases f <;> rfl
 | nil, _ + 1, h => by simp [len] at h
 | cons _ _ _ _ r, k + 1, h => by show (r.take k).len + 1 = _; rw [take_len r k (by simp [len] at h; omega)]
theorem app_take_drop : ∀ (f : F) (k : Nat), (f.take k).app (f.drop k) = f
 | f, 0 => by rw [drop_zero]; cases f <;> rfl
 | nil, _ + 1 => rfl
 | cons a b c d r, k + 1 => by show cons a b c d ((r.take k).app (r.drop k)) = _; rw [app_take_drop r k]
theorem app_assoc : ∀ f g h : F, (f.app g).app h = f.app (g.app h)
 | nil, _, _ => rfl
 | cons a b c d r, g, h => by simp only [app]; rw [app_assoc r g h]
end F
def nc (nm : ByteArray) (v : Vd) (m : Md) (kv : Value) : Array Value := (Value.string nm :: (vx v ++ (mx m ++ [kv]))).toArray
theorem nc_size (nm : ByteArray) (v : Vd) (m : Md) (kv : Value) : (nc nm v m kv).size = 41 := by simp [nc, vx_len, mx_len]
theorem nc_name (nm : ByteArray) (v : Vd) (m : Md) (kv : Value) : (nc nm v m kv)[0]? = some (.string nm) := by simp [nc]
theorem nc_kids (nm : ByteArray) (v : Vd) (m : Md) (kv : Value) : (nc nm v m kv)[40]? = some kv := by
 simp only [nc, List.getElem?_toArray, List.getElem?_cons_succ]
 rw [List.getElem?_append_right (by simp [vx_len]), List.getElem?_append_right (by simp [vx_len, mx_len])]
 simp [vx_len, mx_len]
theorem nc_val (nm : ByteArray) (v : Vd) (m : Md) (kv : Value) : (nc nm v m kv).extract 1 36 = (vx v).toArray := by
 simp only [nc, List.extract_toArray, List.extract_eq_take_drop, List.drop_succ_cons, List.drop_zero]
 rw [List.take_append_of_le_length (by simp [vx_len]), List.take_of_length_le (by simp [vx_len])]
theorem nc_marks (nm : ByteArray) (v : Vd) (m : Md) (kv : Value) : (nc nm v m kv).extract 36 40 = (mx m).toArray := by
 simp only [nc, List.extract_toArray, List.extract_eq_take_drop, List.drop_succ_cons]
 rw [List.drop_append_of_le_length (by simp [vx_len]), List.drop_of_length_le (by simp [vx_len])]
 simp [mx]
def HasR (w : World) : F → Nat → Nat → Prop
 | .nil, _, _ => True
 | .cons nm v m kids rest, g, o => (∃ a cap, (∀ j u, (nc nm v m (.slice a kids.len cap))[j]? = some u → w.cell? ⟨g, o + j, none⟩ = some u) ∧ (kids.len ≤ cap ∧ (kids = .nil ∨ ∃ g' o', a = some ⟨g', o', none⟩ ∧ HasR w kids g' o'))) ∧ HasR w rest g (o + 41)
def HasS (w : World) (v : Value) (f : F) : Prop := ∃ a cap, v = .slice a f.len cap ∧ f.len ≤ cap ∧ (f = .nil ∨ ∃ g o, a = some ⟨g, o, none⟩ ∧ HasR w f g o)
def HasN (w : World) (c : Array Value) (nm : ByteArray) (v : Vd) (m : Md) (kids : F) : Prop := ∃ kv, c = nc nm v m kv ∧ HasS w kv kids
theorem HasR.drop {w : World} : ∀ {f : F} {k g o : Nat}, HasR w f g o → HasR w (f.drop k) g (o + k * 41)
 | f, 0, g, o, h => by rw [F.drop_zero]; exact h
 | .nil, k + 1, g, o, _ => trivial
 | .cons nm v m ks r, k + 1, g, o, h => by
  have := HasR.drop (k := k) h.2
  rw [show o + 41 + k * 41 = o + (k + 1) * 41 by omega] at this
  exact this
theorem HasR.block {w w' : World} (hb : ∀ a : Addr, a.block < w.heap.size → w'.cell? a = w.cell? a) : ∀ {f : F} {g o : Nat}, HasR w f g o → HasR w' f g o
 | .nil, _, _, _ => trivial
 | .cons nm v m ks r, g, o, h => by
  obtain ⟨⟨a, cap, hc, hl, hk⟩, hr⟩ := h
  refine ⟨⟨a, cap, fun j u hj => ?_, hl, ?_⟩, HasR.block hb hr⟩
  ·have h1 := hc j u hj
   rw [hb _ (World.block_lt_of_cell? w _ h1)]
   exact h1
  ·rcases hk with hk | ⟨g', o', ha, hk⟩
   ·exact .inl hk
   ·exact .inr ⟨g', o', ha, HasR.block hb hk⟩
theorem HasS.block {w w' : World} {v : Value} {f : F} (h : HasS w v f) (hb : ∀ a : Addr, a.block < w.heap.size → w'.cell? a = w.cell? a) : HasS w' v f := by
 obtain ⟨a, cap, hv, hl, h⟩ := h
 refine ⟨a, cap, hv, hl, ?_⟩
 rcases h with h | ⟨g, o, ha, h⟩
 ·exact .inl h
 ·exact .inr ⟨g, o, ha, h.block hb⟩
theorem HasS.below {w w' : World} {v : Value} {f : F} (h : HasS w v f) (hb : Below w.heap.size w w') : HasS w' v f := h.block fun _ ha => hb.cell ha
theorem HasS.drew {w w' : World} {v : Value} {f : F} (h : HasS w v f) (hb : Drew w w') : HasS w' v f := h.below hb.below
theorem HasN.block {w w' : World} {c : Array Value} {nm : ByteArray} {v : Vd} {m : Md} {f : F} (h : HasN w c nm v m f) (hb : ∀ a : Addr, a.block < w.heap.size → w'.cell? a = w.cell? a) : HasN w' c nm v m f := by
 obtain ⟨kv, hc, h⟩ := h
 exact ⟨kv, hc, h.block hb⟩
theorem HasN.below {w w' : World} {c : Array Value} {nm : ByteArray} {v : Vd} {m : Md} {f : F} (h : HasN w c nm v m f) (hb : Below w.heap.size w w') : HasN w' c nm v m f := h.block fun _ ha => hb.cell ha
theorem HasS.form {w : World} {v : Value} {f : F} (h : HasS w v f) : ∃ a cap, v = .slice a f.len cap ∧ f.len ≤ cap := by
 obtain ⟨a, cap, hv, hl, _⟩ := h
 exact ⟨a, cap, hv, hl⟩
theorem HasS.at {w : World} {v : Value} {f : F} (h : HasS w v f) {k : Nat} (hk : k < f.len) : ∃ g o cap nm vv m ks c, v = .slice (some ⟨g, o, none⟩) f.len cap ∧ f.drop k = .cons nm vv m ks (f.drop (k + 1)) ∧ HasN w c nm vv m ks ∧ (∀ j u, c[j]? = some u → w.cell? ⟨g, o + k * 41 + j, none⟩ = some u) := by
 obtain ⟨a, cap, hv, hl, h⟩ := h
 rcases h with h | ⟨g, o, ha, h⟩
 ·subst h; simp [F.len] at hk
 ·obtain ⟨nm, vv, m, ks, e⟩ := F.drop_more f k hk
  have h1 := h.drop (k := k)
  rw [e] at h1
  obtain ⟨⟨a', cap', hc, hl', hks⟩, _⟩ := h1
  subst ha
  exact ⟨g, o, cap, nm, vv, m, ks, _, hv, e, ⟨_, rfl, a', cap', rfl, hl', hks⟩, hc⟩
def Lies (w : World) (g o : Nat) (c : Array Value) : Prop := ∀ j u, c[j]? = some u → w.cell? ⟨g, o + j, none⟩ = some u
theorem Lies.block {w w' : World} {g o : Nat} {c : Array Value} (h : Lies w g o c) (hb : ∀ a : Addr, a.block < w.heap.size → w'.cell? a = w.cell? a) : Lies w' g o c := fun j u hj => by
 have h1 := h j u hj
 rw [hb _ (World.block_lt_of_cell? w _ h1)]
 exact h1
theorem Lies.below {w w' : World} {g o : Nat} {c : Array Value} (h : Lies w g o c) (hb : Below w.heap.size w w') : Lies w' g o c := h.block fun _ ha => hb.cell ha
theorem Lies.drew {w w' : World} {g o : Nat} {c : Array Value} (h : Lies w g o c) (hb : Drew w w') : Lies w' g o c := h.below hb.below
theorem load_lies {w : World} {g o : Nat} {c : Array Value} (ty : TypeId) (d : TypeDesc) (hu : Tryz.prog.underlying ty = some d) (hd : d.isRow = true) (hi : (Tryz.prog.info? ty).map (·.size) = some c.size) (h : Lies w g o c) :
  (Instr.loadAt ty (.pointer (some ⟨g, o, none⟩))).run Tryz.prog w = .ok (.agg c) w := by
 have := run_loadAt_mid (P := Tryz.prog) w g o ty c.toList d (fun j v hv => h j v (by simpa using hv)) hu hd (by rw [hi]; simp)
 simpa using this
theorem size30 : (Tryz.prog.info? 30).map (·.size) = some 41 := by kernel_rfl
theorem size24 : (Tryz.prog.info? 24).map (·.size) = some 35 := by kernel_rfl
theorem size27 : (Tryz.prog.info? 27).map (·.size) = some 4 := by kernel_rfl
theorem under30 : Tryz.prog.underlying 30 = some (.struct (Tryz.prog.fieldsOf 30)) := by kernel_rfl
structure But (K : Nat) (w w' : World) : Prop where
 os : w'.os = w.os
 tape : w'.tape = w.tape
 output : w'.output = w.output
 size : w.heap.size ≤ w'.heap.size
 block : ∀ k, k < w.heap.size → k ≠ K → w'.heap[k]? = w.heap[k]?
theorem But.refl (K : Nat) (w : World) : But K w w := ⟨rfl, rfl, rfl, Nat.le_refl _, fun _ _ _ => rfl⟩
theorem But.trans {K : Nat} {a b c : World} (h : But K a b) (k : But K b c) : But K a c :=
 ⟨k.os.trans h.os, k.tape.trans h.tape, k.output.trans h.output, Nat.le_trans h.size k.size, fun i hi hn => (k.block i (by have := h.size; omega) hn).trans (h.block i hi hn)⟩
theorem But.of_below {K : Nat} {a b : World} (h : Below a.heap.size a b) : But K a b := ⟨h.os, h.tape, h.output, h.size, fun i hi _ => h.block i hi⟩
theorem But.below {K B : Nat} {a b : World} (h : But K a b) (hB : B ≤ K) (hs : B ≤ a.heap.size) : Below B a b := ⟨h.os, h.tape, h.output, h.size, fun i hi => h.block i (by omega) (by omega)⟩
theorem But.setCell {K : Nat} {a b : World} (h : But K a b) (i : Nat) (v : Value) : But K a (b.setCell ⟨K, i, none⟩ v) :=
 ⟨h.os, h.tape, h.output, by simpa using h.size, fun j hj hn => (Below.heap_setCell b ⟨K, i, none⟩ v j hn).trans (h.block j hj hn)⟩
theorem But.alloc {K : Nat} {a b : World} (h : But K a b) (o : Obj) : But K a (b.alloc o) :=
 h.trans (But.of_below ((Below.refl _ b).alloc (Nat.le_refl _) o))
theorem But.cell {K : Nat} {a b : World} (h : But K a b) {x : Addr} {v : Value} (hx : a.cell? x = some v) (hn : x.block ≠ K) : b.cell? x = some v := by
 rw [← hx]
 exact World.cell?_of_block (w := a) (h.block _ (World.block_lt_of_cell? a _ hx) hn)
theorem But.frozen {K : Nat} {a b : World} (h : But K a b) {x : Addr} {v : Value} (hx : a.cell? x = some v) (hn : x.block ≠ K) : b.frozen? x = a.frozen? x :=
 World.frozen?_of_block (w := a) (h.block _ (World.block_lt_of_cell? a _ hx) hn)
theorem size5 (w : World) : (sizeOf 5).run Tryz.prog w = .ok 1 w := by
 have h1 : (Tryz.prog.info? 5).map (·.size) = some 1 := by kernel_rfl
 cases hq : Tryz.prog.info? 5 with
 | none => simp [hq] at h1
 | some i =>
  have hs : i.size = 1 := by simpa [hq] using h1
  simp [sizeOf, typeInfo, hq, hs]
theorem part5 (c : Array Value) (i : Nat) (x : Nat) (h : c[i]? = some (vb x)) (w : World) : (part 5 c (i * 1)).run Tryz.prog w = .ok (vb x) w := by
 have h1 : (Tryz.prog.info? 5).map (·.size) = some 1 := by kernel_rfl
 cases hq : Tryz.prog.info? 5 with
 | none => simp [hq] at h1
 | some j =>
  have hs : j.size = 1 := by simpa [hq] using h1
  simp [part, isAgg, run_underlying Tryz.underlying5, sizeOf, typeInfo, hq, hs, h]
theorem part3 (c : Array Value) (i : Nat) (x : Int) (h : c[i]? = some (.int .i64 x)) (w : World) : (part 3 c i).run Tryz.prog w = .ok (.int .i64 x) w := by
 have h1 : (Tryz.prog.info? 3).map (·.size) = some 1 := by kernel_rfl
 cases hq : Tryz.prog.info? 3 with
 | none => simp [hq] at h1
 | some j =>
  have hs : j.size = 1 := by simpa [hq] using h1
  simp [part, isAgg, run_underlying Tryz.underlying3, sizeOf, typeInfo, hq, hs, h]
theorem partAgg (t : TypeId) (d : TypeDesc) (n : Nat) (hu : Tryz.prog.underlying t = some d) (hd : d.isRow = true) (hi : (Tryz.prog.info? t).map (·.size) = some n) (c : Array Value) (i : Nat) (_hc : i + n ≤ c.size) (w : World) : (part t c i).run Tryz.prog w = .ok (.agg (c.extract i (i + n))) w := by
 cases hq : Tryz.prog.info? t with
 | none => simp [hq] at hi
 | some j =>
  have hs : j.size = n := by simpa [hq] using hi
  have hagg : (isAgg t).run Tryz.prog w = .ok true w := by
   unfold isAgg
   rw [Sem.run_bind, run_underlying hu w]
   cases d <;> simp_all
  simp [part, Sem.run_bind, hagg, sizeOf, typeInfo, hq, hs]
theorem eq22_list (d : Nat) (c e : Array Value) (w : World) : ∀ (is : List Nat) (x y : Nat → Nat), (∀ i ∈ is, c[i]? = some (vb (x i)) ∧ e[i]? = some (vb (y i))) →
  (forIn is ((none : Option Bool), ()) fun i _ => (do
   let a ← part 5 c (i * 1)
   let b ← part 5 e (i * 1)
   let r ← Op.equalIn (d + 1) 5 a b
   if (!r) = true then pure (ForInStep.done (some false, ())) else pure (ForInStep.yield (none, ())) : Sem (ForInStep (Option Bool × Unit)))).run Tryz.prog w = .ok (if is.all (fun i => x i == y i) then none else some false, ()) w
 | [], _, _, _ => by simp
 | i :: is, x, y, h => by
  obtain ⟨hx, hy⟩ := h i (by simp)
  have ih := eq22_list d c e w is x y (fun j hj => h j (by simp [hj]))
  simp only [List.forIn_cons, Sem.run_bind, part5 c i _ hx, part5 e i _ hy, Result.andThen_ok]
  simp only [vb, run_equalIn_int w d 5 .u8 .u8 _ _ Tryz.underlying5, Result.andThen_ok]
  by_cases hxy : x i = y i
  ·simp only [hxy, beq_self_eq_true, Bool.not_true, Bool.false_eq_true, if_false, Sem.run_pure, Result.andThen_ok, List.all_cons, Bool.true_and]
   exact ih
  ·have h2 : ((x i : Int) == (y i : Int)) = false := by simp; omega
   simp [h2, hxy]
theorem all_range (l m : List Nat) (hl : l.length = 32) (hm : m.length = 32) : (List.range' 0 32).all (fun i => l.getD i 0 == m.getD i 0) = decide (l = m) := by
 rw [Bool.eq_iff_iff]
 simp only [List.all_eq_true, List.mem_range'_1, beq_iff_eq, decide_eq_true_eq]
 constructor
 ·intro h
  refine List.ext_getElem (by omega) fun i h1 h2 => ?_
  have := h i (by omega)
  simpa [List.getD, h1, h2] using this
 ·rintro rfl i _; rfl
theorem eq22 (d : Nat) (l m : List Nat) (hl : l.length = 32) (hm : m.length = 32) (w : World) : (Op.equalIn (d + 2) 22 (.agg (l.map vb).toArray) (.agg (m.map vb).toArray)).run Tryz.prog w = .ok (decide (l = m)) w := by
 rw [show d + 2 = (d + 1) + 1 from rfl]
 unfold Op.equalIn
 simp only [Sem.run_bind, run_underlying Tryz.underlying22, Result.andThen_ok, size5]
 rw [Std.Legacy.Range.forIn_eq_forIn_range']
 rw [eq22_list d (l.map vb).toArray (m.map vb).toArray w _ (fun i => l.getD i 0) (fun i => m.getD i 0) ?_]
 ·have h32 : (List.range' [:32].start [:32].size [:32].step) = List.range' 0 32 := by simp
  rw [h32, all_range l m hl hm]
  by_cases e : l = m <;> simp [e]
 ·intro i hi
  have h1 : i < l.length := by simp at hi; omega
  have h2 : i < m.length := by simp at hi; omega
  exact ⟨by simp [h1, List.getD], by simp [h2, List.getD]⟩
theorem fields24 : ∃ a b c e : Field, (Tryz.prog.fieldsOf 24).toList = [a, b, c, e] ∧ (a.name, a.type, a.offset) = ("Kind", 3, 0) ∧ (b.name, b.type, b.offset) = ("Mode", 3, 1) ∧ (c.name, c.type, c.offset) = ("Size", 3, 2) ∧ (e.name, e.type, e.offset) = ("Sum", 22, 3) := by
 have h : (Tryz.prog.fieldsOf 24).toList.map (fun f => (f.name, f.type, f.offset)) = [("Kind", 3, 0), ("Mode", 3, 1), ("Size", 3, 2), ("Sum", 22, 3)] := by kernel_rfl
 obtain ⟨a, l1, h1, ha, h⟩ := List.map_eq_cons_iff.1 h
 obtain ⟨b, l2, h2, hb, h⟩ := List.map_eq_cons_iff.1 h
 obtain ⟨c, l3, h3, hc, h⟩ := List.map_eq_cons_iff.1 h
 obtain ⟨e, l4, h4, he, h⟩ := List.map_eq_cons_iff.1 h
 obtain rfl := List.map_eq_nil_iff.1 h
 exact ⟨a, b, c, e, by rw [h1, h2, h3, h4], ha, hb, hc, he⟩
theorem fields26 : ∃ a b : Field, (Tryz.prog.fieldsOf 26).toList = [a, b] ∧ (a.name, a.type, a.offset) = ("Number", 3, 0) ∧ (b.name, b.type, b.offset) = ("Stamp", 3, 1) := by
 have h : (Tryz.prog.fieldsOf 26).toList.map (fun f => (f.name, f.type, f.offset)) = [("Number", 3, 0), ("Stamp", 3, 1)] := by kernel_rfl
 obtain ⟨a, l1, h1, ha, h⟩ := List.map_eq_cons_iff.1 h
 obtain ⟨b, l2, h2, hb, h⟩ := List.map_eq_cons_iff.1 h
 obtain rfl := List.map_eq_nil_iff.1 h
 exact ⟨a, b, by rw [h1, h2], ha, hb⟩
theorem eqF_int (d : Nat) (xs ys : Array Value) (f : Field) (fs : List Field) (x y : Int) (hn : f.name ≠ "_") (ht : f.type = 3) (hx : xs[f.offset]? = some (.int .i64 x)) (hy : ys[f.offset]? = some (.int .i64 y)) (w : World) :
  (Op.eqFields (d + 1) xs ys (f :: fs)).run Tryz.prog w = if x = y then (Op.eqFields (d + 1) xs ys fs).run Tryz.prog w else .ok false w := by
 rw [Op.eqFields, if_pos hn, ht]
 simp only [Sem.run_bind, part3 xs f.offset x hx, part3 ys f.offset y hy, Result.andThen_ok, run_equalIn_int w d 3 .i64 .i64 _ _ Tryz.underlying3]
 by_cases h : x = y
 ·subst h; simp
 ·simp [h]
theorem under24 : Tryz.prog.underlying 24 = some (.struct (Tryz.prog.fieldsOf 24)) := by kernel_rfl
theorem under26 : Tryz.prog.underlying 26 = some (.struct (Tryz.prog.fieldsOf 26)) := by kernel_rfl
theorem size22 : (Tryz.prog.info? 22).map (·.size) = some 32 := by kernel_rfl
theorem vx_sum (v : Vd) : (vx v).toArray.extract 3 (3 + 32) = (v.sum.map vb).toArray := by
 simp only [vx, List.extract_toArray, List.extract_eq_take_drop, List.drop_succ_cons, List.drop_zero]
 rw [List.take_of_length_le (by simp [v.len])]
theorem ext_vd {v u : Vd} (h1 : v.kind = u.kind) (h2 : v.mode = u.mode) (h3 : v.size = u.size) (h4 : v.sum = u.sum) : v = u := by
 obtain ⟨a, b, c, d, e⟩ := v
 obtain ⟨a', b', c', d', e'⟩ := u
 simp only at h1 h2 h3 h4
 subst h1 h2 h3 h4
 rfl
theorem eq24 (d : Nat) (v u : Vd) (w : World) : (Op.equalIn (d + 3) 24 (.agg (vx v).toArray) (.agg (vx u).toArray)).run Tryz.prog w = .ok (decide (v = u)) w := by
 rw [show d + 3 = (d + 2) + 1 from rfl, run_equalIn_struct w (d + 2) 24 _ _ under24 (by kernel_rfl)]
 obtain ⟨a, b, c, e, hf, ha, hb, hc, he⟩ := fields24
 simp only [Prod.mk.injEq] at ha hb hc he
 rw [hf]
 have n1 : ∀ s : String, s ∈ ["Kind", "Mode", "Size", "Sum"] → s ≠ "_" := by decide
 have hv := v.len
 have hu := u.len
 rw [eqF_int (d + 1) _ _ a _ v.kind u.kind (by rw [ha.1]; exact n1 _ (by simp)) ha.2.1 (by rw [ha.2.2]; rfl) (by rw [ha.2.2]; rfl),
  eqF_int (d + 1) _ _ b _ v.mode u.mode (by rw [hb.1]; exact n1 _ (by simp)) hb.2.1 (by rw [hb.2.2]; rfl) (by rw [hb.2.2]; rfl),
  eqF_int (d + 1) _ _ c _ v.size u.size (by rw [hc.1]; exact n1 _ (by simp)) hc.2.1 (by rw [hc.2.2]; rfl) (by rw [hc.2.2]; rfl)]
 by_cases h1 : v.kind = u.kind
 ·rw [if_pos h1]
  by_cases h2 : v.mode = u.mode
  ·rw [if_pos h2]
   by_cases h3 : v.size = u.size
   ·rw [if_pos h3, Op.eqFields, if_pos (by rw [he.1]; exact n1 _ (by simp)), he.2.1, he.2.2]
    simp only [Sem.run_bind, Result.andThen_ok, partAgg 22 _ 32 Tryz.underlying22 rfl size22 (vx v).toArray 3 (by simp [vx_len]), partAgg 22 _ 32 Tryz.underlying22 rfl size22 (vx u).toArray 3 (by simp [vx_len]), vx_sum, eq22 d v.sum u.sum hv hu]
    by_cases h4 : v.sum = u.sum
    ·have : v = u := ext_vd h1 h2 h3 h4
     subst this
     simp [Op.eqFields]
    ·have : v ≠ u := fun e => h4 (by rw [e])
     simp [h4, this]
   ·rw [if_neg h3]
    have : v ≠ u := fun e => h3 (by rw [e])
    simp [this]
  ·rw [if_neg h2]
   have : v ≠ u := fun e => h2 (by rw [e])
   simp [this]
 ·rw [if_neg h1]
  have : v ≠ u := fun e => h1 (by rw [e])
  simp [this]
theorem eq26 (d : Nat) (a b a' b' : Int) (w : World) : (Op.equalIn (d + 2) 26 (.agg #[.int .i64 a, .int .i64 b]) (.agg #[.int .i64 a', .int .i64 b'])).run Tryz.prog w = .ok (decide (a = a' ∧ b = b')) w := by
 rw [show d + 2 = (d + 1) + 1 from rfl, run_equalIn_struct w (d + 1) 26 _ _ under26 (by kernel_rfl)]
 obtain ⟨fa, fb, hf, ha, hb⟩ := fields26
 simp only [Prod.mk.injEq] at ha hb
 rw [hf]
 have n1 : ∀ s : String, s ∈ ["Number", "Stamp"] → s ≠ "_" := by decide
 rw [eqF_int d _ _ fa _ a a' (by rw [ha.1]; exact n1 _ (by simp)) ha.2.1 (by rw [ha.2.2]; rfl) (by rw [ha.2.2]; rfl),
  eqF_int d _ _ fb _ b b' (by rw [hb.1]; exact n1 _ (by simp)) hb.2.1 (by rw [hb.2.2]; rfl) (by rw [hb.2.2]; rfl), Op.eqFields]
 by_cases h1 : a = a' <;> by_cases h2 : b = b' <;> simp [h1, h2]
theorem size26 (w : World) : (sizeOf 26).run Tryz.prog w = .ok 2 w := by
 have h1 : (Tryz.prog.info? 26).map (·.size) = some 2 := by kernel_rfl
 cases hq : Tryz.prog.info? 26 with
 | none => simp [hq] at h1
 | some i =>
  have hs : i.size = 2 := by simpa [hq] using h1
  simp [sizeOf, typeInfo, hq, hs]
theorem eq27 (d : Nat) (m n : Md) (w : World) : (Op.equalIn (d + 3) 27 (.agg (mx m).toArray) (.agg (mx n).toArray)).run Tryz.prog w = .ok (decide (m = n)) w := by
 rw [show d + 3 = (d + 2) + 1 from rfl]
 unfold Op.equalIn
 have hs : (Tryz.prog.info? 26).map (·.size) = some 2 := by kernel_rfl
 simp only [Sem.run_bind, run_underlying Tryz.underlying27, Result.andThen_ok, size26]
 rw [Std.Legacy.Range.forIn_eq_forIn_range']
 have h2 : (List.range' [:2].start [:2].size [:2].step) = [0, 1] := by simp [List.range']
 rw [h2]
 obtain ⟨a, b, c, e⟩ := m
 obtain ⟨a', b', c', e'⟩ := n
 have x0 : ∀ w, (part 26 (mx ⟨a, b, c, e⟩).toArray 0).run Tryz.prog w = .ok (.agg #[.int .i64 a, .int .i64 b]) w := fun w => by
  rw [partAgg 26 _ 2 under26 rfl hs _ 0 (by simp [mx])]; simp [mx]
 have x1 : ∀ w, (part 26 (mx ⟨a, b, c, e⟩).toArray 2).run Tryz.prog w = .ok (.agg #[.int .i64 c, .int .i64 e]) w := fun w => by
  rw [partAgg 26 _ 2 under26 rfl hs _ 2 (by simp [mx])]; simp [mx]
 have y0 : ∀ w, (part 26 (mx ⟨a', b', c', e'⟩).toArray 0).run Tryz.prog w = .ok (.agg #[.int .i64 a', .int .i64 b']) w := fun w => by
  rw [partAgg 26 _ 2 under26 rfl hs _ 0 (by simp [mx])]; simp [mx]
 have y1 : ∀ w, (part 26 (mx ⟨a', b', c', e'⟩).toArray 2).run Tryz.prog w = .ok (.agg #[.int .i64 c', .int .i64 e']) w := fun w => by
  rw [partAgg 26 _ 2 under26 rfl hs _ 2 (by simp [mx])]; simp [mx]
 simp only [List.forIn_cons, Sem.run_bind, Nat.zero_mul, Nat.one_mul, x0, y0, Result.andThen_ok, eq26]
 by_cases h1 : a = a' ∧ b = b'
 ·by_cases h2 : c = c' ∧ e = e'
  ·obtain ⟨rfl, rfl⟩ := h1
   obtain ⟨rfl, rfl⟩ := h2
   simp [x1, eq26]
  ·obtain ⟨rfl, rfl⟩ := h1
   have : ¬ ((⟨a, b, c, e⟩ : Md) = ⟨a, b, c', e'⟩) := by simpa using h2
   simp [x1, y1, eq26, h2, this]
 ·have : ¬ ((⟨a, b, c, e⟩ : Md) = ⟨a', b', c', e'⟩) := by
   simp only [Md.mk.injEq]
   rintro ⟨q1, q2, _⟩
   exact h1 ⟨q1, q2⟩
  simp [h1, this]
theorem exec_neq24 {o : Oper} {a : Act} (x y : Operand) (v u : Vd) (ho : o.op = .binOp .neq 24 x y 24) (hx : a.eval x = .agg (vx v).toArray) (hy : a.eval y = .agg (vx u).toArray) (w : World) :
  (execOp a.eval o).run Tryz.prog w = .ok (.value (.bool (!decide (v = u)))) w := by
 have h' : (Op.equal 24 (.agg (vx v).toArray) (.agg (vx u).toArray)).run Tryz.prog w = .ok (decide (v = u)) w := eq24 9997 v u w
 have hg : Tryz.prog.eqGuardType Tryz.prog.depth 24 = false := by kernel_rfl
 unfold execOp
 simp only [ho, hx, hy, eqGuard, binOp, Sem.run_bind]
 simp [Result.andThen, hg, h']
theorem exec_neq27 {o : Oper} {a : Act} (x y : Operand) (v u : Md) (ho : o.op = .binOp .neq 27 x y 27) (hx : a.eval x = .agg (mx v).toArray) (hy : a.eval y = .agg (mx u).toArray) (w : World) :
  (execOp a.eval o).run Tryz.prog w = .ok (.value (.bool (!decide (v = u)))) w := by
 have h' : (Op.equal 27 (.agg (mx v).toArray) (.agg (mx u).toArray)).run Tryz.prog w = .ok (decide (v = u)) w := eq27 9997 v u w
 have hg : Tryz.prog.eqGuardType Tryz.prog.depth 27 = false := by kernel_rfl
 unfold execOp
 simp only [ho, hx, hy, eqGuard, binOp, Sem.run_bind]
 simp [Result.andThen, hg, h']
theorem wpList_exec {ops : Array Oper} {rest : List Oper} {o : Oper} {a : Act} {w : World} {Q : Exit → Act → World → Prop} (v : Value)
  (he : (execOp a.eval o).run Tryz.prog w = .ok (.value v) w) (hw : Region.wanted o (yielded ops a.tmps) = true) (h : wpList Tryz.prog ops Q rest (a.put o.dst v) w) : wpList Tryz.prog ops Q (o :: rest) a w := by
 refine wpList_step fun K hK => ?_
 rw [if_pos hw]
 unfold Oper.wp
 rw [he, Oper.upon_value]
 exact hK _ _ h
theorem exec_load {o : Oper} {a : Act} {w : World} (ty : TypeId) (x : Operand) (ho : o.op = .load ty x) (b off : Nat) (hx : a.eval x = .pointer (some ⟨b, off, none⟩)) (c : Array Value) (d : TypeDesc) (hc : Lies w b off c)
  (hu : Tryz.prog.underlying ty = some d) (hd : d.isRow = true) (hi : (Tryz.prog.info? ty).map (·.size) = some c.size) : (execOp a.eval o).run Tryz.prog w = .ok (.value (.agg c)) w := by
 unfold execOp
 simp only [ho, hx, Sem.run_bind, load_lies ty d hu hd hi hc, Result.andThen_ok, Sem.run_pure]
theorem exec_load30 {o : Oper} {a : Act} {w : World} (x : Operand) (ho : o.op = .load 30 x) (b off : Nat) (hx : a.eval x = .pointer (some ⟨b, off, none⟩)) (c : Array Value) (hs : c.size = 41) (hc : Lies w b off c) : (execOp a.eval o).run Tryz.prog w = .ok (.value (.agg c)) w :=
 exec_load 30 x ho b off hx c _ hc under30 rfl (by rw [size30, hs])
theorem exec_load24 {o : Oper} {a : Act} {w : World} (x : Operand) (ho : o.op = .load 24 x) (b off : Nat) (hx : a.eval x = .pointer (some ⟨b, off, none⟩)) (c : Array Value) (hs : c.size = 35) (hc : Lies w b off c) : (execOp a.eval o).run Tryz.prog w = .ok (.value (.agg c)) w :=
 exec_load 24 x ho b off hx c _ hc under24 rfl (by rw [size24, hs])
theorem exec_load27 {o : Oper} {a : Act} {w : World} (x : Operand) (ho : o.op = .load 27 x) (b off : Nat) (hx : a.eval x = .pointer (some ⟨b, off, none⟩)) (c : Array Value) (hs : c.size = 4) (hc : Lies w b off c) : (execOp a.eval o).run Tryz.prog w = .ok (.value (.agg c)) w :=
 exec_load 27 x ho b off hx c _ hc Tryz.underlying27 rfl (by rw [size27, hs])
theorem Lies.part {w : World} {g o : Nat} {c : Array Value} (h : Lies w g o c) (i j : Nat) : Lies w g (o + i) (c.extract i j) := fun k u hk => by
 rw [Array.getElem?_extract] at hk
 split at hk
 ·have := h (i + k) u hk
  rw [Nat.add_assoc]
  exact this
 ·cases hk
theorem lies_val {w : World} {g o : Nat} {nm : ByteArray} {v : Vd} {m : Md} {kv : Value} (h : Lies w g o (nc nm v m kv)) : Lies w g (o + 1) (vx v).toArray := by
 have := h.part 1 36
 rwa [nc_val] at this
theorem lies_marks {w : World} {g o : Nat} {nm : ByteArray} {v : Vd} {m : Md} {kv : Value} (h : Lies w g o (nc nm v m kv)) : Lies w g (o + 36) (mx m).toArray := by
 have := h.part 36 40
 rwa [nc_marks] at this
theorem lies_kids {w : World} {g o : Nat} {nm : ByteArray} {v : Vd} {m : Md} {kv : Value} (h : Lies w g o (nc nm v m kv)) : w.cell? ⟨g, o + 40, none⟩ = some kv := h 40 kv (nc_kids ..)
theorem exec_neq27' {o : Oper} {a : Act} (x y : Operand) (ho : o.op = .binOp .neq 27 x y 27) (X Y : Array Value) (hx : a.eval x = .agg X) (hy : a.eval y = .agg Y) (v u : Md) (hX : X = (mx v).toArray) (hY : Y = (mx u).toArray) (b : Bool) (hb : (!decide (v = u)) = b) (w : World) :
  (execOp a.eval o).run Tryz.prog w = .ok (.value (.bool b)) w := by
 subst hX hY hb
 exact exec_neq27 x y v u ho hx hy w
end Go.Proofs.YtjikkhbcbfpocaaGreatDoor
