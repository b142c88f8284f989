import Derived.Lib.Strings
import Derived.Test.YtbjjbgaomoihaaaGreatDoorProg
import Derived.WalkSpells
import Derived.WalkLawsBesides
import Derived.BigQuiet
import Derived.Laws.AppendOwnNone
import Derived.Test.YtbjjbgaomoihaaaGreatDoorCards
import Derived.Test.YtbjjbgaomoihaaaGreatDoorTie
import Derived.ProofKit
import Derived.OpenShut
import Derived.ShutString
import Derived.Deep.DeepHandedRow
import Derived.LaidHandle
import Derived.MakeChecks
import Derived.Lib.ItoaMem
import Derived.RangeFuncRecord
import Derived.Deep.RegionHeld3
import Derived.Deep.DeepCutAuto
import Derived.Deep.RegionLaw
set_option maxRecDepth 100000
set_option maxHeartbeats 800000
namespace Go.Proofs.YtbjjbgaomoihaaaGreatDoor
open Go
abbrev By := List UInt8
def cut : By → By × List By
  | [] => ([], [])
  | x :: xs => if x = 47 then ([], (cut xs).1 :: (cut xs).2) else (x :: (cut xs).1, (cut xs).2)
def cuts (l : By) : List By := (cut l).1 :: (cut l).2
def pieces (l : By) : List By := if l = [] then [] else cuts l
def joinL : List By → By
  | [] => []
  | [x] => x
  | x :: y :: t => x ++ 47 :: joinL (y :: t)
theorem cuts_none {l : By} (h : ∀ x ∈ l, x ≠ 47) : cut l = (l, []) := by
  induction l with
  | nil => rfl
  | cons x xs ih => rw [cut, if_neg (h x (by simp)), ih (fun y hy => h y (by simp [hy]))]
theorem cut_at {l r : By} (h : ∀ x ∈ l, x ≠ 47) : cut (l ++ 47 :: r) = (l, cuts r) := by
  induction l with
  | nil => rw [List.nil_append, cut, if_pos rfl]; rfl
  | cons x xs ih => rw [List.cons_append, cut, if_neg (h x (by simp)), ih (fun y hy => h y (by simp [hy]))]
theorem cut_len : ∀ l : By, (cut l).2.length = l.count 47
  | [] => rfl
  | x :: xs => by
    rw [cut, List.count_cons]
    by_cases h : x = 47
    · rw [if_pos h, if_pos (by simp [h])]; simp [cut_len xs]
    · rw [if_neg h, if_neg (by simp [h])]; simp [cut_len xs]
theorem cuts_len (l : By) : (cuts l).length = l.count 47 + 1 := by
  rw [cuts, List.length_cons, cut_len]
theorem decode_skip (s : ByteArray) (pos k : Nat) (h1 : pos < k) (h2 : k < pos + (Utf8.decode s pos).2) : k < s.size ∧ 128 ≤ (s.get! k).toNat := by
  have key : ∀ j, pos + j < s.size → (s.get! (pos + j)).toNat / 64 = 2 → k = pos + j → k < s.size ∧ 128 ≤ (s.get! k).toNat := by
    rintro j a b rfl; exact ⟨a, by omega⟩
  revert h2
  simp only [Utf8.decode, Bool.and_eq_true, beq_iff_eq, decide_eq_true_eq]
  repeat' split
  all_goals intro h2
  all_goals simp only at h2
  all_goals first
    | omega
    | (rename_i c _; exact key 1 c.2.1 c.2.2 (by omega))
    | (rename_i c _
       by_cases e : k = pos + 1
       · exact key 1 c.1.2.1 c.1.2.2 e
       · exact key 2 c.2.1 c.2.2 (by omega))
    | (rename_i c _
       by_cases e : k = pos + 1
       · exact key 1 c.1.1.2.1 c.1.1.2.2 e
       · by_cases e : k = pos + 2
         · exact key 2 c.1.2.1 c.1.2.2 e
         · exact key 3 c.2.1 c.2.2 (by omega))
theorem decode_small (s : ByteArray) (pos : Nat) (h : pos < s.size) (c : Nat) (hc : c < 128) : (Utf8.decode s pos).1 = c ↔ (s.get! pos).toNat = c := by
  have e : s.get! pos = s[pos]'h := get_at s pos h
  by_cases ha : (s[pos]'h).toNat < 128
  · rw [decode_ascii s pos h ha, e]
  · have := (decode_high s pos h (by omega)).1
    rw [e]; omega
theorem decode_wide (s : ByteArray) (pos : Nat) (h : pos < s.size) : 1 ≤ (Utf8.decode s pos).2 := by
  by_cases ha : (s[pos]'h).toNat < 128
  · rw [decode_ascii s pos h ha]; exact Nat.le_refl _
  · exact (decode_high s pos h (by omega)).2
theorem decode_in (s : ByteArray) (pos : Nat) (h : pos < s.size) : pos + (Utf8.decode s pos).2 ≤ s.size := by
  have h1 := decode_wide s pos h
  by_cases e : (Utf8.decode s pos).2 = 1
  · omega
  · have := (decode_skip s pos (pos + (Utf8.decode s pos).2 - 1) (by omega) (by omega)).1
    omega
theorem decode_one (s : ByteArray) (pos : Nat) (h : pos < s.size) (ha : (s.get! pos).toNat < 128) : (Utf8.decode s pos).2 = 1 := by
  rw [decode_ascii s pos h (by rw [← get_at s pos h]; exact ha)]
abbrev tl (s : ByteArray) : By := s.toList
theorem tl_len (s : ByteArray) : (tl s).length = s.size := by simp [tl, ByteArray.toList_eq]
theorem tl_at (s : ByteArray) (k : Nat) (h : k < s.size) : (tl s)[k]? = some (s[k]'h) := by
  rw [tl, ByteArray.toList_eq, List.getElem?_eq_some_iff]
  exact ⟨by simpa using h, by simp [ByteArray.getElem_eq_getElem_data]⟩
theorem tl_get (s : ByteArray) (k : Nat) (h : k < s.size) : (tl s)[k]? = some (s.get! k) := by
  have : s.get! k = s[k]'h := get_at s k h
  rw [this]; exact tl_at s k h
theorem tl_mem {s : ByteArray} {x : UInt8} (h : x ∈ tl s) : ∃ k, ∃ h : k < s.size, s[k]'h = x := by
  obtain ⟨k, hk, e⟩ := List.mem_iff_getElem.1 h
  have hk' : k < s.size := by rw [tl_len] at hk; exact hk
  refine ⟨k, hk', ?_⟩
  have := tl_at s k hk'
  rw [List.getElem?_eq_getElem hk] at this
  rw [← Option.some.inj this, e]
theorem decode_none (s : ByteArray) (pos c : Nat) (h : pos < s.size) (hc : c < 128) (hn : (Utf8.decode s pos).1 ≠ c) : ∀ k, pos ≤ k → k < pos + (Utf8.decode s pos).2 → (s.get! k).toNat ≠ c := by
  intro k h1 h2 e
  by_cases h3 : k = pos
  · subst h3; exact hn ((decode_small s k h c hc).2 e)
  · have := (decode_skip s pos k (by omega) h2).2; omega
def nameB (l : By) : Bool := decide (1 ≤ l.length ∧ l.length ≤ 255 ∧ l ≠ [46] ∧ l ≠ [46, 46] ∧ ∀ x ∈ l, x ≠ 47 ∧ x ≠ 0)
theorem take_more {α : Type} {a b : List α} {k : Nat} {x : α} (h : a.take k = b.take k) (ha : a[k]? = some x) (hb : b[k]? = some x) : a.take (k + 1) = b.take (k + 1) := by
  rw [List.take_add_one, List.take_add_one, h, ha, hb]
theorem ext_of (s t : ByteArray) (h : tl s = tl t) : s = t := by
  have : s.data.toList = t.data.toList := by rw [← ByteArray.toList_eq, ← ByteArray.toList_eq]; exact h
  cases s; cases t; congr; exact Array.toList_inj.1 this
theorem tl_extract (s : ByteArray) (a b : Nat) : tl (s.extract a b) = ((tl s).drop a).take (b - a) := by
  rw [tl, Lib.extract_toList, tl, ByteArray.toList_eq]
end Go.Proofs.YtbjjbgaomoihaaaGreatDoor
namespace Go.Proofs.YtbjjbgaomoihaaaGreatDoor
open Go.RowKit
def iOf (v : Value) : Nat := match v with | .int _ i => i.toNat | _ => 0
@[simp] theorem iOf_int (k : IntKind) (i : Int) : iOf (.int k i) = i.toNat := rfl
def Hid (p : Prop) : Prop := p
theorem Hid.out {p : Prop} (h : Hid p) : p := h
def Drew (w w' : World) : Prop := ∃ n, w' = w.drewN n
theorem Drew.refl (w : World) : Drew w w := ⟨0, rfl⟩
theorem Drew.more {w w' : World} (h : Drew w w') (n : Nat) : Drew w (w'.drewN n) := by
  obtain ⟨m, rfl⟩ := h
  exact ⟨m + n, by rw [World.drewN_drewN]⟩
theorem Drew.trans {w w' w'' : World} (h : Drew w w') (k : Drew w' w'') : Drew w w'' := by
  obtain ⟨n, rfl⟩ := k
  exact h.more n
theorem Drew.heap {w w' : World} (h : Drew w w') : w'.heap = w.heap := by
  obtain ⟨n, rfl⟩ := h
  simp
theorem Drew.cell {w w' : World} (h : Drew w w') (p : Addr) : w'.cell? p = w.cell? p := by
  obtain ⟨n, rfl⟩ := h
  simp
theorem Drew.below {w w' : World} (h : Drew w w') : Below w.heap.size w w' := by
  obtain ⟨n, rfl⟩ := h
  exact below_drewN (Below.refl _ w) n
open Go.ChangeShapes Go.WideShapes Go.ChangeAt
open Go.ChangeMaps (open_string shut_string)
theorem own : ownKnob Tryz.prog.godebug = none := by kernel_rfl
theorem laidOut : laidOutB Tryz.prog = true := by kernel_rfl
def tab32 : List Int := [0, 1, 28, 2, 29, 14, 24, 3, 30, 22, 20, 15, 25, 17, 4, 8, 31, 27, 13, 23, 21, 19, 16, 7, 26, 12, 18, 6, 11, 5, 10, 9]
def tab64 : List Int := [0, 1, 56, 2, 57, 49, 28, 3, 61, 58, 42, 50, 38, 29, 17, 4, 62, 47, 59, 36, 45, 43, 51, 22, 53, 39, 33, 30, 24, 18, 12, 5, 63, 55, 48, 27, 60, 41, 37, 16, 46, 35, 44, 21, 52, 32, 23, 11, 54, 26, 40, 15, 34, 20, 31, 10, 25, 14, 19, 9, 13, 8, 7, 6]
def lay (c : Array Value) : Obj → Obj
  | .cells _ t frozen => .cells c t frozen
  | o => o
noncomputable def laidWorld (os : Os) : World :=
  { World.holding Tryz.prog os ⟨#[], #[], []⟩ with heap := (((World.holding Tryz.prog os ⟨#[], #[], []⟩).heap.modify 1 (lay (Lib.pow10Tab.map (Value.int .u64)).toArray)).modify 2 (lay (tab32.map (Value.int .u8)).toArray)).modify 3 (lay (tab64.map (Value.int .u8)).toArray) }
theorem laid3 (os : Os) (args : Array Value) : laidMetH Tryz.prog [("math/bits.deBruijn32tab", Rows.laid_math_bits_deBruijn32tab), ("math/bits.deBruijn64tab", Rows.laid_math_bits_deBruijn64tab), ("internal/strconv.uint64pow10", Rows.laid_internal_strconv_uint64pow10)] ((laidWorld os).forCall (fun _ _ => 0) ⟨#[], args, []⟩).memory := by
  rw [MakeChecks.laidMetH_plain _ _ _ (by kernel_rfl)]
  exact laidMet_of_run' 8 (by kernel_rfl) (by kernel_rfl)
theorem d10 : (Rows.laid_internal_strconv_uint64pow10 : DataW Unit) = Lib.tabData .u64 Lib.pow10Tab := by kernel_rfl
theorem g10 : Tryz.prog.globalNamed "internal/strconv.uint64pow10" = some 1 := by kernel_rfl
theorem t10 : (Tryz.prog.globals[1]?).map (·.type) = some 223 := by kernel_rfl
theorem tab10_of_laid {W : World} (h : laidMetH Tryz.prog [("math/bits.deBruijn32tab", Rows.laid_math_bits_deBruijn32tab), ("math/bits.deBruijn64tab", Rows.laid_math_bits_deBruijn64tab), ("internal/strconv.uint64pow10", Rows.laid_internal_strconv_uint64pow10)] W) : Lib.TabIs Tryz.prog W "internal/strconv.uint64pow10" .u64 Lib.pow10Tab := by
  rw [MakeChecks.laidMetH_plain _ _ _ (by kernel_rfl)] at h
  obtain ⟨ps, ⟨g0, t0, cs0, f0, p0, q0, hg0, ht0, hv0, hd0, ⟨g1, t1, cs1, f1, p1, q1, hg1, ht1, hv1, hd1, h2, _⟩, _⟩, _⟩ := h
  rw [d10] at h2
  obtain ⟨g2, t2, cs2, f2, p2, q2, hg2, ht2, hv2, hd2, _⟩ := h2
  obtain rfl := Option.some.inj (g10.symm.trans hg2)
  obtain rfl := Option.some.inj (t10.symm.trans ht2)
  unfold Lib.TabIs
  rw [hv2, ← Lib.cells_of_tab Tryz.underlying223 (e := 214) (k := .u64) (by kernel_rfl) (by kernel_rfl) (by kernel_rfl) hd2]
end Go.Proofs.YtbjjbgaomoihaaaGreatDoor
namespace Go.Proofs.YtbjjbgaomoihaaaGreatDoor
open Go.RowKit
abbrev vb (n : Nat) : Value := .int .u8 (n : Int)
structure Vd where
  kind : Int
  mode : Int
  size : Int
  sum : List Nat
  len : sum.length = 32
  deriving DecidableEq
structure Md where
  n0 : Int
  s0 : Int
  n1 : Int
  s1 : Int
  deriving DecidableEq
def vx (v : Vd) : List Value := .int .i64 v.kind :: .int .i64 v.mode :: .int .i64 v.size :: v.sum.map vb
def mx (m : Md) : List Value := [.int .i64 m.n0, .int .i64 m.s0, .int .i64 m.n1, .int .i64 m.s1]
theorem vx_len (v : Vd) : (vx v).length = 35 := by simp [vx, v.len]
theorem mx_len (m : Md) : (mx m).length = 4 := rfl
theorem vb_inj {a b : List Nat} (h : a.map vb = b.map vb) : a = b := by
  refine List.map_inj_right (f := vb) (fun x y e => ?_) |>.1 h
  simp only [vb, Value.int.injEq, true_and] at e
  exact_mod_cast e
theorem vx_inj {a b : Vd} (h : vx a = vx b) : a = b := by
  obtain ⟨k, m, s, l, hl⟩ := a
  obtain ⟨k', m', s', l', hl'⟩ := b
  simp only [vx, List.cons.injEq, Value.int.injEq, true_and] at h
  obtain ⟨rfl, rfl, rfl, h⟩ := h
  obtain rfl := vb_inj h
  rfl
theorem mx_inj {a b : Md} (h : mx a = mx b) : a = b := by
  obtain ⟨k, m, s, l⟩ := a
  obtain ⟨k', m', s', l'⟩ := b
  simp only [mx, List.cons.injEq, Value.int.injEq, true_and, and_true] at h
  obtain ⟨rfl, rfl, rfl, rfl⟩ := h
  rfl
inductive F where
  | nil
  | cons (nm : ByteArray) (v : Vd) (m : Md) (kids rest : F)
  deriving DecidableEq
namespace F
def len : F → Nat
  | nil => 0
  | cons _ _ _ _ r => r.len + 1
def size : F → Nat
  | nil => 0
  | cons _ _ _ k r => k.size + r.size + 1
def drop : F → Nat → F
  | f, 0 => f
  | nil, _ + 1 => nil
  | cons _ _ _ _ r, k + 1 => r.drop k
def take : F → Nat → F
  | _, 0 => nil
  | nil, _ + 1 => nil
  | cons nm v m k r, n + 1 => cons nm v m k (r.take n)
def app : F → F → F
  | nil, g => g
  | cons nm v m k r, g => cons nm v m k (r.app g)
theorem len_le_size : ∀ f : F, f.len ≤ f.size
  | nil => Nat.le_refl _
  | cons _ _ _ k r => by have := len_le_size r; simp only [len, size]; omega
theorem drop_zero (f : F) : f.drop 0 = f := by cases f <;> rfl
theorem drop_nil (k : Nat) : (nil : F).drop k = nil := by cases k <;> rfl
theorem drop_len : ∀ (f : F) (k : Nat), (f.drop k).len = f.len - k
  | f, 0 => by rw [drop_zero]; rfl
  | nil, _ + 1 => by simp [drop, len]
  | cons _ _ _ _ r, k + 1 => by rw [drop, drop_len r k, len]; omega
theorem drop_size : ∀ (f : F) (k : Nat), (f.drop k).size ≤ f.size
  | f, 0 => by rw [drop_zero]; exact Nat.le_refl _
  | nil, _ + 1 => by simp [drop]
  | cons _ _ _ _ r, k + 1 => by rw [drop, size]; have := drop_size r k; omega
theorem drop_more : ∀ (f : F) (k : Nat), k < f.len → ∃ nm v m ks, f.drop k = cons nm v m ks (f.drop (k + 1))
  | nil, k, h => by simp [len] at h
  | cons nm v m ks r, 0, _ => ⟨nm, v, m, ks, by rw [drop_zero, drop, drop_zero]⟩
  | cons nm v m ks r, k + 1, h => by
    obtain ⟨nm', v', m', ks', e⟩ := drop_more r k (by simp [len] at h; omega)
    exact ⟨nm', v', m', ks', e⟩
theorem drop_all : ∀ (f : F) (k : Nat), f.len ≤ k → f.drop k = nil
  | nil, k, _ => drop_nil k
  | cons _ _ _ _ r, 0, h => by simp [len] at h
  | cons _ _ _ _ r, k + 1, h => drop_all r k (by simp [len] at h; omega)
theorem app_len : ∀ f g : F, (f.app g).len = f.len + g.len
  | nil, g => by simp [app, len]
  | cons _ _ _ _ r, g => by rw [app, len, app_len r g, len]; omega
theorem take_zero (f : F) : f.take 0 = nil := by cases f <;> rfl
theorem take_more : ∀ (f : F) (k : Nat) nm v m ks r, f.drop k = cons nm v m ks r → f.take (k + 1) = (f.take k).app (cons nm v m ks nil)
  | f, 0, nm, v, m, ks, r, h => by rw [drop_zero] at h; subst h; show cons nm v m ks (r.take 0) = _; rw [take_zero, take_zero]; rfl
  | nil, k + 1, _, _, _, _, _, h => by cases h
  | cons a b c d r, k + 1, nm, v, m, ks, r', h => by
    show cons a b c d (r.take (k + 1)) = cons a b c d ((r.take k).app _)
    rw [take_more r k nm v m ks r' h]
theorem take_all : ∀ (f : F) (k : Nat), f.len ≤ k → f.take k = f
  | nil, 0, _ => rfl
  | nil, _ + 1, _ => rfl
  | cons _ _ _ _ r, 0, h => by simp [len] at h
  | cons a b c d r, k + 1, h => by show cons a b c d (r.take k) = _; rw [take_all r k (by simp [len] at h; omega)]
theorem take_len : ∀ (f : F) (k : Nat), k ≤ f.len → (f.take k).len = k
  | f, 0, _ => by cases f <;> rfl
  | nil, _ + 1, h => by simp [len] at h
  | cons _ _ _ _ r, k + 1, h => by show (r.take k).len + 1 = _; rw [take_len r k (by simp [len] at h; omega)]
theorem app_take_drop : ∀ (f : F) (k : Nat), (f.take k).app (f.drop k) = f
  | f, 0 => by rw [drop_zero]; cases f <;> rfl
  | nil, _ + 1 => rfl
  | cons a b c d r, k + 1 => by show cons a b c d ((r.take k).app (r.drop k)) = _; rw [app_take_drop r k]
theorem app_assoc : ∀ f g h : F, (f.app g).app h = f.app (g.app h)
  | nil, _, _ => rfl
  | cons a b c d r, g, h => by simp only [app]; rw [app_assoc r g h]
end F
def nc (nm : ByteArray) (v : Vd) (m : Md) (kv : Value) : Array Value := (Value.string nm :: (vx v ++ (mx m ++ [kv]))).toArray
theorem nc_size (nm : ByteArray) (v : Vd) (m : Md) (kv : Value) : (nc nm v m kv).size = 41 := by simp [nc, vx_len, mx_len]
theorem nc_name (nm : ByteArray) (v : Vd) (m : Md) (kv : Value) : (nc nm v m kv)[0]? = some (.string nm) := by simp [nc]
theorem nc_kids (nm : ByteArray) (v : Vd) (m : Md) (kv : Value) : (nc nm v m kv)[40]? = some kv := by
  simp only [nc, List.getElem?_toArray, List.getElem?_cons_succ]
  rw [List.getElem?_append_right (by simp [vx_len]), List.getElem?_append_right (by simp [vx_len, mx_len])]
  simp [vx_len, mx_len]
theorem nc_val (nm : ByteArray) (v : Vd) (m : Md) (kv : Value) : (nc nm v m kv).extract 1 36 = (vx v).toArray := by
  simp only [nc, List.extract_toArray, List.extract_eq_take_drop, List.drop_succ_cons, List.drop_zero]
  rw [List.take_append_of_le_length (by simp [vx_len]), List.take_of_length_le (by simp [vx_len])]
theorem nc_marks (nm : ByteArray) (v : Vd) (m : Md) (kv : Value) : (nc nm v m kv).extract 36 40 = (mx m).toArray := by
  simp only [nc, List.extract_toArray, List.extract_eq_take_drop, List.drop_succ_cons]
  rw [List.drop_append_of_le_length (by simp [vx_len]), List.drop_of_length_le (by simp [vx_len])]
  simp [mx]
def HasR (w : World) : F → Nat → Nat → Prop
  | .nil, _, _ => True
  | .cons nm v m kids rest, g, o => (∃ a cap, (∀ j u, (nc nm v m (.slice a kids.len cap))[j]? = some u → w.cell? ⟨g, o + j, none⟩ = some u) ∧ (kids.len ≤ cap ∧ (kids = .nil ∨ ∃ g' o', a = some ⟨g', o', none⟩ ∧ HasR w kids g' o'))) ∧ HasR w rest g (o + 41)
def HasS (w : World) (v : Value) (f : F) : Prop := ∃ a cap, v = .slice a f.len cap ∧ f.len ≤ cap ∧ (f = .nil ∨ ∃ g o, a = some ⟨g, o, none⟩ ∧ HasR w f g o)
def HasN (w : World) (c : Array Value) (nm : ByteArray) (v : Vd) (m : Md) (kids : F) : Prop := ∃ kv, c = nc nm v m kv ∧ HasS w kv kids
theorem HasR.drop {w : World} : ∀ {f : F} {k g o : Nat}, HasR w f g o → HasR w (f.drop k) g (o + k * 41)
  | f, 0, g, o, h => by rw [F.drop_zero]; exact h
  | .nil, k + 1, g, o, _ => trivial
  | .cons nm v m ks r, k + 1, g, o, h => by
    have := HasR.drop (k := k) h.2
    rw [show o + 41 + k * 41 = o + (k + 1) * 41 by omega] at this
    exact this
theorem HasR.block {w w' : World} (hb : ∀ a : Addr, a.block < w.heap.size → w'.cell? a = w.cell? a) : ∀ {f : F} {g o : Nat}, HasR w f g o → HasR w' f g o
  | .nil, _, _, _ => trivial
  | .cons nm v m ks r, g, o, h => by
    obtain ⟨⟨a, cap, hc, hl, hk⟩, hr⟩ := h
    refine ⟨⟨a, cap, fun j u hj => ?_, hl, ?_⟩, HasR.block hb hr⟩
    · have h1 := hc j u hj
      rw [hb _ (World.block_lt_of_cell? w _ h1)]
      exact h1
    · rcases hk with hk | ⟨g', o', ha, hk⟩
      · exact .inl hk
      · exact .inr ⟨g', o', ha, HasR.block hb hk⟩
theorem HasS.block {w w' : World} {v : Value} {f : F} (h : HasS w v f) (hb : ∀ a : Addr, a.block < w.heap.size → w'.cell? a = w.cell? a) : HasS w' v f := by
  obtain ⟨a, cap, hv, hl, h⟩ := h
  refine ⟨a, cap, hv, hl, ?_⟩
  rcases h with h | ⟨g, o, ha, h⟩
  · exact .inl h
  · exact .inr ⟨g, o, ha, h.block hb⟩
theorem HasS.below {w w' : World} {v : Value} {f : F} (h : HasS w v f) (hb : Below w.heap.size w w') : HasS w' v f := h.block fun _ ha => hb.cell ha
theorem HasS.drew {w w' : World} {v : Value} {f : F} (h : HasS w v f) (hb : Drew w w') : HasS w' v f := h.below hb.below
theorem HasN.block {w w' : World} {c : Array Value} {nm : ByteArray} {v : Vd} {m : Md} {f : F} (h : HasN w c nm v m f) (hb : ∀ a : Addr, a.block < w.heap.size → w'.cell? a = w.cell? a) : HasN w' c nm v m f := by
  obtain ⟨kv, hc, h⟩ := h
  exact ⟨kv, hc, h.block hb⟩
theorem HasN.below {w w' : World} {c : Array Value} {nm : ByteArray} {v : Vd} {m : Md} {f : F} (h : HasN w c nm v m f) (hb : Below w.heap.size w w') : HasN w' c nm v m f := h.block fun _ ha => hb.cell ha
theorem HasS.form {w : World} {v : Value} {f : F} (h : HasS w v f) : ∃ a cap, v = .slice a f.len cap ∧ f.len ≤ cap := by
  obtain ⟨a, cap, hv, hl, _⟩ := h
  exact ⟨a, cap, hv, hl⟩
theorem HasS.at {w : World} {v : Value} {f : F} (h : HasS w v f) {k : Nat} (hk : k < f.len) : ∃ g o cap nm vv m ks c, v = .slice (some ⟨g, o, none⟩) f.len cap ∧ f.drop k = .cons nm vv m ks (f.drop (k + 1)) ∧ HasN w c nm vv m ks ∧ (∀ j u, c[j]? = some u → w.cell? ⟨g, o + k * 41 + j, none⟩ = some u) := by
  obtain ⟨a, cap, hv, hl, h⟩ := h
  rcases h with h | ⟨g, o, ha, h⟩
  · subst h; simp [F.len] at hk
  · obtain ⟨nm, vv, m, ks, e⟩ := F.drop_more f k hk
    have h1 := h.drop (k := k)
    rw [e] at h1
    obtain ⟨⟨a', cap', hc, hl', hks⟩, _⟩ := h1
    subst ha
    exact ⟨g, o, cap, nm, vv, m, ks, _, hv, e, ⟨_, rfl, a', cap', rfl, hl', hks⟩, hc⟩
def Lies (w : World) (g o : Nat) (c : Array Value) : Prop := ∀ j u, c[j]? = some u → w.cell? ⟨g, o + j, none⟩ = some u
theorem Lies.block {w w' : World} {g o : Nat} {c : Array Value} (h : Lies w g o c) (hb : ∀ a : Addr, a.block < w.heap.size → w'.cell? a = w.cell? a) : Lies w' g o c := fun j u hj => by
  have h1 := h j u hj
  rw [hb _ (World.block_lt_of_cell? w _ h1)]
  exact h1
theorem Lies.below {w w' : World} {g o : Nat} {c : Array Value} (h : Lies w g o c) (hb : Below w.heap.size w w') : Lies w' g o c := h.block fun _ ha => hb.cell ha
theorem Lies.drew {w w' : World} {g o : Nat} {c : Array Value} (h : Lies w g o c) (hb : Drew w w') : Lies w' g o c := h.below hb.below
theorem load_lies {w : World} {g o : Nat} {c : Array Value} (ty : TypeId) (d : TypeDesc) (hu : Tryz.prog.underlying ty = some d) (hd : d.isRow = true) (hi : (Tryz.prog.info? ty).map (·.size) = some c.size) (h : Lies w g o c) :
    (Instr.loadAt ty (.pointer (some ⟨g, o, none⟩))).run Tryz.prog w = .ok (.agg c) w := by
  have := run_loadAt_mid (P := Tryz.prog) w g o ty c.toList d (fun j v hv => h j v (by simpa using hv)) hu hd (by rw [hi]; simp)
  simpa using this
theorem size30 : (Tryz.prog.info? 30).map (·.size) = some 41 := by kernel_rfl
theorem size24 : (Tryz.prog.info? 24).map (·.size) = some 35 := by kernel_rfl
theorem size27 : (Tryz.prog.info? 27).map (·.size) = some 4 := by kernel_rfl
theorem under30 : Tryz.prog.underlying 30 = some (.struct (Tryz.prog.fieldsOf 30)) := by kernel_rfl
structure Nc (c : Array Value) (nm : ByteArray) (x m : Array Value) (kv : Value) : Prop where
  size : c.size = 41
  name : c[0]? = some (.string nm)
  val : c.extract 1 36 = x
  marks : c.extract 36 40 = m
  kids : c[40]? = some kv
theorem nc_nc (nm : ByteArray) (v : Vd) (m : Md) (kv : Value) : Nc (nc nm v m kv) nm (vx v).toArray (mx m).toArray kv := ⟨nc_size .., nc_name .., nc_val .., nc_marks .., nc_kids ..⟩
structure But (K : Nat) (w w' : World) : Prop where
  os : w'.os = w.os
  tape : w'.tape = w.tape
  output : w'.output = w.output
  size : w.heap.size ≤ w'.heap.size
  block : ∀ k, k < w.heap.size → k ≠ K → w'.heap[k]? = w.heap[k]?
theorem But.refl (K : Nat) (w : World) : But K w w := ⟨rfl, rfl, rfl, Nat.le_refl _, fun _ _ _ => rfl⟩
theorem But.trans {K : Nat} {a b c : World} (h : But K a b) (k : But K b c) : But K a c :=
  ⟨k.os.trans h.os, k.tape.trans h.tape, k.output.trans h.output, Nat.le_trans h.size k.size, fun i hi hn => (k.block i (by have := h.size; omega) hn).trans (h.block i hi hn)⟩
theorem But.of_below {K : Nat} {a b : World} (h : Below a.heap.size a b) : But K a b := ⟨h.os, h.tape, h.output, h.size, fun i hi _ => h.block i hi⟩
theorem But.below {K B : Nat} {a b : World} (h : But K a b) (hB : B ≤ K) (hs : B ≤ a.heap.size) : Below B a b := ⟨h.os, h.tape, h.output, h.size, fun i hi => h.block i (by omega) (by omega)⟩
theorem But.setCell {K : Nat} {a b : World} (h : But K a b) (i : Nat) (v : Value) : But K a (b.setCell ⟨K, i, none⟩ v) :=
  ⟨h.os, h.tape, h.output, by simpa using h.size, fun j hj hn => (Below.heap_setCell b ⟨K, i, none⟩ v j hn).trans (h.block j hj hn)⟩
theorem But.alloc {K : Nat} {a b : World} (h : But K a b) (o : Obj) : But K a (b.alloc o) :=
  h.trans (But.of_below ((Below.refl _ b).alloc (Nat.le_refl _) o))
theorem But.cell {K : Nat} {a b : World} (h : But K a b) {x : Addr} {v : Value} (hx : a.cell? x = some v) (hn : x.block ≠ K) : b.cell? x = some v := by
  rw [← hx]
  exact World.cell?_of_block (w := a) (h.block _ (World.block_lt_of_cell? a _ hx) hn)
theorem But.frozen {K : Nat} {a b : World} (h : But K a b) {x : Addr} {v : Value} (hx : a.cell? x = some v) (hn : x.block ≠ K) : b.frozen? x = a.frozen? x :=
  World.frozen?_of_block (w := a) (h.block _ (World.block_lt_of_cell? a _ hx) hn)
theorem wpList_loadT {ops : Array Oper} {rest : List Oper} {op : Oper} {a : Act} {w : World} {Q : Exit → Act → World → Prop} (hgd : op.guard = none) (ty : TypeId) (x : Operand) (ho : op.op = .load ty x)
    (b o : Nat) (hx : a.eval x = .pointer (some ⟨b, o, none⟩)) (c : Array Value) (d : TypeDesc) (hc : Lies w b o c)
    (hu : Tryz.prog.underlying ty = some d) (hd : d.isRow = true) (hi : (Tryz.prog.info? ty).map (·.size) = some c.size)
    (h : wpList Tryz.prog ops Q rest (a.put op.dst (.agg c)) w) : wpList Tryz.prog ops Q (op :: rest) a w :=
  wpList_load_mid (P := Tryz.prog) hgd ty x ho b o hx c.toList d (fun j v hv => hc j v (by simpa using hv)) hu hd (by rw [hi]; simp) (by simpa using h)
theorem wpList_load30 {ops : Array Oper} {rest : List Oper} {op : Oper} {a : Act} {w : World} {Q : Exit → Act → World → Prop} (hgd : op.guard = none) (x : Operand) (ho : op.op = .load 30 x)
    (b o : Nat) (hx : a.eval x = .pointer (some ⟨b, o, none⟩)) (c : Array Value) (hs : c.size = 41) (hc : Lies w b o c)
    (h : wpList Tryz.prog ops Q rest (a.put op.dst (.agg c)) w) : wpList Tryz.prog ops Q (op :: rest) a w :=
  wpList_loadT hgd 30 x ho b o hx c _ hc under30 rfl (by rw [size30, hs]) h
def F.weight : F → Nat
  | .nil => 0
  | .cons nm _ _ k r => 1 + nm.size + k.weight + r.weight
def F.ok : F → Prop
  | .nil => True
  | .cons nm _ _ k r => nm.size ≤ 9223372036854775807 ∧ k.len ≤ 9223372036854775807 ∧ k.ok ∧ r.ok
theorem F.ok_drop : ∀ {f : F} {k : Nat}, f.ok → (f.drop k).ok
  | f, 0, h => by rw [F.drop_zero]; exact h
  | .nil, _ + 1, _ => trivial
  | .cons _ _ _ _ r, k + 1, h => F.ok_drop (f := r) h.2.2.2
def CountAt (w : World) (C : Nat) (n : Int) : Prop := w.cell? ⟨C, 0, none⟩ = some (.int .i64 n) ∧ w.frozen? ⟨C, 0, none⟩ = false ∧ n ≤ 9223372036854775807 ∧ -9223372036854775808 ≤ n
def less (n : Int) (k : Nat) (n' : Int) : Prop := 0 ≤ n' → n' = n - (k : Int) ∧ 0 ≤ n
theorem less.trans {a b c : Int} {k l : Nat} (h : less a k b) (h' : less b l c) : less a (k + l) c := fun h0 => by
  have h1 := h' h0
  have h2 := h h1.2
  omega
theorem add_any (C : Nat) (n : Int) (k : Nat) (w : World) (hC : CountAt w C n) (hk : (k : Int) ≤ 9223372036854775807) :
    Calls Tryz.prog 147 #[.pointer (some ⟨C, 0, none⟩), .int .i64 k] w fun e w' => (∃ v, e = .returned v) ∧ ∃ n', CountAt w' C n' ∧ less n k n' ∧ But C w w' := by
  obtain ⟨hc, hf, hn, hn'⟩ := hC
  by_cases h0 : 0 ≤ n
  · have HN : ∀ r : Int, w.cell? ⟨C, 0, none⟩ = some (.int .i64 n) → Hid ((w.setCell ⟨C, 0, none⟩ (.int .i64 r)).cell? ⟨C, 0, none⟩ = some (.int .i64 r)) := fun r h => World.cell?_setCell_same _ _ _ h
    have HF : ∀ r : Int, Hid ((w.setCell ⟨C, 0, none⟩ (.int .i64 r)).frozen? ⟨C, 0, none⟩ = false) := fun r => by show _ = _; rw [World.frozen?_setCell]; exact hf
    obtain ⟨r, hr⟩ : ∃ r, n - (k : Int) = r := ⟨_, rfl⟩
    have hw : IntKind.i64.wrap (n - (k : Int)) = r := by rw [IntKind.wrap_i64, hr]; omega
    have HR : Hid (r = n - (k : Int) ∧ r ≤ 9223372036854775807 ∧ -9223372036854775808 ≤ r) := ⟨hr.symm, by omega, by omega⟩
    have hc2 := (HN r hc).out
    clear hr
    go_enter Tryz.func147, Tryz.ntmps147
    go_wp2
    go_ret
    exact ⟨⟨_, rfl⟩, r, ⟨(HN r hc).out, (HF r).out, HR.out.2⟩, fun _ => ⟨HR.out.1, h0⟩, (But.refl C w).setCell 0 _⟩
  · go_enter Tryz.func147, Tryz.ntmps147
    go_wp2
    go_ret
    exact ⟨⟨_, rfl⟩, n, ⟨hc, hf, hn, hn'⟩, fun h => by omega, But.refl C w⟩
theorem ok_any (C : Nat) (n : Int) (w : World) (hC : CountAt w C n) : Calls Tryz.prog 36 #[.pointer (some ⟨C, 0, none⟩)] w fun e w' => e = .returned (.bool (decide (0 ≤ n))) ∧ w = w' := by
  obtain ⟨hc, hf, hn, hn'⟩ := hC
  go_enter Tryz.func36, Tryz.ntmps36
  go_wp2
  go_ret
  exact ⟨rfl, rfl⟩
theorem text_any (C : Nat) (n : Int) (s : ByteArray) (w : World) (hC : CountAt w C n) (hs : s.size ≤ 9223372036854775807) :
    Calls Tryz.prog 101 #[.pointer (some ⟨C, 0, none⟩), .string s] w fun e w' => (∃ v, e = .returned v) ∧ ∃ n', CountAt w' C n' ∧ less n (1 + s.size) n' ∧ But C w w' := by
  have C1 := add_any C n 1 w hC (by omega)
  have C2 := fun w n hC => add_any C n s.size w hC (by omega)
  clear hC
  go_enter Tryz.func101, Tryz.ntmps101
  go_wp2_with (first
    | (go_at_call_of 147 (Value.int .i64 1); refine C1.mono ?_; rintro e w1 ⟨⟨b1, rfl⟩, n1, hC1, l1, bl1⟩; have D2 := C2 w1 n1 hC1; clear C1 C2 hC1)
    | (go_at_call 147; refine D2.mono ?_; rintro e w2 ⟨⟨b2, rfl⟩, n2, hC2, l2, bl2⟩))
  go_end0
  exact ⟨⟨_, rfl⟩, n2, hC2, l1.trans l2, bl1.trans bl2⟩
def NodesOk (w0 : World) (f : F) : Prop := ∀ (v : Value), HasS w0 v f → f.ok → f.len ≤ 9223372036854775807 → ∀ (w : World) (C : Nat) (n : Int), Below w0.heap.size w0 w → w0.heap.size ≤ C → CountAt w C n →
    Calls Tryz.prog 35 #[.pointer (some ⟨C, 0, none⟩), v] w fun e w' => (∃ v, e = .returned v) ∧ ∃ n', CountAt w' C n' ∧ less n f.weight n' ∧ But C w w'
theorem CountAt.alloc {w : World} {C : Nat} {n : Int} (h : CountAt w C n) (o : Obj) : CountAt (w.alloc o) C n :=
  have hlt := World.block_lt_of_cell? w _ h.1
  ⟨(World.cell?_of_block (w := w) (Below.heap_alloc w o C hlt)).trans h.1, (World.frozen?_of_block (w := w) (Below.heap_alloc w o C hlt)).trans h.2.1, h.2.2⟩
theorem CountAt.lt {w : World} {C : Nat} {n : Int} (h : CountAt w C n) : C < w.heap.size := World.block_lt_of_cell? w _ h.1
theorem lies_new (w : World) (c : Array Value) (t : TypeId) : Lies (w.alloc (.cells c t)) w.heap.size 0 c := fun j u hj => by
  have h : (w.alloc (.cells c t)).heap[w.heap.size]? = some (.cells c t) := World.alloc_heap_new w _
  simp only [World.cell?, h, Nat.zero_add]
  exact hj
theorem node_any (w0 : World) (c : Array Value) (nm : ByteArray) (vv : Vd) (m : Md) (ks : F) (hN : HasN w0 c nm vv m ks) (hok : nm.size ≤ 9223372036854775807 ∧ ks.len ≤ 9223372036854775807 ∧ ks.ok) (ih : NodesOk w0 ks)
    (w : World) (C : Nat) (n : Int) (hb : Below w0.heap.size w0 w) (hw : w0.heap.size ≤ C) (hC : CountAt w C n) :
    Calls Tryz.prog 66 #[.pointer (some ⟨C, 0, none⟩), .agg c] w fun e w' => (∃ v, e = .returned v) ∧ ∃ n', CountAt w' C n' ∧ less n (1 + nm.size + ks.weight) n' ∧ But C w w' := by
  obtain ⟨kv, hc, hS⟩ := hN
  have hN := nc_nc nm vv m kv
  rw [← hc] at hN
  have k1 := hN.name
  have k2 := hN.kids
  have hlt := hC.lt
  have C1 := text_any C n nm (w.alloc (.cells c 30)) (hC.alloc _) hok.1
  have C2 := fun (w1 : World) (n1 : Int) (b1 : But C (w.alloc (.cells c 30)) w1) (h1 : CountAt w1 C n1) => ih kv hS hok.2.2 hok.2.1 w1 C n1 (hb.trans (((Below.refl _ w).alloc (by omega) _).trans (b1.below hw (by simp; omega)))) hw h1
  have C3 : ∀ w1, But C (w.alloc (.cells c 30)) w1 → w1.cell? ⟨w.heap.size, 40, none⟩ = some kv := fun w1 b1 => b1.cell (by simpa using lies_new w c 30 40 kv k2) (by show w.heap.size ≠ C; omega)
  clear hN hc hC ih
  go_enter Tryz.func66, Tryz.ntmps66
  go_wp2_with (first
    | (go_at_call 101; refine C1.mono ?_; rintro e w1 ⟨⟨b1, rfl⟩, n1, hC1, l1, bl1⟩; have D2 := C2 w1 n1 bl1 hC1; have D3 := C3 w1 bl1; clear C1 C2 C3 hC1)
    | (go_at_call 35; refine D2.mono ?_; rintro e w2 ⟨⟨b2, rfl⟩, n2, hC2, l2, bl2⟩))
  go_end0
  exact ⟨⟨_, rfl⟩, n2, hC2, l1.trans l2, ((But.refl C w).alloc _).trans (bl1.trans bl2)⟩
theorem F.kids_size {f : F} {k : Nat} {nm : ByteArray} {v : Vd} {m : Md} {ks r : F} (h : f.drop k = .cons nm v m ks r) : ks.size + 1 + r.size ≤ f.size := by
  have := F.drop_size f k
  rw [h, F.size] at this
  omega
theorem Below.of_but {C : Nat} {w0 w w' : World} (hb : Below w0.heap.size w0 w) (h : But C w w') (hC : w0.heap.size ≤ C) : Below w0.heap.size w0 w' :=
  hb.trans (h.below hC hb.size)
theorem nodes_any (w0 : World) : ∀ (N : Nat) (f : F), f.size < N → NodesOk w0 f := by
  intro N
  induction N with
  | zero => intro f h; omega
  | succ N ih =>
    intro f hN v hS hok hlen w C n hb hw hC
    obtain ⟨a, cap, rfl, _⟩ := hS.form
    have C1 := fun w n h => ok_any C n w h
    obtain ⟨L, hL⟩ : ∃ L, f.len = L := ⟨_, rfl⟩
    rw [hL] at hlen
    have HC : Hid (CountAt w C n) := hC
    have HL : Hid (f.len = L) := hL
    have HS : Hid (HasS w0 (.slice a f.len cap) f) := hS
    rw [hL]
    clear hC hS hL
    go_enter Tryz.func35, Tryz.ntmps35
    go_wp2_with fail
    go_loopw [4] (fun i wr => ∃ k : Nat, i = .int .i64 k ∧ k ≤ L ∧ Hid (∃ q n', q + (f.drop k).weight = f.weight ∧ CountAt wr C n' ∧ less n q n' ∧ But C w wr)) (fun i _ => L - iOf i)
    case atStart => exact ⟨0, rfl, Nat.zero_le _, 0, n, by rw [F.drop_zero]; omega, HC.out, fun h => by omega, But.refl _ _⟩
    case round =>
      obtain ⟨k, rfl, hk, q, n', hq, hC', hl', hb'⟩ := hrel
      have D1 := C1 wr n' hC'
      by_cases hlt : k < L
      · have hltI : (k : Int) < (L : Int) := by omega
        by_cases h0 : 0 ≤ n'
        · obtain ⟨g, o, cap', nm, vv, m, ks, c, hv, hd, hN', hc⟩ := HS.out.at (k := k) (by rw [HL.out]; exact hlt)
          cases hv
          have hod : (f.drop k).ok := F.ok_drop hok
          rw [hd] at hod
          have hks := F.kids_size hd
          have hbw := Below.of_but hb hb' hw
          have HLd : Hid (c.size = 41 ∧ Lies wr g (o + k * 41) c) := ⟨by obtain ⟨kv, rfl, _⟩ := hN'; exact nc_size .., Lies.below (w' := wr) hc hbw⟩
          have D2 := node_any w0 c nm vv m ks hN' ⟨hod.1, hod.2.1, hod.2.2.1⟩ (ih ks (by omega)) wr C n' hbw hw hC'
          have HW : Hid (q + (1 + nm.size + ks.weight) + (f.drop (k + 1)).weight = f.weight) := by show _ = _; rw [← hq, hd, F.weight]; omega
          have HB : Hid (less n q n' ∧ But C w wr) := ⟨hl', hb'⟩
          clear hq hd hN' hc hod hks hbw hC' hl' hb'
          go_wp2_with (first
            | (go_at_call 36; refine D1.mono ?_; rintro e w1 ⟨rfl, e1⟩; subst e1)
            | refine wpList_load30 rfl _ rfl _ _ rfl c HLd.out.1 HLd.out.2 ?_
            | (go_at_call 66; refine D2.mono ?_; rintro e w2 ⟨⟨b2, rfl⟩, n2, hC2, l2, bl2⟩))
          go_roundw
          case rel => exact ⟨k + 1, by go_num, by omega, _, n2, HW.out, hC2, HB.out.1.trans l2, HB.out.2.trans bl2⟩
          case measure => simp; omega
        · have HX : Hid (∃ n', CountAt wr C n' ∧ less n f.weight n' ∧ But C w wr) := ⟨n', hC', fun h => absurd h h0, hb'⟩
          clear hq hC' hl' hb'
          go_wp2_with (go_at_call 36; refine D1.mono ?_; rintro e w1 ⟨rfl, e1⟩; subst e1)
          go_end0
          exact ⟨⟨_, rfl⟩, HX.out⟩
      · have hltI : ¬ (k : Int) < (L : Int) := by omega
        obtain rfl : k = L := by omega
        have HX : Hid (∃ n', CountAt wr C n' ∧ less n f.weight n' ∧ But C w wr) := by
          refine ⟨n', hC', ?_, hb'⟩
          rw [F.drop_all f k (by rw [HL.out]; omega), F.weight] at hq
          rw [← hq]; exact hl'
        clear hq hC' hl' hb'
        go_wp2_with fail
        go_end0
        exact ⟨⟨_, rfl⟩, HX.out⟩
theorem many_any (w : World) : Calls Tryz.prog 34 #[.int .i64 20000] w fun e w' => e = .returned (.pointer (some ⟨w.heap.size, 0, none⟩)) ∧ CountAt w' w.heap.size 20000 ∧ Below w.heap.size w w' := by
  go_enter Tryz.func34, Tryz.ntmps34
  go_wp2
  go_ret
  exact ⟨rfl, ⟨by simp, by simp, by omega, by omega⟩, (Below.refl _ w).alloc (Nat.le_refl _) _⟩
theorem few_any (v : Value) (f : F) (w : World) (hS : HasS w v f) (hok : f.ok) (hlen : f.len ≤ 9223372036854775807) :
    Calls Tryz.prog 18 #[v] w fun e w' => ∃ n : Int, e = .returned (.bool (decide (0 ≤ n))) ∧ (0 ≤ n → f.weight ≤ 20000) ∧ Below w.heap.size w w' := by
  have C1 := many_any w
  have C2 := fun (w1 : World) (n : Int) (b1 : Below w.heap.size w w1) hC => nodes_any w (f.size + 1) f (Nat.lt_succ_self _) v hS hok hlen w1 w.heap.size n b1 (Nat.le_refl _) hC
  have C3 := fun (w1 : World) (n : Int) hC => ok_any w.heap.size n w1 hC
  obtain ⟨a, cap, rfl, _⟩ := hS.form
  clear hS
  obtain ⟨L, hL⟩ : ∃ L, f.len = L := ⟨_, rfl⟩
  rw [hL] at C2 hlen ⊢
  clear hL
  go_enter Tryz.func18, Tryz.ntmps18
  go_wp2_with (first
    | (go_at_call 34; refine C1.mono ?_; rintro e w1 ⟨rfl, hC1, bl1⟩; have D2 := C2 w1 _ bl1 hC1; clear C1 C2 hC1)
    | (go_at_call 35; refine D2.mono ?_; rintro e w2 ⟨⟨b2, rfl⟩, n2, hC2, l2, bl2⟩; have D3 := C3 w2 n2 hC2; clear D2 C3 hC2)
    | (go_at_call 36; refine D3.mono ?_; rintro e w3 ⟨rfl, e3⟩; subst e3))
  go_ret
  refine ⟨n2, rfl, fun h => ?_, bl1.trans (bl2.below (Nat.le_refl _) bl1.size)⟩
  have := l2 h
  omega
end Go.Proofs.YtbjjbgaomoihaaaGreatDoor
