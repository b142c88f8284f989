import Derived.Test.YtjikkhbcbfpocaaGreatDoorDO
import Derived.Test.YtjikkhbcbfpocaaGreatDoorZ0
import Derived.Test.YtjikkhbcbfpocaaGreatDoorDQ
set_option maxRecDepth 100000
set_option maxHeartbeats 4000000
namespace Go.Proofs.YtjikkhbcbfpocaaGreatDoor
open Go.RowKit Go.Shelf
attribute [local go_sem] Oper.semAt_some
def encE (ver kind count most : Int) : Int := if ver < 1 ∨ 3 < ver then 61 else if kind ≠ 1 then 66 else if min (max most 1) 1048576 < count then 64 else 0
theorem written_high (p : Nat) (ver : Int) (h : 2 ≤ ver) (w : World) : Calls Tryz.prog 34 #[.pointer (some ⟨p, 0, none⟩), .int .i64 ver] w fun e w' => e = .returned (.pointer (some ⟨p, 0, none⟩)) ∧ w' = w := by
 go_enter Tryz.func34, Tryz.ntmps34
 have h2 : decide (ver ≥ 2) = true := by simpa using h
 go_wp2
 exact bodyPost_ret (results_tmp rfl _ _ _) rfl ⟨rfl, rfl⟩
theorem field24 (v : Vd) (w : World) : (Instr.field 24 (.agg (vx v).toArray) 0).run Tryz.prog w = .ok (.int .i64 v.kind) w := by
 have hp : (Tryz.prog.fieldsOf 24)[0]?.map (fun f => (f.type, f.offset)) = some (3, 0) := by kernel_rfl
 have hu : Tryz.prog.underlying 24 = some (.struct (Tryz.prog.fieldsOf 24)) := by kernel_rfl
 have hk := vx_kind v
 unfold Instr.field
 simp only [Sem.run_bind, run_underlying hu, Result.andThen_ok]
 cases hf : (Tryz.prog.fieldsOf 24)[0]? with
 | none => rw [hf] at hp; cases hp
 | some f =>
  rw [hf] at hp
  simp only [Option.map_some, Option.some.injEq, Prod.mk.injEq] at hp
  obtain ⟨h1, h2⟩ := hp
  have hu3 := Tryz.underlying3
  simp [asAgg, part, isAgg, h1, h2, run_underlying hu3]
  have hk2 : (vx v)[0]? = some (.int .i64 v.kind) := by simpa using hk
  rw [hk2]
  rfl
theorem encode_any (p : Nat) (v : Vd) (m : Md) (k : K) (w : World) (ver most : Int) (hT : AtT w p v m k) (hsz : k.flat.size ≤ 100000) (R : Value → World → Prop)
  (CW : encE ver v.kind (1 + k.flat.size : Nat) most = 0 → ∀ W, G w W → Calls Tryz.prog 34 #[.pointer (some ⟨p, 0, none⟩), .int .i64 ver] W (fun e w' => ∃ p2, e = .returned (.pointer (some ⟨p2, 0, none⟩)) ∧ Calls Tryz.prog 33 #[.pointer (some ⟨p2, 0, none⟩), .int .i64 ver] w' fun e w'' => ∃ u, e = .returned u ∧ R u w'')) :
  Calls Tryz.prog 11 #[.pointer (some ⟨p, 0, none⟩), .int .i64 ver, .int .i64 most] w fun e w' => (encE ver v.kind (1 + k.flat.size : Nat) most ≠ 0 ∧ e = .returned (.tuple #[.slice none 0 0, .int .i64 (encE ver v.kind (1 + k.flat.size : Nat) most)]) ∧ G w w') ∨ (encE ver v.kind (1 + k.flat.size : Nat) most = 0 ∧ ∃ u, e = .returned (.tuple #[u, .int .i64 0]) ∧ R u w') := by
 have CV := value_any p v m k w hT
 have CO := fun W (hg : G w W) => count_any p v m k W (hT.grow hg) (by omega)
 obtain ⟨cn, hcn⟩ : ∃ cn, 1 + k.flat.size = cn := ⟨_, rfl⟩
 rw [hcn] at CW ⊢
 simp only [hcn] at CO
 have HCO := hid CO
 have HW := hid CW
 have HX := hid (field24 v)
 generalize (vx v).toArray = XV at *
 generalize v.kind = kd at *
 clear CO CW hT
 by_cases h1 : ver < 1
 ·have HE : Hid (encE ver kd (cn : Int) most = 61) := by unfold encE; rw [if_pos (.inl h1)]; exact rfl
  go_enter Tryz.func11, Tryz.ntmps11
  go_wp2
  refine bodyPost_ret (results_tmp2 rfl _ _ _) rfl (.inl ?_)
  rw [HE.out]
  exact ⟨by decide, rfl, G.refl _⟩
 by_cases h2 : 3 < ver
 ·have HE : Hid (encE ver kd (cn : Int) most = 61) := by unfold encE; rw [if_pos (.inr h2)]; exact rfl
  go_enter Tryz.func11, Tryz.ntmps11
  go_wp2
  refine bodyPost_ret (results_tmp2 rfl _ _ _) rfl (.inl ?_)
  rw [HE.out]
  exact ⟨by decide, rfl, G.refl _⟩
 by_cases h3 : kd = 1
 ·by_cases h4 : min (max most 1) 1048576 < (cn : Int)
  ·have HE : Hid (encE ver kd (cn : Int) most = 64) := by unfold encE; rw [if_neg (by omega), if_neg (by omega), if_pos h4]; exact rfl
   have x0 := HX.out
   go_enter Tryz.func11, Tryz.ntmps11
   go_wp2_with (first
  | (go_at_call 19; refine CV.mono ?_; rintro e w2 ⟨rfl, hg2⟩; have HG2 := hid hg2; clear hg2 CV)
  | (go_at_call 18; refine (HCO.out _ HG2.out).mono ?_; rintro e w3 ⟨rfl, hw3⟩; subst hw3)
  | (go_at_call 32; refine (bound_any most _).mono ?_; rintro e w4 ⟨rfl, hw4⟩; subst hw4)
  | (go_at_call 34; refine (HW.out HE.out _ HG2.out).mono ?_; rintro e w5 ⟨p2, rfl, C33⟩)
  | (go_at_call 33; refine C33.mono ?_; rintro e w6 ⟨u, rfl, hR⟩))
   refine bodyPost_ret (results_tmp2 rfl _ _ _) rfl (.inl ?_)
   rw [HE.out]
   exact ⟨by decide, rfl, HG2.out⟩
  ·have HE : Hid (encE ver kd (cn : Int) most = 0) := by unfold encE; rw [if_neg (by omega), if_neg (by omega), if_neg h4]; exact rfl
   have x0 := HX.out
   go_enter Tryz.func11, Tryz.ntmps11
   go_wp2_with (first
  | (go_at_call 19; refine CV.mono ?_; rintro e w2 ⟨rfl, hg2⟩; have HG2 := hid hg2; clear hg2 CV)
  | (go_at_call 18; refine (HCO.out _ HG2.out).mono ?_; rintro e w3 ⟨rfl, hw3⟩; subst hw3)
  | (go_at_call 32; refine (bound_any most _).mono ?_; rintro e w4 ⟨rfl, hw4⟩; subst hw4)
  | (go_at_call 34; refine (HW.out HE.out _ HG2.out).mono ?_; rintro e w5 ⟨p2, rfl, C33⟩)
  | (go_at_call 33; refine C33.mono ?_; rintro e w6 ⟨u, rfl, hR⟩))
   exact bodyPost_ret (results_tmp2 rfl _ _ _) rfl (.inr ⟨HE.out, _, rfl, hR⟩)
 ·have HE : Hid (encE ver kd (cn : Int) most = 66) := by unfold encE; rw [if_neg (by omega), if_pos h3]; exact rfl
  have x0 := HX.out
  go_enter Tryz.func11, Tryz.ntmps11
  go_wp2_with (first
  | (go_at_call 19; refine CV.mono ?_; rintro e w2 ⟨rfl, hg2⟩; have HG2 := hid hg2; clear hg2 CV)
  | (go_at_call 18; refine (HCO.out _ HG2.out).mono ?_; rintro e w3 ⟨rfl, hw3⟩; subst hw3)
  | (go_at_call 32; refine (bound_any most _).mono ?_; rintro e w4 ⟨rfl, hw4⟩; subst hw4)
  | (go_at_call 34; refine (HW.out HE.out _ HG2.out).mono ?_; rintro e w5 ⟨p2, rfl, C33⟩)
  | (go_at_call 33; refine C33.mono ?_; rintro e w6 ⟨u, rfl, hR⟩))
  refine bodyPost_ret (results_tmp2 rfl _ _ _) rfl (.inl ?_)
  rw [HE.out]
  exact ⟨by decide, rfl, HG2.out⟩
end Go.Proofs.YtjikkhbcbfpocaaGreatDoor
namespace Go.Proofs.YtjikkhbcbfpocaaGreatDoor
open Go.RowKit Go.Shelf
theorem unkV_unkV (v : Vd) : unkV (unkV v) = unkV v := by
 unfold unkV
 by_cases h : v.kind = 3
 ·simp [h]
 ·simp [h]
structure LeW (W W' : World) : Prop where
 os : W'.os = W.os
 tape : W'.tape = W.tape
 output : W'.output = W.output
 size : W'.heap.size = W.heap.size
 cell : ∀ b i : Nat, W'.cell? ⟨b, i, none⟩ = W.cell? ⟨b, i, none⟩ ∨ (2 ≤ i ∧ (∃ nm, W.cell? ⟨b, i - 2, none⟩ = some (.string nm)) ∧ (∃ k, W.cell? ⟨b, i - 1, none⟩ = some (.int .i64 k) ∧ k ≠ 3) ∧ (∃ x, W.cell? ⟨b, i, none⟩ = some (.int .i64 x)) ∧ W'.cell? ⟨b, i, none⟩ = some (.int .i64 8))
theorem LeW.refl (W : World) : LeW W W := ⟨rfl, rfl, rfl, rfl, fun _ _ => .inl rfl⟩
theorem LeW.trans {A B C : World} (h : LeW A B) (k : LeW B C) : LeW A C := by
 refine ⟨k.os.trans h.os, k.tape.trans h.tape, k.output.trans h.output, k.size.trans h.size, fun b i => ?_⟩
 rcases k.cell b i with e | ⟨h2, ⟨nm, hn⟩, ⟨q, hq, hq3⟩, ⟨x, hx⟩, h8⟩
 ·rcases h.cell b i with e' | ⟨h2, hn, hk, hx, h8⟩
  ·exact .inl (e.trans e')
  ·exact .inr ⟨h2, hn, hk, hx, e.trans h8⟩
 ·have n1 : A.cell? ⟨b, i - 2, none⟩ = some (.string nm) := by
   rcases h.cell b (i - 2) with e | ⟨_, _, _, _, e⟩
   ·rw [← e]; exact hn
   ·rw [hn] at e; cases e
  have n2 : A.cell? ⟨b, i - 1, none⟩ = some (.int .i64 q) := by
   rcases h.cell b (i - 1) with e | ⟨_, _, ⟨_, e, _⟩, _, _⟩
   ·rw [← e]; exact hq
   ·rw [show i - 1 - 1 = i - 2 from by omega, n1] at e; cases e
  have n3 : ∃ x, A.cell? ⟨b, i, none⟩ = some (.int .i64 x) := by
   rcases h.cell b i with e | ⟨_, _, _, e, _⟩
   ·exact ⟨x, by rw [← e]; exact hx⟩
   ·exact e
  exact .inr ⟨h2, ⟨nm, n1⟩, ⟨q, n2, hq3⟩, n3, h8⟩
theorem nc_int (nm : ByteArray) (v : Vd) (m : Md) (a : Option Addr) (n c : Nat) (j : Nat) (hj : 1 ≤ j) (s : ByteArray) : (nc nm v m (.slice a n c))[j]? ≠ some (.string s) := by
 intro h
 obtain ⟨i, rfl⟩ : ∃ i, j = i + 1 := ⟨j - 1, by omega⟩
 simp only [nc, List.getElem?_toArray, List.getElem?_cons_succ] at h
 have hm := List.mem_of_getElem? h
 simp only [vx, mx, List.mem_append, List.mem_cons, List.mem_map, List.not_mem_nil, or_false] at hm
 rcases hm with (h | h | h | ⟨x, _, h⟩) | (h | h | h | h) | h
 all_goals first | cases h | (simp [vb] at h)
theorem nc_modeX (nm : ByteArray) (v : Vd) (m : Md) (kv : Value) (j : Nat) (hj : j ≠ 2) (x : Int) : (nc nm { v with mode := x } m kv)[j]? = (nc nm v m kv)[j]? := by
 match j, hj with
 | 0, _ => rfl
 | 1, _ => rfl
 | j + 3, _ => rfl
theorem LeW.node {W W' : World} {g o : Nat} {nm : ByteArray} {v : Vd} {m : Md} {a : Option Addr} {n c : Nat} (h : LeW W W') (hl : Lies W g o (nc nm v m (.slice a n c))) : ∃ v', (v' = v ∨ v' = unkV v) ∧ Lies W' g o (nc nm v' m (.slice a n c)) := by
 have c0 : W.cell? ⟨g, o, none⟩ = some (.string nm) := by have := hl 0 _ (nc_name ..); simpa using this
 have c1 : W.cell? ⟨g, o + 1, none⟩ = some (.int .i64 v.kind) := hl 1 _ rfl
 have keep : ∀ j u, j ≠ 2 → (nc nm v m (.slice a n c))[j]? = some u → W'.cell? ⟨g, o + j, none⟩ = some u := fun j u hj hu => by
  rcases h.cell g (o + j) with e | ⟨h2, ⟨s, hs⟩, ⟨k, hk, _⟩, ⟨x, hx⟩, _⟩
  ·rw [e]; exact hl j u hu
  ·exfalso
   match j, hj with
   | 0, _ => rw [Nat.add_zero, c0] at hx; cases hx
   | 1, _ => rw [show o + 1 - 1 = o from by omega, c0] at hk; cases hk
   | j + 3, _ =>
    have hlt : j + 3 < 41 := by have := (gS hu); rwa [nc_size] at this
    have he : ∃ u', (nc nm v m (.slice a n c))[j + 1]? = some u' := ⟨_, Array.getElem?_eq_getElem (by rw [nc_size]; omega)⟩
    obtain ⟨u', hu'⟩ := he
    have := hl (j + 1) u' hu'
    rw [show o + (j + 3) - 2 = o + (j + 1) from by omega, this] at hs
    cases hs
    exact nc_int nm v m a n c (j + 1) (by omega) s hu'
 rcases h.cell g (o + 2) with e | ⟨_, _, ⟨k, hk, h3⟩, _, h8⟩
 ·refine ⟨v, .inl rfl, fun j u hu => ?_⟩
  by_cases hj : j = 2
  ·subst hj; rw [e]; exact hl 2 u hu
  ·exact keep j u hj hu
 ·rw [show o + 2 - 1 = o + 1 from by omega, c1] at hk
  cases hk
  refine ⟨unkV v, .inr rfl, fun j u hu => ?_⟩
  unfold unkV at hu
  rw [if_neg h3] at hu
  by_cases hj : j = 2
  ·subst hj
   have : u = .int .i64 8 := by cases hu; rfl
   rw [this]; exact h8
  ·rw [nc_modeX _ _ _ _ _ hj] at hu
   exact keep j u hj hu
theorem LeW.row {W W' : World} {P : Nat → Prop} (h : LeW W W') : ∀ {f : F} {g o : Nat}, HasRP W P f g o → ∃ f' : F, f'.mp unkV id = f.mp unkV id ∧ f'.len = f.len ∧ HasRP W' P f' g o
 | .nil, _, _, _ => ⟨.nil, rfl, rfl, trivial⟩
 | .cons nm v m ks r, g, o, ⟨⟨a, cap, hc, hl, hk⟩, hr⟩ => by
  obtain ⟨v', hv, hc'⟩ := h.node hc
  obtain ⟨r', e1, e2, hr'⟩ := h.row hr
  have ev : unkV v' = unkV v := by rcases hv with rfl | rfl; rfl; exact unkV_unkV v
  rcases hk with rfl | ⟨g', o', ha, hP, hk⟩
  ·exact ⟨.cons nm v' m .nil r', by simp only [F.mp, ev, e1], by simp only [F.len, e2], ⟨a, cap, hc', hl, .inl rfl⟩, hr'⟩
  ·obtain ⟨k', e3, e4, hk'⟩ := h.row hk
   refine ⟨.cons nm v' m k' r', by simp only [F.mp, ev, e1, e3], by simp only [F.len, e2], ⟨a, cap, by rw [e4]; exact hc', by rw [e4]; exact hl, .inr ⟨g', o', ha, hP, hk'⟩⟩, hr'⟩
theorem LeW.done {W W' : World} {P : Nat → Prop} (h : LeW W W') : ∀ {f : F} {g o : Nat}, HasRP W P (f.mp unkV id) g o → HasRP W' P (f.mp unkV id) g o
 | .nil, _, _, _ => trivial
 | .cons nm v m ks r, g, o, ⟨⟨a, cap, hc, hl, hk⟩, hr⟩ => by
  obtain ⟨v', hv, hc'⟩ := h.node hc
  have ev : v' = unkV v := by rcases hv with e | e; exact e; rw [e]; exact unkV_unkV v
  rw [ev] at hc'
  exact ⟨⟨a, cap, hc', hl, hk.imp id fun ⟨g', o', ha, hP, hk⟩ => ⟨g', o', ha, hP, h.done hk⟩⟩, h.done hr⟩
attribute [local go_sem] Oper.semAt_some
def UO (W : World) (b : Nat) : Prop := ∃ c t, W.heap[b]? = some (.cells c t (0, 0))
theorem UO.set {W : World} {b : Nat} (h : UO W b) (g i : Nat) (x : Value) : UO (W.setCell ⟨g, i, none⟩ x) b := by
 obtain ⟨c, t, h⟩ := h
 by_cases e : b = g
 ·subst e
  refine ⟨c.setIfInBounds i x, t, ?_⟩
  unfold World.setCell
  simp only []
  rw [Array.getElem?_modify]
  simp [h]
 ·exact ⟨c, t, (Below.heap_setCell _ _ _ _ e).trans h⟩
theorem LeW.store {W : World} {g o : Nat} {nm : ByteArray} {v : Vd} {m : Md} {kv : Value} (hl : Lies W g o (nc nm v m kv)) (hk : v.kind ≠ 3) : LeW W (W.setCell ⟨g, o + 2, none⟩ (.int .i64 8)) := by
 refine ⟨rfl, rfl, rfl, World.size_setCell .., fun b i => ?_⟩
 have c2 := hl 2 _ (nc_mode nm v m kv)
 by_cases e : (⟨g, o + 2, none⟩ : Addr) = ⟨b, i, none⟩
 ·cases e
  exact .inr ⟨by omega, ⟨nm, by have := hl 0 _ (nc_name nm v m kv); simpa using this⟩, ⟨v.kind, hl 1 _ (nc_kind nm v m kv), hk⟩, ⟨v.mode, c2⟩, World.cell?_setCell_same (h := c2) ..⟩
 ·exact .inl (World.cell?_setCell_other (h := e) ..)
structure Fg (P : Nat → Prop) (g : Nat) (W w' : World) : Prop where
 le : LeW W w'
 oth : ∀ b, ¬ P b → b ≠ g → w'.heap[b]? = W.heap[b]?
 uo : ∀ b, UO W b → UO w' b
theorem Fg.refl (P : Nat → Prop) (g : Nat) (W : World) : Fg P g W W := ⟨LeW.refl W, fun _ _ _ => rfl, fun _ h => h⟩
theorem Fg.trans {P : Nat → Prop} {g g' : Nat} {A B C : World} (h : Fg P g A B) (k : Fg P g' B C) (hg : P g') : Fg P g A C :=
 ⟨h.le.trans k.le, fun b h1 h2 => (k.oth b h1 fun e => h1 (e ▸ hg)).trans (h.oth b h1 h2), fun b hb => k.uo b (h.uo b hb)⟩
theorem Fg.store {P : Nat → Prop} {W : World} {g o : Nat} {nm : ByteArray} {v : Vd} {m : Md} {kv : Value} (hl : Lies W g o (nc nm v m kv)) (hk : v.kind ≠ 3) : Fg P g W (W.setCell ⟨g, o + 2, none⟩ (.int .i64 8)) :=
 ⟨LeW.store hl hk, fun _ _ h => Below.heap_setCell _ _ _ _ h, fun _ h => h.set _ _ _⟩
theorem lies_unk {W : World} {g o : Nat} {nm : ByteArray} {v : Vd} {m : Md} {kv : Value} (hl : Lies W g o (nc nm v m kv)) (hk : v.kind ≠ 3) : Lies (W.setCell ⟨g, o + 2, none⟩ (.int .i64 8)) g o (nc nm (unkV v) m kv) := by
 intro j u hu
 unfold unkV at hu
 rw [if_neg hk] at hu
 have c2 := hl 2 _ (nc_mode nm v m kv)
 by_cases hj : j = 2
 ·subst hj
  have : u = .int .i64 8 := by rw [nc_mode] at hu; cases hu; rfl
  rw [this]; exact World.cell?_setCell_same (h := c2) ..
 ·rw [nc_modeX _ _ _ _ _ hj] at hu
  rw [World.cell?_setCell_other (h := fun e => hj (by simp only [Addr.mk.injEq, true_and, and_true] at e; omega)) ..]
  exact hl j u hu
theorem LeW.unk {W W' : World} {g o : Nat} {nm : ByteArray} {v : Vd} {m : Md} {a : Option Addr} {n c : Nat} (h : LeW W W') (hl : Lies W g o (nc nm (unkV v) m (.slice a n c))) : Lies W' g o (nc nm (unkV v) m (.slice a n c)) := by
 obtain ⟨v', hv, hc'⟩ := h.node hl
 rcases hv with e | e
 ·rw [e] at hc'; exact hc'
 ·rw [e, unkV_unkV] at hc'; exact hc'
theorem F.mp_size (fv : Vd → Vd) (fm : Md → Md) : ∀ f : F, (f.mp fv fm).size = f.size
 | .nil => rfl
 | .cons _ _ _ ks r => by simp only [F.mp, F.size, F.mp_size fv fm ks, F.mp_size fv fm r]
theorem HasRP.snoc {W : World} {P : Nat → Prop} {nm : ByteArray} {v : Vd} {m : Md} {ks : F} : ∀ {f : F} {g o : Nat}, HasRP W P f g o → HasRP W P (.cons nm v m ks .nil) g (o + f.len * 41) → HasRP W P (f.app (.cons nm v m ks .nil)) g o
 | .nil, g, o, _, h => by simpa [F.len, F.app] using h
 | .cons _ _ _ _ r, g, o, ⟨h1, h2⟩, h => ⟨h1, HasRP.snoc (f := r) h2 (by rw [show o + 41 + r.len * 41 = o + (r.len + 1) * 41 from by omega]; exact h)⟩
theorem F.mp_take (fv : Vd → Vd) (fm : Md → Md) : ∀ (f : F) (k : Nat), (f.mp fv fm).take k = (f.take k).mp fv fm
 | f, 0 => by rw [F.take_zero, F.take_zero]; rfl
 | .nil, k + 1 => rfl
 | .cons _ _ _ _ r, k + 1 => by show F.cons _ _ _ _ ((r.mp fv fm).take k) = _; rw [F.mp_take fv fm r k]; rfl
def FI (P : Nat → Prop) (g : Nat) (W : World) (ks : F) (g' o' : Nat) (wr : World) (k : Nat) : Prop := Fg P g W wr ∧ HasRP wr P ((ks.mp unkV id).take k) g' o' ∧ ∃ fr : F, fr.mp unkV id = (ks.mp unkV id).drop k ∧ HasRP wr P fr g' (o' + k * 41)
theorem FI.at {P : Nat → Prop} {g : Nat} {W : World} {ks : F} {g' o' : Nat} {wr : World} {k : Nat} (h : FI P g W ks g' o' wr k) (hk : k < ks.len) : ∃ nm v m k1 r a cap, ((ks.mp unkV id).drop k) = .cons nm (unkV v) m (k1.mp unkV id) r ∧ Lies wr g' (o' + k * 41) (nc nm v m (.slice a k1.len cap)) ∧ k1.len ≤ cap ∧ (k1 = .nil ∨ ∃ g2 o2, a = some ⟨g2, o2, none⟩ ∧ P g2 ∧ HasRP wr P k1 g2 o2) ∧ k1.size < ks.size := by
 obtain ⟨_, _, fr, e, hr⟩ := h
 cases fr with
 | nil =>
  exfalso
  have h1 : ((ks.mp unkV id).drop k).len = 0 := by rw [← e]; rfl
  rw [F.drop_len, F.mp_len] at h1
  omega
 | cons nm v m k1 r =>
  obtain ⟨⟨a, cap, hc, hl, hk1⟩, _⟩ := hr
  refine ⟨nm, v, m, k1, r.mp unkV id, a, cap, e.symm, hc, hl, hk1, ?_⟩
  have h1 : ((ks.mp unkV id).drop k).size ≤ (ks.mp unkV id).size := F.drop_size _ _
  rw [← e, F.mp_size, F.mp_size] at h1
  simp only [F.size] at h1
  omega
theorem FI.step {P : Nat → Prop} {g : Nat} {W : World} {ks : F} {g' o' : Nat} {wr w2 : World} {k : Nat} (h : FI P g W ks g' o' wr k) (hP : P g') {nm : ByteArray} {v : Vd} {m : Md} {k1 r : F} {a : Option Addr} {cap : Nat} (hd : ((ks.mp unkV id).drop k) = .cons nm (unkV v) m (k1.mp unkV id) r)
  (hF : Fg P g' wr w2) (hl : Lies w2 g' (o' + k * 41) (nc nm (unkV v) m (.slice a k1.len cap))) (hcap : k1.len ≤ cap) (hk : k1 = .nil ∨ ∃ g2 o2, a = some ⟨g2, o2, none⟩ ∧ P g2 ∧ HasRP w2 P (k1.mp unkV id) g2 o2) : FI P g W ks g' o' w2 (k + 1) := by
 obtain ⟨h1, h2, fr, e, hr⟩ := h
 have hk2 : k < (ks.mp unkV id).len := by
  have h1 := F.drop_len (ks.mp unkV id) k
  rw [hd] at h1
  simp only [F.len] at h1
  omega
 have ht1 := F.take_more _ k _ _ _ _ _ hd
 have ht2 := F.take_len (ks.mp unkV id) k (by omega)
 have hts : (ks.mp unkV id).take k = (ks.take k).mp unkV id := F.mp_take unkV id ks k
 have hds : (ks.mp unkV id).drop (k + 1) = r := by
  obtain ⟨_, _, _, _, h1⟩ := F.drop_more _ k hk2
  rw [hd] at h1
  cases h1
  rfl
 refine ⟨h1.trans hF hP, ?_, ?_⟩
 ·rw [ht1]
  refine HasRP.snoc (by rw [hts] at h2 ⊢; exact hF.le.done h2) ?_
  rw [ht2]
  refine ⟨⟨a, cap, by rw [F.mp_len]; exact hl, by rw [F.mp_len]; exact hcap, ?_⟩, trivial⟩
  rcases hk with e | h
  ·subst e; exact .inl rfl
  ·exact .inr h
 ·cases fr with
  | nil => rw [hd] at e; cases e
  | cons n1 v1 m1 q1 r1 =>
   obtain ⟨_, hr1⟩ := hr
   obtain ⟨r', e1, _, hr'⟩ := hF.le.row hr1
   refine ⟨r', ?_, by rw [show o' + (k + 1) * 41 = o' + k * 41 + 41 from by omega]; exact hr'⟩
   rw [hd] at e
   rw [e1, hds]
   simp only [F.mp, F.cons.injEq] at e
   exact e.2.2.2.2
def FgOk (ks : F) : Prop := ∀ (P : Nat → Prop) (g o cap : Nat) (nm : ByteArray) (v : Vd) (m : Md) (a : Option Addr) (W : World), Lies W g o (nc nm v m (.slice a ks.len cap)) → ks.len ≤ cap → (ks = .nil ∨ ∃ g' o', a = some ⟨g', o', none⟩ ∧ P g' ∧ HasRP W P ks g' o') → UO W g → (∀ b, P b → UO W b) → ks.len ≤ 100000 →
  Calls Tryz.prog 59 #[.pointer (some ⟨g, o, none⟩)] W fun e w' => e = .returned (.tuple #[]) ∧ Fg P g W w' ∧ Lies w' g o (nc nm (unkV v) m (.slice a ks.len cap)) ∧ (ks = .nil ∨ ∃ g' o', a = some ⟨g', o', none⟩ ∧ P g' ∧ HasRP w' P (ks.mp unkV id) g' o')
theorem forget_step (ks : F) (ih : ∀ k' : F, k'.size < ks.size → FgOk k') (hsz : ks.size ≤ 100000) : FgOk ks := by
 intro P g o cap nm v m a W hl hcap hk hu hP hlen
 have c1 := hl 1 _ (nc_kind nm v m _)
 have HL := hid (⟨hl, hcap, hu, hP, hk, hsz, hlen⟩ : _ ∧ _ ∧ _ ∧ _ ∧ _ ∧ _ ∧ _)
 have fz : W.frozen? ⟨g, o + 1 + 1, none⟩ = false := by obtain ⟨c, t, h⟩ := hu; simp [World.frozen?, h]
 have c2 : W.cell? ⟨g, o + 1 + 1, none⟩ = some (.int .i64 v.mode) := hl 2 _ (nc_mode nm v m _)
 obtain ⟨n, hn⟩ : ∃ n, ks.len = n := ⟨_, rfl⟩
 have HIH := hid ih
 have HN := hid hn
 clear hl hcap hu hP ih hk hsz hlen
 by_cases h3 : v.kind = 3
 ·have HW1 : Hid (Fg P g W W ∧ Lies W g o (nc nm (unkV v) m (.slice a ks.len cap))) := ⟨Fg.refl .., by unfold unkV; rw [if_pos h3]; exact HL.out.1⟩
  rw [h3] at c1
  have l40 := HW1.out.2 40 _ (nc_kids ..)
  rw [hn] at l40
  clear hn
  go_enter Tryz.func59, Tryz.ntmps59
  go_upto_region 2 with fail
  go_wp2_with fail
  rcases HL.out.2.2.2.2.1 with e | ⟨g', o', ha, hPg, hr⟩
  ·obtain rfl : n = 0 := by rw [← HN.out, e]; rfl
   go_loopw [18] (fun i wr => i = .int .i64 0 ∧ wr = W) (fun _ _ => 0)
   case atStart => exact ⟨rfl, rfl⟩
   case round =>
    obtain ⟨rfl, rfl⟩ := hrel
    go_wp2_with fail
    go_end0
    exact ⟨rfl, HW1.out.1, HW1.out.2, .inl e⟩
  ·subst ha
   have hn9 : n ≤ 100000 := by rw [← HN.out]; exact HL.out.2.2.2.2.2.2
   have HG := hid (⟨hPg, hr⟩ : _ ∧ _)
   clear hPg hr
   go_loopw [18] (fun i wr => ∃ k : Nat, i = .int .i64 k ∧ k ≤ n ∧ Hid (FI P g W ks g' o' wr k ∧ Lies wr g o (nc nm (unkV v) m (.slice (some ⟨g', o', none⟩) ks.len cap)))) (fun i _ => n - iOf i)
   case atStart =>
    obtain ⟨f', e1, _, h1⟩ := HW1.out.1.le.row HG.out.2
    exact ⟨0, rfl, by omega, ⟨HW1.out.1, by rw [F.take_zero]; trivial, f', by rw [F.drop_zero]; exact e1, by simpa using h1⟩, HW1.out.2⟩
   case round =>
    obtain ⟨k, rfl, hk, HR⟩ := hrel
    by_cases hk2 : k < n
    ·have hkI : (k : Int) < n := by omega
     obtain ⟨nm1, v1, m1, k1, r1, a1, cap1, hd, hl1, hcap1, hkk, hs1⟩ := HR.out.1.at (by rw [HN.out]; exact hk2)
     have CF := HIH.out k1 hs1 P g' (o' + k * 41) cap1 nm1 v1 m1 a1 wr hl1 hcap1 hkk (HR.out.1.1.uo _ (HL.out.2.2.2.1 g' HG.out.1)) (fun b hb => HR.out.1.1.uo _ (HL.out.2.2.2.1 b hb)) (by have := k1.len_le_size; have := HL.out.2.2.2.2.2.1; omega)
     have j40 := HR.out.2 40 _ (nc_kids ..)
     rw [HN.out] at j40
     have HD := hid (⟨hd, hcap1⟩ : _ ∧ _)
     clear hd hl1 hcap1 hkk hs1
     go_wp2_with (go_at_call 59; refine CF.mono ?_; rintro e w2 ⟨rfl, hF, hl2, hk3⟩; have HQ := hid (⟨hF, hl2, hk3⟩ : _ ∧ _ ∧ _); clear hF hl2 hk3 CF)
     go_roundw
     case rel =>
      refine ⟨k + 1, by go_num, by omega, ?_⟩
      exact ⟨HR.out.1.step HG.out.1 HD.out.1 HQ.out.1 HQ.out.2.1 HD.out.2 HQ.out.2.2, HQ.out.1.le.unk HR.out.2⟩
     case measure => simp; omega
    ·have hkI : ¬ (k : Int) < n := by omega
     obtain rfl : k = n := by omega
     go_wp2_with fail
     go_end0
     refine ⟨rfl, HR.out.1.1, HR.out.2, .inr ⟨g', o', by simp, HG.out.1, ?_⟩⟩
     have h1 := HR.out.1.2.1
     rwa [F.take_all _ _ (by rw [F.mp_len, HN.out]; exact Nat.le_refl _)] at h1
 ·have HW1 : Hid (Fg P g W (W.setCell ⟨g, o + 1 + 1, none⟩ (.int .i64 8)) ∧ Lies (W.setCell ⟨g, o + 1 + 1, none⟩ (.int .i64 8)) g o (nc nm (unkV v) m (.slice a ks.len cap))) := ⟨Fg.store HL.out.1 h3, lies_unk HL.out.1 h3⟩
  have l40 := HW1.out.2 40 _ (nc_kids ..)
  rw [hn] at l40
  clear hn
  have hb : (v.kind != 3) = true := by simpa using h3
  go_enter Tryz.func59, Tryz.ntmps59
  go_upto_region 2 with fail
  generalize W.setCell ⟨g, o + 1 + 1, none⟩ (.int .i64 8) = W1 at *
  go_wp2_with fail
  rcases HL.out.2.2.2.2.1 with e | ⟨g', o', ha, hPg, hr⟩
  ·obtain rfl : n = 0 := by rw [← HN.out, e]; rfl
   go_loopw [18] (fun i wr => i = .int .i64 0 ∧ wr = W1) (fun _ _ => 0)
   case atStart => exact ⟨rfl, rfl⟩
   case round =>
    obtain ⟨rfl, rfl⟩ := hrel
    go_wp2_with fail
    go_end0
    exact ⟨rfl, HW1.out.1, HW1.out.2, .inl e⟩
  ·subst ha
   have hn9 : n ≤ 100000 := by rw [← HN.out]; exact HL.out.2.2.2.2.2.2
   have HG := hid (⟨hPg, hr⟩ : _ ∧ _)
   clear hPg hr
   go_loopw [18] (fun i wr => ∃ k : Nat, i = .int .i64 k ∧ k ≤ n ∧ Hid (FI P g W ks g' o' wr k ∧ Lies wr g o (nc nm (unkV v) m (.slice (some ⟨g', o', none⟩) ks.len cap)))) (fun i _ => n - iOf i)
   case atStart =>
    obtain ⟨f', e1, _, h1⟩ := HW1.out.1.le.row HG.out.2
    exact ⟨0, rfl, by omega, ⟨HW1.out.1, by rw [F.take_zero]; trivial, f', by rw [F.drop_zero]; exact e1, by simpa using h1⟩, HW1.out.2⟩
   case round =>
    obtain ⟨k, rfl, hk, HR⟩ := hrel
    by_cases hk2 : k < n
    ·have hkI : (k : Int) < n := by omega
     obtain ⟨nm1, v1, m1, k1, r1, a1, cap1, hd, hl1, hcap1, hkk, hs1⟩ := HR.out.1.at (by rw [HN.out]; exact hk2)
     have CF := HIH.out k1 hs1 P g' (o' + k * 41) cap1 nm1 v1 m1 a1 wr hl1 hcap1 hkk (HR.out.1.1.uo _ (HL.out.2.2.2.1 g' HG.out.1)) (fun b hb => HR.out.1.1.uo _ (HL.out.2.2.2.1 b hb)) (by have := k1.len_le_size; have := HL.out.2.2.2.2.2.1; omega)
     have j40 := HR.out.2 40 _ (nc_kids ..)
     rw [HN.out] at j40
     have HD := hid (⟨hd, hcap1⟩ : _ ∧ _)
     clear hd hl1 hcap1 hkk hs1
     go_wp2_with (go_at_call 59; refine CF.mono ?_; rintro e w2 ⟨rfl, hF, hl2, hk3⟩; have HQ := hid (⟨hF, hl2, hk3⟩ : _ ∧ _ ∧ _); clear hF hl2 hk3 CF)
     go_roundw
     case rel =>
      refine ⟨k + 1, by go_num, by omega, ?_⟩
      exact ⟨HR.out.1.step HG.out.1 HD.out.1 HQ.out.1 HQ.out.2.1 HD.out.2 HQ.out.2.2, HQ.out.1.le.unk HR.out.2⟩
     case measure => simp; omega
    ·have hkI : ¬ (k : Int) < n := by omega
     obtain rfl : k = n := by omega
     go_wp2_with fail
     go_end0
     refine ⟨rfl, HR.out.1.1, HR.out.2, .inr ⟨g', o', by simp, HG.out.1, ?_⟩⟩
     have h1 := HR.out.1.2.1
     rwa [F.take_all _ _ (by rw [F.mp_len, HN.out]; exact Nat.le_refl _)] at h1
theorem forget_any : ∀ (n : Nat) (ks : F), ks.size < n → ks.size ≤ 100000 → FgOk ks
 | 0, _, h, _ => absurd h (Nat.not_lt_zero _)
 | n + 1, ks, h, hs => forget_step ks (fun k' hk => forget_any n k' (by omega) (by omega)) hs
theorem written_low (p : Nat) (v : Vd) (m : Md) (k : K) (w : World) (ver : Int) (hv : ver < 2) (hT : AtT w p v m k) (hsz : k.flat.size ≤ 100000) (hw : k.flat.weight ≤ 100000) (hE : checkE (unkV v) m (k.flat.mp unkV id) = 0) :
  Calls Tryz.prog 34 #[.pointer (some ⟨p, 0, none⟩), .int .i64 ver] w fun e w' => ∃ p2 k2, e = .returned (.pointer (some ⟨p2, 0, none⟩)) ∧ AtT w' p2 (unkV v) m k2 ∧ k2.flat = k.flat.mp unkV id ∧ G w w' := by
 have CN := treeNode_any (k.flat.size + 1) k (Nat.lt_succ_self _) p v m w hT hsz
 have HH := hid (⟨hsz, hw, hE⟩ : _ ∧ _ ∧ _)
 have hv2 : ¬ (2 ≤ ver) := by omega
 clear hT hsz hw hE hv
 go_enter Tryz.func34, Tryz.ntmps34
 go_upto_region 4 with (first
  | (go_at_call 15; refine CN.mono ?_; rintro e w2 ⟨c', rfl, hN, hg2⟩; have HF := hid hN.facts; have HN := hid (⟨hN, hg2⟩ : _ ∧ _); clear hN hg2 CN; obtain ⟨B, hB⟩ : ∃ B, w2.heap.size = B := ⟨_, rfl⟩)
  | ((with_reducible refine wpList_execW (.pointer (some ⟨B, 0, none⟩)) (w2.alloc (.cells z30 30)) ?_ ?_ ?_); exact exec_alloc30e rfl w2 B hB; kernel_rfl)
  | ((with_reducible refine wpList_skipW ((w2.alloc (.cells z30 30)).setRow B c') ?_ ?_ ?_); exact exec_storeT 30 _ _ rfl B c' z30 rfl rfl _ (by rw [← hB]; exact World.alloc_heap_new w2 _) (by rw [HF.out.1]; kernel_rfl) (by rw [z30_size, HF.out.1]) HF.out.2; kernel_rfl))
 try simp only [Act.put, List.setIfInBounds_toArray, List.set_cons_zero, List.set_cons_succ]
 have N4 := new_varT w2 30 z30 c'
 rw [hB] at N4
 generalize (w2.alloc (.cells z30 30)).setRow B c' = w4 at *
 obtain ⟨kv, hc, ka, kcap, hkv, hcap, hks⟩ := HN.out.1
 subst hkv
 have hlB : Lies w4 B 0 (nc ⟨#[]⟩ v m (.slice ka k.flat.len kcap)) := by rw [← hc]; exact lies_of_heap N4.2.1
 have hB2 : w.heap.size ≤ B := by have := HN.out.2.size; omega
 have CF := forget_any (k.flat.size + 1) k.flat (Nat.lt_succ_self _) HH.out.1 (NewC w w2) B 0 kcap _ v m ka w4 hlB hcap (hks.imp id fun ⟨g', o', h1, h2, h3⟩ => ⟨g', o', h1, h2, h3.keep (fun b hb => ⟨by obtain ⟨_, o, ho, _⟩ := hb; exact N4.1.block b (gS ho), hb⟩) (by obtain ⟨_, o, ho, _⟩ := h2; exact N4.1.block g' (gS ho))⟩) ⟨_, _, N4.2.1⟩ (fun b hb => by
  obtain ⟨_, o, ho, hp⟩ := hb
  have h1 := (N4.1.block b (gS ho)).trans ho
  cases o with
  | cells c t fr =>
   have : fr = (0, 0) := by simpa [plainO] using hp
   subst this
   exact ⟨c, t, h1⟩
  | _ => cases hp) (by have := k.flat.len_le_size; have := HH.out.1; omega)
 have H4 := hid (⟨N4, hB2, hcap⟩ : _ ∧ _ ∧ _)
 clear hlB N4 hks hcap hc HF
 go_upto_region 5 with (go_at_call 59; refine CF.mono ?_; rintro e w5 ⟨rfl, hF, hl5, hk5⟩; have H5 := hid (⟨hF, hl5, hk5⟩ : _ ∧ _ ∧ _); clear hF hl5 hk5 CF)
 have hN5 : HasN w5 (nc ⟨#[]⟩ (unkV v) m (.slice ka k.flat.len kcap)) ⟨#[]⟩ (unkV v) m (k.flat.mp unkV id) := by
  refine ⟨_, rfl, ka, kcap, by rw [F.mp_len], by rw [F.mp_len]; exact H4.out.2.2, ?_⟩
  rcases H5.out.2.2 with e | ⟨g', o', h1, _, h3⟩
  ·rw [e]; exact .inl rfl
  ·exact .inr ⟨g', o', h1, h3.has⟩
 have CO := of_anyP _ _ _ _ _ w5 hN5 (by rw [F.mp_weight]; exact HH.out.2.1)
 rw [HH.out.2.2] at CO
 have HL5 := hid (H5.out.2.1)
 clear hN5
 have hsz5 : (nc ⟨#[]⟩ (unkV v) m (.slice ka k.flat.len kcap)).size = 41 := nc_size ..
 generalize nc ⟨#[]⟩ (unkV v) m (.slice ka k.flat.len kcap) = C5 at *
 go_upto_region 6 with (first
  | ((with_reducible refine wpList_exec (.agg C5) ?_ ?_ ?_); exact exec_load30 _ rfl B 0 rfl C5 hsz5 HL5.out; kernel_rfl)
  | (go_at_call 29; refine CO.mono ?_; rintro e w6 ⟨u, rfl, hg6, hr⟩; obtain ⟨h0, _⟩ | ⟨_, p2, k2, rfl, hA, hfl, _, _⟩ := hr; exact absurd rfl h0; have H6 := hid (⟨hg6, hA, hfl⟩ : _ ∧ _ ∧ _); clear hg6 hA hfl CO))
 go_wp2
 refine bodyPost_ret (results_tmp rfl _ _ _) rfl ⟨p2, k2, rfl, H6.out.2.1, H6.out.2.2, ?_⟩
 have g5 : G w w5 := by
  have hg4 : G w w4 := HN.out.2.trans H4.out.1.1
  have hF := H5.out.1
  exact Below.trans (B := w.heap.size) hg4 ⟨hF.le.os, hF.le.tape, hF.le.output, Nat.le_of_eq hF.le.size.symm, fun b hb => hF.oth b (fun h => by have := h.1; omega) (fun e => by have := H4.out.2.1; omega)⟩
 exact g5.trans H6.out.1
end Go.Proofs.YtjikkhbcbfpocaaGreatDoor
namespace Go.Proofs.YtjikkhbcbfpocaaGreatDoor
open Go.RowKit Go.Shelf
def wrV (ver : Int) (v : Vd) : Vd := if ver < 2 then unkV v else v
def wrF (ver : Int) (f : F) : F := if ver < 2 then f.mp unkV id else f
theorem cOk.unk {v : Vd} {m : Md} (h : cOk v m) : cOk (unkV v) m := by
 unfold unkV
 split
 ·exact h
 ·exact ⟨h.1, ⟨⟨by show (0 : Int) ≤ 8; omega, by show (8 : Int) < _; omega⟩, h.2.1.2⟩, ⟨by show (0 : Int) ≤ 8; omega, by show (8 : Int) < _; omega⟩, h.2.2.2⟩
theorem gOk.unk : ∀ {f : F}, gOk f → gOk (f.mp unkV id)
 | .nil, _ => trivial
 | .cons _ _ _ _ _, h => ⟨h.1, h.2.1.unk, gOk.unk h.2.2.1, gOk.unk h.2.2.2⟩
theorem nOk.unk : ∀ {f : F}, nOk f → nOk (f.mp unkV id)
 | .nil, _ => trivial
 | .cons _ _ _ _ _, h => ⟨h.1, nOk.unk h.2.1, nOk.unk h.2.2⟩
theorem owns_down {w : World} {lo lo' : Nat} {u : Value} {l : List Nat} (h : Su.Owns w lo u l) (hl : lo' ≤ lo) : Su.Owns w lo' u l := by
 obtain ⟨h1, h | ⟨g, cap, cur, h2, h3, h4⟩⟩ := h
 ·exact ⟨h1, .inl h⟩
 ·exact ⟨h1, .inr ⟨g, cap, cur, h2, Nat.le_trans hl h3, h4⟩⟩
theorem encE_zero {ver kind count most : Int} (h : encE ver kind count most = 0) : 1 ≤ ver ∧ ver ≤ 3 ∧ kind = 1 ∧ count ≤ min (max most 1) 1048576 := by
 unfold encE at h
 split at h
 ·omega
 ·split at h
  ·omega
  ·split at h
   ·omega
   ·omega
theorem encode_whole (p : Nat) (v : Vd) (m : Md) (k : K) (w : World) (ver most : Int) (hT : AtT w p v m k) (hc : cOk v m) (hg : gOk k.flat) (hn : nOk k.flat) (hsz : k.flat.size ≤ 40000) (hw : k.flat.weight ≤ 100000) (hE : checkE (unkV v) m (k.flat.mp unkV id) = 0) (hTb : Su.Tabs w) (hTh : Su.Half w) :
  Calls Tryz.prog 11 #[.pointer (some ⟨p, 0, none⟩), .int .i64 ver, .int .i64 most] w fun e w' => (encE ver v.kind (1 + k.flat.size : Nat) most ≠ 0 ∧ e = .returned (.tuple #[.slice none 0 0, .int .i64 (encE ver v.kind (1 + k.flat.size : Nat) most)]) ∧ G w w') ∨
   (encE ver v.kind (1 + k.flat.size : Nat) most = 0 ∧ ∃ u, e = .returned (.tuple #[u, .int .i64 0]) ∧ Su.Owns w' w.heap.size u (arcW ver.toNat (wrV ver v) m (wrF ver k.flat)) ∧ G w w') := by
 refine encode_any p v m k w ver most hT (by omega) (fun u w' => Su.Owns w' w.heap.size u (arcW ver.toNat (wrV ver v) m (wrF ver k.flat)) ∧ G w w') fun h0 W hG => ?_
 obtain ⟨h1, h2, hk, _⟩ := encE_zero h0
 obtain ⟨n, rfl⟩ : ∃ n : Nat, ver = n := ⟨ver.toNat, by omega⟩
 have key : ∀ (p2 : Nat) (v2 : Vd) (k2 : K) (w2 : World), AtT w2 p2 v2 m k2 → v2.kind = 1 → cOk v2 m → gOk k2.flat → nOk k2.flat → k2.flat.size ≤ 40000 → G w w2 → Calls Tryz.prog 33 #[.pointer (some ⟨p2, 0, none⟩), .int .i64 (n : Int)] w2 fun e w'' => ∃ u, e = .returned u ∧ Su.Owns w'' w.heap.size u (arcW n v2 m k2.flat) ∧ G w w'' := by
  intro p2 v2 k2 w2 hA hk2 hc2 hg2 hn2 hs2 hG2
  have hl := arcW_len n (by omega) hc2 hg2 hn2 (by omega)
  refine (encoded_any p2 v2 m k2 w2 n (by omega) hA hk2 hc2 hg2 (by omega) (hTb.up hG2) (hTh.below hG2 hTh.size) (by omega) (arcB_bytes n hc2 hg2)).mono ?_
  rintro e w3 ⟨u, rfl, ho, hG3⟩
  exact ⟨u, rfl, owns_down ho hG2.size, hG2.trans hG3⟩
 by_cases hv : (n : Int) < 2
 ·refine (written_low p v m k W n hv (hT.grow hG) (by omega) hw hE).mono ?_
  rintro e w2 ⟨p2, k2, rfl, hA, hf, hG2⟩
  refine ⟨p2, rfl, ?_⟩
  have := key p2 (unkV v) k2 w2 hA (by rw [unkV_kind]; exact hk) hc.unk (by rw [hf]; exact hg.unk) (by rw [hf]; exact hn.unk) (by rw [hf, F.mp_size]; exact hsz) (hG.trans hG2)
  unfold wrV wrF
  rw [if_pos hv, if_pos hv, ← hf]
  exact this
 ·refine (written_high p n (by omega) W).mono ?_
  rintro e w2 ⟨rfl, rfl⟩
  refine ⟨p, rfl, ?_⟩
  have := key p v k w2 (hT.grow hG) hk hc hg hn hsz hG
  unfold wrV wrF
  rw [if_neg hv, if_neg hv]
  exact this
theorem rightMB_ok {n s : Int} (h : rightMB n s = true) : (0 ≤ n ∧ n < 9223372036854775808) ∧ (0 ≤ s ∧ s < 9223372036854775808) := by
 unfold rightMB at h
 have := of_decide_eq_true h
 omega
theorem own_cOk {v : Vd} {m : Md} {b : Bool} (h : ownE v m b = 0) (hB : Su.Bytes v.sum) : cOk v m := by
 unfold ownE at h
 by_cases c1 : v.kind ≠ 1 ∧ v.kind ≠ 2 ∧ v.kind ≠ 3
 ·rw [if_pos c1] at h; omega
 ·rw [if_neg c1] at h
  by_cases c2 : b = true ∧ v.kind ≠ 1
  ·rw [if_pos c2] at h; omega
  ·rw [if_neg c2] at h
   by_cases c3 : rightVB v = false
   ·rw [if_pos c3] at h; omega
   ·rw [if_neg c3] at h
    have c3 : rightVB v = true := by simpa using c3
    have hkind : v.kind = 1 ∨ v.kind = 2 ∨ v.kind = 3 := by omega
    have hv : (0 ≤ v.mode ∧ v.mode ≤ 8) ∧ (0 ≤ v.size ∧ v.size ≤ 1099511627775) := by
     unfold rightVB at c3
     rcases hkind with e | e | e
     ·rw [if_pos e] at c3; have := of_decide_eq_true c3; omega
     ·rw [if_neg (by omega), if_pos e] at c3; have := of_decide_eq_true c3; omega
     ·rw [if_neg (by omega), if_neg (by omega), if_pos e] at c3; have := of_decide_eq_true c3; omega
    have hm : mOk m := by
     by_cases e : v.kind = 2
     ·by_cases c4 : v.kind = 2 ∧ (rightMB m.n0 m.s0 = false ∨ rightMB m.n1 m.s1 = false)
      ·rw [if_pos c4] at h; omega
      ·have a1 : rightMB m.n0 m.s0 = true := by
        cases q : rightMB m.n0 m.s0 with
        | true => rfl
        | false => exact absurd ⟨e, .inl q⟩ c4
       have a2 : rightMB m.n1 m.s1 = true := by
        cases q : rightMB m.n1 m.s1 with
        | true => rfl
        | false => exact absurd ⟨e, .inr q⟩ c4
       exact ⟨(rightMB_ok a1).1, (rightMB_ok a1).2, (rightMB_ok a2).1, (rightMB_ok a2).2⟩
     ·rw [if_neg (fun q => e q.1)] at h
      by_cases c5 : v.kind ≠ 2 ∧ m ≠ Md.zero
      ·rw [if_pos c5] at h; omega
      ·have : m = Md.zero := Classical.byContradiction fun q => c5 ⟨e, q⟩
       rw [this]
       unfold mOk Md.zero
       simp
    exact ⟨hkind, ⟨⟨hv.1.1, by omega⟩, ⟨hv.2.1, by omega⟩, hB⟩, ⟨hv.1.1, by omega⟩, hm⟩
theorem placeE_zero {prev : Option ByteArray} {nm : ByteArray} {lev : Nat} (h : placeE prev nm lev = 0) : lev ≤ 64 ∧ nameB (tl nm) = true ∧ leP nm prev = false := by
 unfold placeE at h
 split at h
 ·omega
 ·split at h
  ·omega
  ·split at h
   ·omega
   ·rename_i q1 q2 q3
    exact ⟨by omega, by simpa using q2, by simpa using q3⟩
theorem nameB_size {nm : ByteArray} (h : nameB (tl nm) = true) : nm.size ≤ 255 := by
 have := (of_decide_eq_true h).2.1
 rwa [tl_len] at this
theorem faultF_cons_none {nm : ByteArray} {v : Vd} {m : Md} {ks r : F} {prev : Option ByteArray} {L : List ByteArray} (h : faultF (.cons nm v m ks r) prev L = none) : placeE prev nm (L.length + 1) = 0 ∧ ownE v m (decide (0 < ks.len)) = 0 ∧ faultF ks none (L ++ [nm]) = none ∧ faultF r (some nm) L = none := by
 unfold faultF at h
 split at h
 ·cases h
 ·split at h
  ·cases h
  ·rename_i q1 q2
   cases hk : faultF ks none (L ++ [nm]) with
   | some x => rw [hk] at h; cases h
   | none =>
    rw [hk] at h
    exact ⟨by omega, by omega, rfl, h⟩
theorem fault_gOk : ∀ {f : F} {prev : Option ByteArray} {L : List ByteArray}, faultF f prev L = none → bytF f → gOk f ∧ nOk f
 | .nil, _, _, _, _ => ⟨trivial, trivial⟩
 | .cons nm v m ks r, prev, L, h, hb => by
  obtain ⟨a, b, c, d⟩ := faultF_cons_none h
  have hs := nameB_size (placeE_zero a).2.1
  have h1 := fault_gOk c hb.2.1
  have h2 := fault_gOk d hb.2.2
  exact ⟨⟨by omega, own_cOk b hb.1, h1.1, h2.1⟩, ⟨hs, h1.2, h2.2⟩⟩
theorem faultF_ne : ∀ {f : F} {prev : Option ByteArray} {L : List ByteArray} {x : List ByteArray × Int}, faultF f prev L = some x → x.2 ≠ 0
 | .nil, _, _, _, h => by cases h
 | .cons nm v m ks r, prev, L, x, h => by
  unfold faultF at h
  split at h
  ·rename_i q
   cases h
   exact q
  ·split at h
   ·rename_i q1 q
    cases h
    exact q
   ·cases hk : faultF ks none (L ++ [nm]) with
    | some y =>
     rw [hk] at h
     cases h
     exact faultF_ne hk
    | none =>
     rw [hk] at h
     exact faultF_ne h
theorem checkE_zero {v : Vd} {m : Md} {ks : F} (h : checkE v m ks = 0) : ownE v m (decide (0 < ks.len)) = 0 ∧ faultF ks none [] = none := by
 unfold checkE faultN at h
 split at h
 ·rename_i q
  exact absurd h q
 ·rename_i q
  refine ⟨by omega, ?_⟩
  cases hk : faultF ks none [] with
  | none => rfl
  | some x =>
   rw [hk] at h
   exact absurd h (faultF_ne hk)
theorem checkE_of {v : Vd} {m : Md} {ks : F} (h1 : ownE v m (decide (0 < ks.len)) = 0) (h2 : faultF ks none [] = none) : checkE v m ks = 0 := by
 unfold checkE faultN
 rw [if_neg (by omega), h2]
 rfl
theorem decOk_of {l : List Int} {ver : Int} {r r' : Rv} {d : Nd} (h : RdOk l ver 0 [] r d r') (hst : r.st = []) (hw : d.ks.weight ≤ 100000) (hb : r'.st.length ≤ 100000000) : DecOk d r' := by
 obtain ⟨X, S, _, _, x3, x4, _, _⟩ := h.ex
 have hf := h.kid [] rfl
 have hg := fault_gOk hf h.byt.2
 refine ⟨checkE_of h.own hf, hw, (own_cOk h.own h.byt.1).2.1, hg.1.fOk, ?_, hb, Nat.le_trans (F.size_le_weight _) hw⟩
 rw [x3, hst]
 simpa using x4
theorem nodes_ok {l : List Int} {ver : Int} (hB : Wire.Bytes l) {most : Nat} {r : Rv} (hst : r.st = []) (hf : (nodesR l ver most r).2.flt = none) :
  ∃ rA r', nodesA l most r = rA ∧ RdOk l ver 0 [] rA (nodesR l ver most r).1 r' ∧ r'.s.p = l.length ∧ (nodesR l ver most r).2.st = r'.st ∧ rA.st = [] ∧ 1 + (nodesR l ver most r).1.ks.size ≤ most ∧ Stands l r (encN (1 + (nodesR l ver most r).1.ks.size)) { rA with left := r.left } := by
 unfold nodesR at hf ⊢
 simp only at hf ⊢
 have hE : (nodesE r.s.p (nodesB l (nodeR l ver 66 none ⟨#[]⟩ (nodesA l most r)).2)) = nodesB l (nodeR l ver 66 none ⟨#[]⟩ (nodesA l most r)).2 ∧ ¬ 0 < (nodesB l (nodeR l ver 66 none ⟨#[]⟩ (nodesA l most r)).2).left := by
  unfold nodesE at hf ⊢
  split
  ·rename_i q
   rw [if_pos q] at hf
   cases hf
  ·rename_i q
   exact ⟨rfl, q⟩
 rw [hE.1] at hf ⊢
 have hB1 : (nodesB l (nodeR l ver 66 none ⟨#[]⟩ (nodesA l most r)).2).left = (nodeR l ver 66 none ⟨#[]⟩ (nodesA l most r)).2.left := by unfold nodesB; rw [(Sm.must _ _ _).left]
 have hB2 : (nodesB l (nodeR l ver 66 none ⟨#[]⟩ (nodesA l most r)).2).st = (nodeR l ver 66 none ⟨#[]⟩ (nodesA l most r)).2.st := by unfold nodesB; rw [(Sm.must _ _ _).st]
 have hn := hE.2
 rw [hB1] at hn
 unfold nodesB at hf
 obtain ⟨h1, _, h3, _⟩ := must_none hf
 simp only at h1 h3
 have hAl := nodesA_left l most r
 have hAf : (nodesA l most r).flt = none := (nodeR_lt l ver 66 none ⟨#[]⟩ (nodesA l most r)).none h3
 obtain ⟨R1, _, _⟩ := nodeR_ok (ver := ver) hB 66 none ⟨#[]⟩ (nodesA l most r) rfl (by decide) (by rw [hAl]; omega) h3
 have hiv := (nodeR_inv l ver 66 none ⟨#[]⟩ (nodesA l most r) rfl (by decide) (by rw [hAl]; omega)).1.2 h3
 have hend : (nodeR l ver 66 none ⟨#[]⟩ (nodesA l most r)).2.s.p = l.length := by
  unfold Wi.endS at h1
  rw [if_neg (by rw [R1.fe.1]; simp)] at h1
  split at h1
  ·simp at h1
  ·obtain ⟨X, _, x1, x2, _⟩ := R1.ex
   have hx := congrArg List.length x1
   rw [List.length_drop, lA, up_len, List.length_drop] at hx
   have hpos : 1 ≤ X.length := by
    obtain ⟨X', S', y1, y2, _, _, _, y6⟩ := R1.ex
    omega
   omega
 unfold nodesA at hAf
 obtain ⟨a1, a2, a3, a4⟩ := must_none hAf
 have hb : boundR { r with s := (Wi.uintS l r.s most).2, left := ((Wi.uintS l r.s most).1 : Int) } = { r with s := (Wi.uintS l r.s most).2, left := ((Wi.uintS l r.s most).1 : Int) } := by
  unfold boundR at a3 ⊢
  split
  ·rename_i q
   rw [if_pos q] at a3
   cases a3
  ·rfl
 rw [hb] at a1 a3 a4
 simp only at a1 a3
 have hnum := num_none hB (l := l) (least := 0) (most := most) (r := r) (by
  unfold numR
  simp only
  unfold mustR
  rw [if_neg (by rintro (q | q); exact q a1; simp at q)]
  exact a3)
 have hval : (numR l 0 most r).1 = (Wi.uintS l r.s most).1 := rfl
 have hcnt : (Wi.uintS l r.s most).1 = 1 + (nodeR l ver 66 none ⟨#[]⟩ (nodesA l most r)).1.ks.size := by
  have := R1.left
  rw [hAl] at this
  omega
 refine ⟨nodesA l most r, (nodeR l ver 66 none ⟨#[]⟩ (nodesA l most r)).2, rfl, R1, hend, hB2, ?_, ?_, ?_⟩
 ·unfold nodesA
  rw [(Sm.must _ _ _).st, (Sm.bound _).st]
  exact hst
 ·rw [← hcnt, ← hval]; exact hnum.2.1
 ·have hS := hnum.2.2
  rw [hval, hcnt] at hS
  refine ⟨hS.fe, hS.fl, hS.drop, ?_⟩
  have hu := hS.st
  have e : nodesA l most r = { r with s := (Wi.uintS l r.s most).2, left := ((Wi.uintS l r.s most).1 : Int) } := by unfold nodesA; rw [hb, a4]
  have e9 : ({ nodesA l most r with left := r.left } : Rv) = { r with s := (Wi.uintS l r.s most).2 } := by rw [e]
  rw [e9]
  have e2 : (numR l 0 most r).2 = { r with s := (Wi.uintS l r.s most).2 } := by
   unfold numR
   simp only
   unfold mustR
   rw [if_neg (by rintro (q | q); exact q a1; simp at q)]
  have e3 := hS.eq
  rw [e2] at e3
  have e4 := congrArg Rv.s e3
  simp only at e4
  rw [e4]
theorem root_kind {l : List Int} {ver : Int} {n : Nat} {last : ByteArray} {r : Rv} (h : (nodeR l ver (n + 1) none last r).2.flt = none) : (nodeR l ver (n + 1) none last r).1.v.kind = 1 := by
 unfold nodeR at h ⊢
 have hh : (headR l none last r).2.flt = none := by
  cases e : (headR l none last r).2.flt with
  | none => rfl
  | some x =>
   unfold bodyR at h
   rw [if_pos (by rw [e]; rfl)] at h
   simp only at h
   rw [e] at h; cases h
 have hk := (kind_none hh).2.2.2.2.2.2.1
 have hk1 : (kindR l (deepO none) r).1 = 1 := by
  have hk : kOk 0 (kindR l 0 r).1 = true := hk
  show (kindR l 0 r).1 = 1
  unfold kOk at hk
  simpa using hk
 unfold bodyR
 rw [if_neg (by rw [hh]; decide), if_pos hk1]
theorem encN_small {n : Nat} (h : n < 128) : encN n = [n] := by
 unfold encN
 rw [Wire.enc_lt h]
 rfl
theorem open_none {b : List Nat} (hB : Su.Bytes b) (hF : opF b = none) : (1 ≤ (opU b).1 ∧ (opU b).1 ≤ 3) ∧ (opU b).2.p = 5 ∧ 9 ≤ b.length ∧ b.take 5 = [116, 119, 110, 101] ++ encN (opU b).1 ∧ b = b.take (b.length - 4) ++ le4 (Su.Crc.crc (b.take (b.length - 4))) := by
 unfold opF at hF
 by_cases c1 : opM b = false
 ·rw [if_pos c1] at hF; cases hF
 rw [if_neg c1] at hF
 by_cases c2 : (opU b).1 = 0
 ·rw [if_pos c2] at hF; cases hF
 rw [if_neg c2] at hF
 by_cases c3 : b.length < (opU b).2.p + 4
 ·rw [if_pos c3] at hF; cases hF
 rw [if_neg c3] at hF
 by_cases c4 : b.drop (b.length - 4) = le4 (Su.Crc.crc (b.take (b.length - 4)))
 case neg => rw [if_neg c4] at hF; cases hF
 have hm : b.take 4 = [116, 119, 110, 101] := by
  have c1 : opM b = true := by simpa using c1
  unfold opM at c1
  exact of_decide_eq_true c1
 have hle : (opU b).1 ≤ 3 := uintS_le _ _ _
 cases hr : Wire.rd 0 ((up b).drop 4) with
 | form i =>
  have hu : opU b = (0, ⟨4, ((4 + i : Nat) : Int), 11⟩) := by unfold opU Wi.uintS; rw [if_neg (by simp), hr]
  rw [hu] at c2; exact absurd rfl c2
 | short =>
  have hu : opU b = (0, ⟨4, (up b).length, 10⟩) := by unfold opU Wi.uintS; rw [if_neg (by simp), hr]
  rw [hu] at c2; exact absurd rfl c2
 | ok n k =>
  have hu : opU b = if n ≤ 3 then (n, ⟨4 + k, 0, 0⟩) else (0, ⟨4, 4, 12⟩) := by unfold opU Wi.uintS; rw [if_neg (by simp), hr]; rfl
  by_cases hn : n ≤ 3
  case neg => rw [if_neg hn] at hu; rw [hu] at c2; exact absurd rfl c2
  rw [if_pos hn] at hu
  obtain ⟨e1, e2⟩ := up_enc_take (up_bytes hB) hr
  have hs := encN_small (n := n) (by omega)
  rw [hs] at e1 e2
  have hk : k = 1 := e2.symm
  rw [hu, hk] at c3
  simp only at c3
  rw [hu, hk]
  simp only
  rw [hu] at c2
  simp only at c2
  refine ⟨⟨by omega, hn⟩, trivial, by omega, ?_, by rw [← c4, List.take_append_drop]⟩
  rw [hs]
  have h5 : b.drop 4 = n :: b.drop 5 := by
   refine up_inj ?_
   rw [up_drop, e1, ← up_drop]
   rfl
  have h6 := List.take_append_drop 4 b
  rw [hm, h5] at h6
  rw [← h6]
  rfl
theorem dec_sound {b : List Nat} {most : Int} (hB : Su.Bytes b) (hF : opF b = none) (hf : (decN b most).2.flt = none) :
  (∃ rA r', RdOk (decL b) (opU b).1 0 [] rA (decN b most).1 r' ∧ rA.st = [] ∧ (decN b most).2.st = r'.st) ∧ 1 + (decN b most).1.ks.size ≤ bnd most ∧ (decN b most).1.v.kind = 1 ∧ (decN b most).1.ks.weight ≤ b.length ∧
  ((decN b most).2.st.map (·.hash) = dirT (decN b most).1.v (decN b most).1.ks → b = arcW (opU b).1 (decN b most).1.v (decN b most).1.m (decN b most).1.ks) := by
 obtain ⟨hv, hp, hl, h5, hsum⟩ := open_none hB hF
 have hBl : Wire.Bytes (decL b) := up_bytes fun x hx => hB x (List.mem_of_mem_take hx)
 have hlen : (decL b).length = b.length - 4 := by unfold decL; rw [up_len, List.length_take]; omega
 obtain ⟨rA, r', n1, n2, n3, n4, n5, n6, n7⟩ : ∃ rA r', nodesA (decL b) (bnd most) (decR b) = rA ∧ RdOk (decL b) (opU b).1 0 [] rA (decN b most).1 r' ∧ r'.s.p = (decL b).length ∧ (decN b most).2.st = r'.st ∧ rA.st = [] ∧ 1 + (decN b most).1.ks.size ≤ bnd most ∧ Stands (decL b) (decR b) (encN (1 + (decN b most).1.ks.size)) { rA with left := (decR b).left } := nodes_ok hBl (ver := ((opU b).1 : Int)) (most := bnd most) (r := decR b) rfl hf
 have hkind : (decN b most).1.v.kind = 1 := by
  refine root_kind (n := 65) ?_
  have h1 : (nodesE (decR b).s.p (nodesB (decL b) (nodeR (decL b) (opU b).1 66 none ⟨#[]⟩ (nodesA (decL b) (bnd most) (decR b))).2)).flt = none := hf
  unfold nodesE at h1
  split at h1
  ·cases h1
  ·unfold nodesB at h1
   exact (must_none h1).2.2.1
 obtain ⟨X, S, x1, x2, x3, x4, x5, x6⟩ := n2.ex
 have hst := n7.st
 have hd7 := n7.drop
 have hrp : rA.s.p = (decR b).s.p + (encN (1 + (decN b most).1.ks.size)).length := hst.2.2.2.2.1
 have hp5 : (decR b).s.p = 5 := hp
 have hxl : X.length + rA.s.p = b.length - 4 := by rw [← hlen, ← n3, x2]; omega
 refine ⟨⟨rA, r', n2, n5, n4⟩, n6, hkind, ?_, fun e => ?_⟩
 ·have := x6
  show (decN b most).1.ks.weight ≤ _
  simp only [lN] at this
  omega
 ·have hX : X = encT ((opU b).1 : Int) [] (decN b most).1.v (decN b most).1.m (decN b most).1.ks := x5 (by
   rw [n4, x3, n5, List.nil_append] at e
   exact e)
  have hdrop : (decL b).drop 5 = up (encN (1 + (decN b most).1.ks.size) ++ X) := by
   rw [up_append, ← hp5]
   refine hd7.trans ?_
   show _ ++ (decL b).drop ((decR b).s.p + (encN (1 + (decN b most).1.ks.size)).length) = _
   rw [← hrp, x1, n3, List.drop_length, List.append_nil]
  have hpre : b.take (b.length - 4) = arcB (opU b).1 (decN b most).1.v (decN b most).1.m (decN b most).1.ks := by
   have h6 : (b.take (b.length - 4)).drop 5 = encN (1 + (decN b most).1.ks.size) ++ X := up_inj (by rw [up_drop]; exact hdrop)
   have h7 : (b.take (b.length - 4)).take 5 = b.take 5 := by rw [List.take_take]; congr 1; omega
   have h8 := List.take_append_drop 5 (b.take (b.length - 4))
   rw [h6, h7, h5, hX] at h8
   unfold arcB
   rw [← h8]
   simp
  unfold arcW
  rw [← hpre]
  exact hsum
end Go.Proofs.YtjikkhbcbfpocaaGreatDoor
