import Derived.Test.YtjikkhbcbfpocaaGreatDoorGrows
set_option maxRecDepth 100000
set_option maxHeartbeats 1000000
namespace Go.Proofs.YtjikkhbcbfpocaaGreatDoor
open Go.RowKit
def F.weight : F → Nat
 | .nil => 0
 | .cons nm _ _ k r => 1 + nm.size + k.weight + r.weight
def F.ok : F → Prop
 | .nil => True
 | .cons nm _ _ k r => nm.size ≤ 9223372036854775807 ∧ k.len ≤ 9223372036854775807 ∧ k.ok ∧ r.ok
theorem F.ok_drop : ∀ {f : F} {k : Nat}, f.ok → (f.drop k).ok
 | f, 0, h => by rw [F.drop_zero]; exact h
 | .nil, _ + 1, _ => trivial
 | .cons _ _ _ _ r, k + 1, h => F.ok_drop (f := r) h.2.2.2
def qE (w : World) (C : Nat) (n : Int) : Prop := w.cell? ⟨C, 0, none⟩ = some (.int .i64 n) ∧ w.frozen? ⟨C, 0, none⟩ = false ∧ n ≤ 9223372036854775807 ∧ -9223372036854775808 ≤ n
def less (n : Int) (k : Nat) (n' : Int) : Prop := 0 ≤ n' → n' = n - (k : Int) ∧ 0 ≤ n
theorem less.trans {a b c : Int} {k l : Nat} (h : less a k b) (h' : less b l c) : less a (k + l) c := fun h0 => by
 have h1 := h' h0
 have h2 := h h1.2
 omega
theorem cr (C : Nat) (n : Int) (k : Nat) (w : World) (hC : qE w C n) (hk : (k : Int) ≤ 9223372036854775807) :
  Calls Tryz.prog 111 #[.pointer (some ⟨C, 0, none⟩), .int .i64 k] w fun e w' => (∃ v, e = .returned v) ∧ ∃ n', qE w' C n' ∧ less n k n' ∧ But C w w' := by
 obtain ⟨hc, hf, hn, hn'⟩ := hC
 by_cases h0 : 0 ≤ n
 ·have HN : ∀ r : Int, w.cell? ⟨C, 0, none⟩ = some (.int .i64 n) → Hid ((w.setCell ⟨C, 0, none⟩ (.int .i64 r)).cell? ⟨C, 0, none⟩ = some (.int .i64 r)) := fun r h => World.cell?_setCell_same _ _ _ h
  have HF : ∀ r : Int, Hid ((w.setCell ⟨C, 0, none⟩ (.int .i64 r)).frozen? ⟨C, 0, none⟩ = false) := fun r => by show _ = _; rw [World.frozen?_setCell]; exact hf
  obtain ⟨r, hr⟩ : ∃ r, n - (k : Int) = r := ⟨_, rfl⟩
  have hw : IntKind.i64.wrap (n - (k : Int)) = r := by rw [IntKind.wrap_i64, hr]; omega
  have HR : Hid (r = n - (k : Int) ∧ r ≤ 9223372036854775807 ∧ -9223372036854775808 ≤ r) := ⟨hr.symm, by omega, by omega⟩
  have hc2 := (HN r hc).o
  clear hr
  go_enter Tryz.func111, Tryz.ntmps111
  go_wp2
  go_ret
  exact ⟨⟨_, rfl⟩, r, ⟨(HN r hc).o, (HF r).o, HR.o.2⟩, fun _ => ⟨HR.o.1, h0⟩, (But.refl C w).setCell 0 _⟩
 ·go_enter Tryz.func111, Tryz.ntmps111
  go_wp2
  go_ret
  exact ⟨⟨_, rfl⟩, n, ⟨hc, hf, hn, hn'⟩, fun h => by omega, But.refl C w⟩
theorem rP (C : Nat) (n : Int) (w : World) (hC : qE w C n) : Calls Tryz.prog 49 #[.pointer (some ⟨C, 0, none⟩)] w fun e w' => e = .returned (.bool (decide (0 ≤ n))) ∧ w = w' := by
 obtain ⟨hc, hf, hn, hn'⟩ := hC
 go_enter Tryz.func49, Tryz.ntmps49
 go_wp2
 go_ret
 exact ⟨rfl, rfl⟩
theorem ct (C : Nat) (n : Int) (s : ByteArray) (w : World) (hC : qE w C n) (hs : s.size ≤ 9223372036854775807) :
  Calls Tryz.prog 75 #[.pointer (some ⟨C, 0, none⟩), .string s] w fun e w' => (∃ v, e = .returned v) ∧ ∃ n', qE w' C n' ∧ less n (1 + s.size) n' ∧ But C w w' := by
 have C1 := cr C n 1 w hC (by omega)
 have C2 := fun w n hC => cr C n s.size w hC (by omega)
 clear hC
 go_enter Tryz.func75, Tryz.ntmps75
 go_wp2_with (first
  | (go_at_call_of 111 (Value.int .i64 1); refine C1.mono ?_; rintro e w1 ⟨⟨b1, rfl⟩, n1, hC1, l1, bl1⟩; have D2 := C2 w1 n1 hC1; clear C1 C2 hC1)
  | (go_at_call 111; refine D2.mono ?_; rintro e w2 ⟨⟨b2, rfl⟩, n2, hC2, l2, bl2⟩))
 go_end0
 exact ⟨⟨_, rfl⟩, n2, hC2, l1.trans l2, bl1.trans bl2⟩
def ll (w0 : World) (f : F) : Prop := ∀ (v : Value), HasS w0 v f → f.ok → f.len ≤ 9223372036854775807 → ∀ (w : World) (C : Nat) (n : Int), Below w0.heap.size w0 w → w0.heap.size ≤ C → qE w C n →
  Calls Tryz.prog 76 #[.pointer (some ⟨C, 0, none⟩), v] w fun e w' => (∃ v, e = .returned v) ∧ ∃ n', qE w' C n' ∧ less n f.weight n' ∧ But C w w'
theorem qE.alloc {w : World} {C : Nat} {n : Int} (h : qE w C n) (o : Obj) : qE (w.alloc o) C n :=
 have hlt := World.block_lt_of_cell? w _ h.1
 ⟨(World.cell?_of_block (w := w) (Below.heap_alloc w o C hlt)).trans h.1, (World.frozen?_of_block (w := w) (Below.heap_alloc w o C hlt)).trans h.2.1, h.2.2⟩
theorem qE.lt {w : World} {C : Nat} {n : Int} (h : qE w C n) : C < w.heap.size := World.block_lt_of_cell? w _ h.1
theorem jS (w : World) (c : Array Value) (t : TypeId) : Lies (w.alloc (.cells c t)) w.heap.size 0 c := fun j u hj => by
 have h : (w.alloc (.cells c t)).heap[w.heap.size]? = some (.cells c t) := World.alloc_heap_new w _
 simp only [World.cell?, h, Nat.zero_add]
 exact hj
theorem gm (w0 : World) (c : Array Value) (nm : ByteArray) (vv : Vd) (m : Md) (ks : F) (hN : HasN w0 c nm vv m ks) (hok : nm.size ≤ 9223372036854775807 ∧ ks.len ≤ 9223372036854775807 ∧ ks.ok) (ih : ll w0 ks)
  (w : World) (C : Nat) (n : Int) (hb : Below w0.heap.size w0 w) (hw : w0.heap.size ≤ C) (hC : qE w C n) :
  Calls Tryz.prog 48 #[.pointer (some ⟨C, 0, none⟩), .agg c] w fun e w' => (∃ v, e = .returned v) ∧ ∃ n', qE w' C n' ∧ less n (1 + nm.size + ks.weight) n' ∧ But C w w' := by
 obtain ⟨kv, hc, hS⟩ := hN
 have hN := uQ nm vv m kv
 rw [← hc] at hN
 have k1 := hN.name
 have k2 := hN.kids
 have hlt := hC.lt
 have C1 := ct C n nm (w.alloc (.cells c 30)) (hC.alloc _) hok.1
 have C2 := fun (w1 : World) (n1 : Int) (b1 : But C (w.alloc (.cells c 30)) w1) (h1 : qE w1 C n1) => ih kv hS hok.2.2 hok.2.1 w1 C n1 (hb.trans (((Below.refl _ w).alloc (by omega) _).trans (b1.below hw (by simp; omega)))) hw h1
 have C3 : ∀ w1, But C (w.alloc (.cells c 30)) w1 → w1.cell? ⟨w.heap.size, 40, none⟩ = some kv := fun w1 b1 => b1.cell (by simpa using jS w c 30 40 kv k2) (by show w.heap.size ≠ C; omega)
 clear hN hc hC ih
 go_enter Tryz.func48, Tryz.ntmps48
 go_wp2_with (first
  | (go_at_call 75; refine C1.mono ?_; rintro e w1 ⟨⟨b1, rfl⟩, n1, hC1, l1, bl1⟩; have D2 := C2 w1 n1 bl1 hC1; have D3 := C3 w1 bl1; clear C1 C2 C3 hC1)
  | (go_at_call 76; refine D2.mono ?_; rintro e w2 ⟨⟨b2, rfl⟩, n2, hC2, l2, bl2⟩))
 go_end0
 exact ⟨⟨_, rfl⟩, n2, hC2, l1.trans l2, ((But.refl C w).alloc _).trans (bl1.trans bl2)⟩
theorem F.kids_size {f : F} {k : Nat} {nm : ByteArray} {v : Vd} {m : Md} {ks r : F} (h : f.drop k = .cons nm v m ks r) : ks.size + 1 + r.size ≤ f.size := by
 have := F.an f k
 rw [h, F.size] at this
 omega
theorem Below.of_but {C : Nat} {w0 w w' : World} (hb : Below w0.heap.size w0 w) (h : But C w w') (hC : w0.heap.size ≤ C) : Below w0.heap.size w0 w' :=
 hb.trans (h.below hC hb.size)
theorem lm (w0 : World) : ∀ (N : Nat) (f : F), f.size < N → ll w0 f := by
 intro N
 induction N with
 | zero => intro f h; omega
 | succ N ih =>
  intro f hN v hS hok hlen w C n hb hw hC
  obtain ⟨a, cap, rfl, _⟩ := hS.form
  have C1 := fun w n h => rP C n w h
  obtain ⟨L, hL⟩ : ∃ L, f.len = L := ⟨_, rfl⟩
  rw [hL] at hlen
  have HC : Hid (qE w C n) := hC
  have HL : Hid (f.len = L) := hL
  have HS : Hid (HasS w0 (.slice a f.len cap) f) := hS
  rw [hL]
  clear hC hS hL
  go_enter Tryz.func76, Tryz.ntmps76
  go_wp2_with fail
  go_loopw [4] (fun i wr => ∃ k : Nat, i = .int .i64 k ∧ k ≤ L ∧ Hid (∃ q n', q + (f.drop k).weight = f.weight ∧ qE wr C n' ∧ less n q n' ∧ But C w wr)) (fun i _ => L - iOf i)
  case atStart => exact ⟨0, rfl, Nat.zero_le _, 0, n, by rw [F.drop_zero]; omega, HC.o, fun h => by omega, But.refl _ _⟩
  case round =>
   obtain ⟨k, rfl, hk, q, n', hq, hC', hl', hb'⟩ := hrel
   have D1 := C1 wr n' hC'
   by_cases hlt : k < L
   ·have hltI : (k : Int) < (L : Int) := by omega
    by_cases h0 : 0 ≤ n'
    ·obtain ⟨g, o, cap', nm, vv, m, ks, c, hv, hd, hN', hc⟩ := HS.o.at (k := k) (by rw [HL.o]; exact hlt)
     cases hv
     have hod : (f.drop k).ok := F.ok_drop hok
     rw [hd] at hod
     have hks := F.kids_size hd
     have hbw := Below.of_but hb hb' hw
     have HLd : Hid (c.size = 41 ∧ Lies wr g (o + k * 41) c) := ⟨by obtain ⟨kv, rfl, _⟩ := hN'; exact jI .., Lies.below (w' := wr) hc hbw⟩
     have D2 := gm w0 c nm vv m ks hN' ⟨hod.1, hod.2.1, hod.2.2.1⟩ (ih ks (by omega)) wr C n' hbw hw hC'
     have HW : Hid (q + (1 + nm.size + ks.weight) + (f.drop (k + 1)).weight = f.weight) := by show _ = _; rw [← hq, hd, F.weight]; omega
     have HB : Hid (less n q n' ∧ But C w wr) := ⟨hl', hb'⟩
     clear hq hd hN' hc hod hks hbw hC' hl' hb'
     go_wp2_with (first
      | (go_at_call 49; refine D1.mono ?_; rintro e w1 ⟨rfl, e1⟩; subst e1)
      | refine dN rfl _ rfl _ _ rfl c HLd.o.1 HLd.o.2 ?_
      | (go_at_call 48; refine D2.mono ?_; rintro e w2 ⟨⟨b2, rfl⟩, n2, hC2, l2, bl2⟩))
     go_roundw
     case rel => exact ⟨k + 1, by go_num, by omega, _, n2, HW.o, hC2, HB.o.1.trans l2, HB.o.2.trans bl2⟩
     case measure => simp; omega
    ·have HX : Hid (∃ n', qE wr C n' ∧ less n f.weight n' ∧ But C w wr) := ⟨n', hC', fun h => absurd h h0, hb'⟩
     clear hq hC' hl' hb'
     go_wp2_with (go_at_call 49; refine D1.mono ?_; rintro e w1 ⟨rfl, e1⟩; subst e1)
     go_end0
     exact ⟨⟨_, rfl⟩, HX.o⟩
   ·have hltI : ¬ (k : Int) < (L : Int) := by omega
    obtain rfl : k = L := by omega
    have HX : Hid (∃ n', qE wr C n' ∧ less n f.weight n' ∧ But C w wr) := by
     refine ⟨n', hC', ?_, hb'⟩
     rw [F.zn f k (by rw [HL.o]; omega), F.weight] at hq
     rw [← hq]; exact hl'
    clear hq hC' hl' hb'
    go_wp2_with fail
    go_end0
    exact ⟨⟨_, rfl⟩, HX.o⟩
theorem om (w : World) : Calls Tryz.prog 47 #[.int .i64 20000] w fun e w' => e = .returned (.pointer (some ⟨w.heap.size, 0, none⟩)) ∧ qE w' w.heap.size 20000 ∧ Below w.heap.size w w' := by
 go_enter Tryz.func47, Tryz.ntmps47
 go_wp2
 go_ret
 exact ⟨rfl, ⟨by simp, by simp, by omega, by omega⟩, (Below.refl _ w).alloc (Nat.le_refl _) _⟩
theorem kt {w w' : World} {a : Addr} {v : Value} (h : Below w.heap.size w w') (hc : w.cell? a = some v) : w'.cell? a = some v := (h.cell (World.block_lt_of_cell? w _ hc)).trans hc
def F.okL (f : F) : Prop := f.size ≤ 9223372036854775807
theorem hid {p : Prop} (h : p) : Hid p := h
def F.depth : F → Nat
 | .nil => 0
 | .cons _ _ _ k r => max (k.depth + 1) r.depth
theorem F.app_size : ∀ f g : F, (f.app g).size = f.size + g.size
 | .nil, g => by simp [F.app, F.size]
 | .cons _ _ _ _ r, g => by rw [F.app, F.size, F.app_size r g, F.size]; omega
theorem F.app_depth : ∀ f g : F, (f.app g).depth = max f.depth g.depth
 | .nil, g => by simp [F.app, F.depth]
 | .cons _ _ _ _ r, g => by rw [F.app, F.depth, F.app_depth r g, F.depth]; omega
theorem F.size_le_weight : ∀ f : F, f.size ≤ f.weight
 | .nil => Nat.le_refl _
 | .cons _ _ _ k r => by have := F.size_le_weight k; have := F.size_le_weight r; simp only [F.size, F.weight]; omega
theorem F.depth_le_size : ∀ f : F, f.depth ≤ f.size
 | .nil => Nat.le_refl _
 | .cons _ _ _ k r => by have := F.depth_le_size k; have := F.depth_le_size r; simp only [F.size, F.depth]; omega
inductive K where
 | nil
 | node (q p : Nat) (nm : ByteArray) (v : Vd) (m : Md) (kids ahead behind : K)
def K.flat : K → F
 | .nil => .nil
 | .node _ _ nm v m kids ah be => ah.flat.app (.cons nm v m kids.flat be.flat)
def tc (v : Vd) (m : Md) (pk : Value) : Array Value := (vx v ++ (mx m ++ [pk])).toArray
def kc (nm : ByteArray) (p : Nat) (pa pb : Value) (n c d : Nat) : Array Value := #[.string nm, .pointer (some ⟨p, 0, none⟩), pa, pb, .int .i64 n, .int .i64 c, .int .i64 d]
theorem dq (v : Vd) (m : Md) (pk : Value) : (tc v m pk)[39]? = some pk := by
 simp only [tc, List.getElem?_toArray]
 rw [List.getElem?_append_right (by simp [jc]), List.getElem?_append_right (by simp [jc, kM])]
 simp [jc, kM]
theorem sG (v : Vd) (m : Md) (pk : Value) : (tc v m pk).extract 0 35 = (vx v).toArray := by
 simp only [tc, List.extract_toArray, List.extract_eq_take_drop, List.drop_zero]
 rw [List.take_append_of_le_length (by simp [jc]), List.take_of_length_le (by simp [jc])]
theorem iU (v : Vd) (m : Md) (pk : Value) : (tc v m pk).extract 35 39 = (mx m).toArray := by
 simp only [tc, List.extract_toArray, List.extract_eq_take_drop]
 rw [List.drop_append_of_le_length (by simp [jc]), List.drop_of_length_le (by simp [jc])]
 simp [mx]
def At (w : World) : K → Value → Prop
 | .nil, u => u = .pointer none
 | .node q p nm v m kids ah be, u => u = .pointer (some ⟨q, 0, none⟩) ∧ ∃ pk pa pb, (Lies w q 0 (kc nm p pa pb (K.node q p nm v m kids ah be).flat.len (K.node q p nm v m kids ah be).flat.size (K.node q p nm v m kids ah be).flat.depth) ∧ Lies w p 0 (tc v m pk)) ∧ At w kids pk ∧ At w ah pa ∧ At w be pb
def AtT (w : World) (p : Nat) (v : Vd) (m : Md) (k : K) : Prop := ∃ pk, Lies w p 0 (tc v m pk) ∧ At w k pk
theorem At.grow {w w' : World} (hg : G w w') : ∀ {k : K} {u : Value}, At w k u → At w' k u
 | .nil, _, h => h
 | .node _ _ _ _ _ _ _ _, _, ⟨h1, pk, pa, pb, ⟨h2, h3⟩, h4, h5, h6⟩ => ⟨h1, pk, pa, pb, ⟨hg.lies h2, hg.lies h3⟩, At.grow hg h4, At.grow hg h5, At.grow hg h6⟩
theorem AtT.grow {w w' : World} {p : Nat} {v : Vd} {m : Md} {k : K} (hg : G w w') (h : AtT w p v m k) : AtT w' p v m k := by
 obtain ⟨pk, h1, h2⟩ := h
 exact ⟨pk, hg.lies h1, h2.grow hg⟩
theorem At.form {w : World} {k : K} {u : Value} (h : At w k u) : ∃ a, u = .pointer a := by
 cases k with
 | nil => exact ⟨none, h⟩
 | node => exact ⟨_, h.1⟩
theorem j7 {w : World} {g : Nat} {c : Array Value} (h : Lies w g 0 c) (j : Nat) (u : Value) (hj : c[j]? = some u) : w.cell? ⟨g, j, none⟩ = some u := by
 have := h j u hj
 rwa [Nat.zero_add] at this
theorem fK (k : K) (u : Value) (w : World) (h : At w k u) : Calls Tryz.prog 149 #[u] w fun e w' => e = .returned (.int .i64 k.flat.len) ∧ w' = w := by
 cases k with
 | nil =>
  obtain rfl := h
  go_enter Tryz.func149, Tryz.ntmps149
  go_wp2
  go_ret
  exact ⟨rfl, rfl⟩
 | node q p nm v m kids ah be =>
  obtain ⟨rfl, pk, pa, pb, ⟨h2, h3⟩, _⟩ := h
  have c4 := j7 h2 4 _ rfl
  generalize (K.node q p nm v m kids ah be).flat.len = n at *
  go_enter Tryz.func149, Tryz.ntmps149
  go_wp2
  go_ret
  exact ⟨rfl, rfl⟩
theorem xe (k : K) (u : Value) (w : World) (h : At w k u) : Calls Tryz.prog 44 #[u] w fun e w' => e = .returned (.int .i64 k.flat.size) ∧ w' = w := by
 cases k with
 | nil =>
  obtain rfl := h
  go_enter Tryz.func44, Tryz.ntmps44
  go_wp2
  go_ret
  exact ⟨rfl, rfl⟩
 | node q p nm v m kids ah be =>
  obtain ⟨rfl, pk, pa, pb, ⟨h2, h3⟩, _⟩ := h
  have c4 := j7 h2 5 _ rfl
  generalize (K.node q p nm v m kids ah be).flat.size = n at *
  go_enter Tryz.func44, Tryz.ntmps44
  go_wp2
  go_ret
  exact ⟨rfl, rfl⟩
theorem xf (k : K) (u : Value) (w : World) (h : At w k u) : Calls Tryz.prog 150 #[u] w fun e w' => e = .returned (.int .i64 k.flat.depth) ∧ w' = w := by
 cases k with
 | nil =>
  obtain rfl := h
  go_enter Tryz.func150, Tryz.ntmps150
  go_wp2
  go_ret
  exact ⟨rfl, rfl⟩
 | node q p nm v m kids ah be =>
  obtain ⟨rfl, pk, pa, pb, ⟨h2, h3⟩, _⟩ := h
  have c4 := j7 h2 6 _ rfl
  generalize (K.node q p nm v m kids ah be).flat.depth = n at *
  go_enter Tryz.func150, Tryz.ntmps150
  go_wp2
  go_ret
  exact ⟨rfl, rfl⟩
theorem dr (a b : Nat) (w : World) (h : a + b ≤ 9223372036854775807) : Calls Tryz.prog 43 #[.int .i64 a, .int .i64 b] w fun e w' => e = .returned (.int .i64 ((a + b : Nat) : Int)) ∧ w' = w := by
 have h1 : IntKind.i64.wrap (9223372036854775807 - (b : Int)) = 9223372036854775807 - (b : Int) := by rw [IntKind.wrap_i64]; omega
 have h2 : IntKind.i64.wrap ((a : Int) + (b : Int)) = (a : Int) + (b : Int) := by rw [IntKind.wrap_i64]; omega
 have h3 : ¬ (9223372036854775807 - (b : Int) < (a : Int)) := by omega
 go_enter Tryz.func43, Tryz.ntmps43
 go_wp2
 go_ret
 exact ⟨by simp, rfl⟩
def js (n s : Int) : Bool := decide ((n = 0 ∧ s = 0) ∨ ((1 ≤ n ∧ n ≤ 72057594037927935) ∧ (1 ≤ s ∧ s ≤ 72057594037927935)))
def jo : List Nat := List.replicate 32 0
def jt (v : Vd) : Bool :=
 if v.kind = 1 then decide ((0 ≤ v.mode ∧ v.mode ≤ 8) ∧ v.size = 0 ∧ v.sum = jo)
 else if v.kind = 2 then decide ((0 ≤ v.mode ∧ v.mode ≤ 8) ∧ (0 ≤ v.size ∧ v.size ≤ 1099511627775))
 else if v.kind = 3 then decide (v.mode = 0 ∧ (1 ≤ v.size ∧ v.size ≤ 4095)) else false
def Md.zero : Md := ⟨0, 0, 0, 0⟩
def ownE (v : Vd) (m : Md) (kids : Bool) : Int :=
 if v.kind ≠ 1 ∧ v.kind ≠ 2 ∧ v.kind ≠ 3 then 40 else if kids = true ∧ v.kind ≠ 1 then 40 else if jt v = false then 41
 else if v.kind = 2 ∧ (js m.n0 m.s0 = false ∨ js m.n1 m.s1 = false) then 41 else if v.kind ≠ 2 ∧ m ≠ Md.zero then 41 else 0
theorem zL (n a b : Int) (w : World) : Calls Tryz.prog 171 #[.int .i64 n, .int .i64 a, .int .i64 b] w fun e w' => e = .returned (.bool (decide (a ≤ n ∧ n ≤ b))) ∧ w' = w := by
 by_cases h1 : a ≤ n
 ·by_cases h2 : n ≤ b
  ·have hr : decide (a ≤ n ∧ n ≤ b) = true := by simp [h1, h2]
   rw [hr]
   go_enter Tryz.func171, Tryz.ntmps171
   go_wp2
   go_ret
   exact ⟨rfl, rfl⟩
  ·have hr : decide (a ≤ n ∧ n ≤ b) = false := by simp [h2]
   rw [hr]
   go_enter Tryz.func171, Tryz.ntmps171
   go_wp2
   go_ret
   exact ⟨rfl, rfl⟩
 ·have hr : decide (a ≤ n ∧ n ≤ b) = false := by simp [h1]
  rw [hr]
  go_enter Tryz.func171, Tryz.ntmps171
  go_wp2
  go_ret
  exact ⟨rfl, rfl⟩
theorem xb {o : Oper} {a : Act} (x y : Operand) (ho : o.op = .binOp .eql 26 x y 26) (n s n' s' : Int) (hx : a.eval x = .agg #[.int .i64 n, .int .i64 s]) (hy : a.eval y = .agg #[.int .i64 n', .int .i64 s']) (b : Bool) (hb : decide (n = n' ∧ s = s') = b) (w : World) :
  (execOp a.eval o).run Tryz.prog w = .ok (.value (.bool b)) w := by
 have h' : (Op.equal 26 (.agg #[.int .i64 n, .int .i64 s]) (.agg #[.int .i64 n', .int .i64 s'])).run Tryz.prog w = .ok b w := by rw [← hb]; exact eq26 9998 n s n' s' w
 have hg : Tryz.prog.eqGuardType Tryz.prog.depth 26 = false := by kernel_rfl
 unfold execOp
 simp only [ho, hx, hy, eqGuard, binOp, Sem.run_bind]
 simp [Result.andThen, hg, h']
theorem xE (n s : Int) (w : World) : Calls Tryz.prog 145 #[.agg #[.int .i64 n, .int .i64 s]] w fun e w' => e = .returned (.bool (js n s)) ∧ G w w' := by
 have C := fun W x => zL x 1 72057594037927935 W
 have HG : Hid (G w (w.alloc (.cells #[.int .i64 n, .int .i64 s] 26))) := G.alloc _ _
 obtain ⟨b1, hb1⟩ : ∃ b, decide (n = 0 ∧ s = 0) = b := ⟨_, rfl⟩
 have B1 := hid hb1
 obtain ⟨b2, hb2⟩ : ∃ b, decide (1 ≤ n ∧ n ≤ 72057594037927935) = b := ⟨_, rfl⟩
 obtain ⟨b3, hb3⟩ : ∃ b, decide (1 ≤ s ∧ s ≤ 72057594037927935) = b := ⟨_, rfl⟩
 have CA := hid (fun W => (by have := C W n; rw [hb2] at this; exact this : Calls Tryz.prog 171 #[.int .i64 n, .int .i64 1, .int .i64 72057594037927935] W fun e w' => e = .returned (.bool b2) ∧ w' = W))
 have CB := hid (fun W => (by have := C W s; rw [hb3] at this; exact this : Calls Tryz.prog 171 #[.int .i64 s, .int .i64 1, .int .i64 72057594037927935] W fun e w' => e = .returned (.bool b3) ∧ w' = W))
 obtain ⟨R, hR⟩ : ∃ R, js n s = R := ⟨_, rfl⟩
 have HR : Hid (R = (b1 || (b2 && b3))) := by
  show _ = _
  rw [← hR, ← hb1, ← hb2, ← hb3]
  unfold js
  simp only [Bool.decide_or, Bool.decide_and]
 rw [hR]
 clear hb1 hb2 hb3 hR C
 cases b1 with
 | true =>
  go_enter Tryz.func145, Tryz.ntmps145
  go_wp2_with (with_reducible refine j0 (.bool true) ?_ ?_; exact xb _ _ rfl n s 0 0 rfl rfl true B1.o _)
  go_ret
  exact ⟨by rw [HR.o]; rfl, HG.o⟩
 | false =>
  cases b2 with
  | false =>
   go_enter Tryz.func145, Tryz.ntmps145
   go_wp2_with (first
    | (with_reducible refine j0 (.bool false) ?_ ?_; exact xb _ _ rfl n s 0 0 rfl rfl false B1.o _)
    | (go_at_call 171; refine (CA.o _).mono ?_; rintro e w1 ⟨rfl, e1⟩; subst e1))
   go_ret
   exact ⟨by rw [HR.o]; rfl, HG.o⟩
  | true =>
   go_enter Tryz.func145, Tryz.ntmps145
   go_wp2_with (first
    | (with_reducible refine j0 (.bool false) ?_ ?_; exact xb _ _ rfl n s 0 0 rfl rfl false B1.o _)
    | (go_at_call_of 171 (Value.int .i64 n); refine (CA.o _).mono ?_; rintro e w1 ⟨rfl, e1⟩; subst e1)
    | (go_at_call 171; refine (CB.o _).mono ?_; rintro e w1 ⟨rfl, e1⟩; subst e1))
   go_ret
   exact ⟨by rw [HR.o]; simp, HG.o⟩
theorem lI {o : Oper} {a : Act} (x y : Operand) (ho : o.op = .binOp .eql 22 x y 22) (X Y : Array Value) (hx : a.eval x = .agg X) (hy : a.eval y = .agg Y) (l m : List Nat) (hX : X = (l.map vb).toArray) (hY : Y = (m.map vb).toArray) (hl : l.length = 32) (hm : m.length = 32) (b : Bool) (hb : decide (l = m) = b) (w : World) :
  (execOp a.eval o).run Tryz.prog w = .ok (.value (.bool b)) w := by
 subst hX hY
 have h' : (Op.equal 22 (.agg (l.map vb).toArray) (.agg (m.map vb).toArray)).run Tryz.prog w = .ok b w := by rw [← hb]; exact eq22 9998 l m hl hm w
 have hg : Tryz.prog.eqGuardType Tryz.prog.depth 22 = false := by kernel_rfl
 unfold execOp
 simp only [ho, hx, hy, eqGuard, binOp, Sem.run_bind]
 simp [Result.andThen, hg, h']
theorem qb {o : Oper} {a : Act} {w : World} (x : Operand) (ho : o.op = .load 22 x) (b off : Nat) (hx : a.eval x = .pointer (some ⟨b, off, none⟩)) (c : Array Value) (hs : c.size = 32) (hc : Lies w b off c) : (execOp a.eval o).run Tryz.prog w = .ok (.value (.agg c)) w :=
 ji 22 x ho b off hx c _ hc Tryz.underlying22 rfl (by rw [ma, hs])
theorem qy {o : Oper} {a : Act} (t : TypeId) (ho : o.op = .build t #[]) (c : Array Value) (hb : Tryz.prog.built t [] = some c) (w : World) : (execOp a.eval o).run Tryz.prog w = .ok (.value (.agg c)) w := by
 unfold execOp
 simp only [ho]
 have h := run_build (P := Tryz.prog) w t #[] c hb
 simp only [Array.map_empty, Sem.run_bind, h, Result.andThen_ok, Sem.run_pure]
theorem built22 : Tryz.prog.built 22 [] = some (jo.map vb).toArray := by kernel_rfl
theorem built27 : Tryz.prog.built 27 [] = some (mx Md.zero).toArray := by kernel_rfl
theorem bn (v : Vd) (X : Array Value) (hX : X = (vx v).toArray) (w : World) : Calls Tryz.prog 144 #[.agg X] w fun e w' => e = .returned (.bool (jt v)) ∧ G w w' := by
 have HG : Hid (G w (w.alloc (.cells X 24))) := G.alloc _ _
 have hl := jS w X 24
 have c0 := j7 hl 0 (.int .i64 v.kind) (by rw [hX]; rfl)
 have c1 := j7 hl 1 (.int .i64 v.mode) (by rw [hX]; rfl)
 have c2 := j7 hl 2 (.int .i64 v.size) (by rw [hX]; rfl)
 have x0 : X[0]? = some (.int .i64 v.kind) := by rw [hX]; rfl
 have x1 : X[1]? = some (.int .i64 v.mode) := by rw [hX]; rfl
 have x2 : X[2]? = some (.int .i64 v.size) := by rw [hX]; rfl
 obtain ⟨S, hS⟩ : ∃ S, (v.sum.map vb).toArray = S := ⟨_, rfl⟩
 have HL : Hid (Lies (w.alloc (.cells X 24)) w.heap.size 3 S ∧ S.size = 32 ∧ S = (v.sum.map vb).toArray) := by
  refine ⟨?_, by rw [← hS]; simp [v.len], hS.symm⟩
  have := hl.part 3 (3 + 32)
  rw [hX, rY, hS] at this
  rw [hX]
  simpa using this
 obtain ⟨Z, hZ⟩ : ∃ Z, (jo.map vb).toArray = Z := ⟨_, rfl⟩
 have HZ : Hid (Tryz.prog.built 22 [] = some Z ∧ Z = (jo.map vb).toArray) := ⟨by rw [built22, hZ], hZ.symm⟩
 have HV : Hid (v.sum.length = 32) := v.len
 obtain ⟨R, hR⟩ : ∃ R, jt v = R := ⟨_, rfl⟩
 rw [hR]
 have HR : Hid (jt v = R) := hR
 obtain ⟨b1, hb1⟩ : ∃ b, decide (0 ≤ v.mode ∧ v.mode ≤ 8) = b := ⟨_, rfl⟩
 obtain ⟨b2, hb2⟩ : ∃ b, decide (0 ≤ v.size ∧ v.size ≤ 1099511627775) = b := ⟨_, rfl⟩
 obtain ⟨b3, hb3⟩ : ∃ b, decide (1 ≤ v.size ∧ v.size ≤ 4095) = b := ⟨_, rfl⟩
 obtain ⟨b4, hb4⟩ : ∃ b, decide (v.sum = jo) = b := ⟨_, rfl⟩
 have CA := hid (fun W => (by have := zL v.mode 0 8 W; rw [hb1] at this; exact this : Calls Tryz.prog 171 #[.int .i64 v.mode, .int .i64 0, .int .i64 8] W fun e w' => e = .returned (.bool b1) ∧ w' = W))
 have CB := hid (fun W => (by have := zL v.size 0 1099511627775 W; rw [hb2] at this; exact this : Calls Tryz.prog 171 #[.int .i64 v.size, .int .i64 0, .int .i64 1099511627775] W fun e w' => e = .returned (.bool b2) ∧ w' = W))
 have CC := hid (fun W => (by have := zL v.size 1 4095 W; rw [hb3] at this; exact this : Calls Tryz.prog 171 #[.int .i64 v.size, .int .i64 1, .int .i64 4095] W fun e w' => e = .returned (.bool b3) ∧ w' = W))
 have HB := hid (⟨hb1, hb2, hb3, hb4⟩ : decide (0 ≤ v.mode ∧ v.mode ≤ 8) = b1 ∧ decide (0 ≤ v.size ∧ v.size ≤ 1099511627775) = b2 ∧ decide (1 ≤ v.size ∧ v.size ≤ 4095) = b3 ∧ decide (v.sum = jo) = b4)
 clear hR hb1 hb2 hb3 hb4 hZ hS hl hX
 obtain ⟨kd, hkd⟩ : ∃ k, v.kind = k := ⟨_, rfl⟩
 obtain ⟨md, hmd⟩ : ∃ k, v.mode = k := ⟨_, rfl⟩
 obtain ⟨sz, hsz⟩ : ∃ k, v.size = k := ⟨_, rfl⟩
 have HK : Hid (v.kind = kd ∧ v.mode = md ∧ v.size = sz) := ⟨hkd, hmd, hsz⟩
 rw [hkd] at c0 x0
 rw [hmd] at c1 x1 CA
 rw [hsz] at c2 x2 CB CC
 clear hkd hmd hsz
 by_cases k1 : kd = 1
 ·subst k1
  cases b1 with
  | false =>
   have HF : Hid (R = false) := by
    show _ = _
    have h := HB.o.1
    rw [← HR.o, jt, if_pos HK.o.1]
    simp only [Bool.decide_and] at h ⊢
    rw [h]; rfl
   go_enter Tryz.func144, Tryz.ntmps144
   go_wp2_with (go_at_call 171; refine (CA.o _).mono ?_; rintro e w1 ⟨rfl, e1⟩; subst e1)
   go_ret
   exact ⟨by rw [HF.o]; rfl, HG.o⟩
  | true =>
   by_cases s0 : sz = 0
   ·subst s0
    have HF : Hid (R = b4) := by
     show _ = _
     have h := HB.o.1
     rw [← HR.o, jt, if_pos HK.o.1, ← HB.o.2.2.2]
     simp only [Bool.decide_and] at h ⊢
     rw [h, HK.o.2.2]; simp
    have HB4 : Hid (decide (v.sum = jo) = b4) := HB.o.2.2.2
    go_enter Tryz.func144, Tryz.ntmps144
    go_wp2_with (first
     | (go_at_call 171; refine (CA.o _).mono ?_; rintro e w1 ⟨rfl, e1⟩; subst e1)
     | (with_reducible refine j0 (.agg S) ?_ ?_; exact qb _ rfl w.heap.size 3 rfl S HL.o.2.1 HL.o.1)
     | (with_reducible refine j0 (.agg Z) ?_ ?_; exact qy 22 rfl Z HZ.o.1 _)
     | (with_reducible refine j0 (.bool b4) ?_ ?_; exact lI _ _ rfl S Z rfl rfl v.sum jo HL.o.2.2 HZ.o.2 HV.o rfl b4 HB4.o _))
    go_ret
    exact ⟨by rw [HF.o]; rfl, HG.o⟩
   ·have HF : Hid (R = false) := by
     show _ = _
     rw [← HR.o, jt, if_pos HK.o.1, HK.o.2.2]
     simp [s0]
    have s1 : (sz == 0) = false := by simpa using s0
    clear s0
    go_enter Tryz.func144, Tryz.ntmps144
    go_wp2_with (go_at_call 171; refine (CA.o _).mono ?_; rintro e w1 ⟨rfl, e1⟩; subst e1)
    go_ret
    exact ⟨by rw [HF.o]; rfl, HG.o⟩
 ·have k1' : (kd == 1) = false := by simpa using k1
  by_cases k2 : kd = 2
  ·subst k2
   have HF : Hid (R = (b1 && b2)) := by
    show _ = _
    rw [← HR.o, jt, if_neg (by rw [HK.o.1]; exact k1), if_pos HK.o.1, ← HB.o.1, ← HB.o.2.1]
    simp only [Bool.decide_and]
   clear k1
   cases b1 with
   | false =>
    go_enter Tryz.func144, Tryz.ntmps144
    go_wp2_with (go_at_call 171; refine (CA.o _).mono ?_; rintro e w1 ⟨rfl, e1⟩; subst e1)
    go_ret
    exact ⟨by rw [HF.o]; rfl, HG.o⟩
   | true =>
    go_enter Tryz.func144, Tryz.ntmps144
    go_wp2_with (first
     | (go_at_call_of 171 (Value.int .i64 8); refine (CA.o _).mono ?_; rintro e w1 ⟨rfl, e1⟩; subst e1)
     | (go_at_call 171; refine (CB.o _).mono ?_; rintro e w1 ⟨rfl, e1⟩; subst e1))
    go_ret
    exact ⟨by rw [HF.o]; simp, HG.o⟩
  ·have k2' : (kd == 2) = false := by simpa using k2
   by_cases k3 : kd = 3
   ·subst k3
    by_cases m0 : md = 0
    ·subst m0
     have HF : Hid (R = b3) := by
      show _ = _
      rw [← HR.o, jt, if_neg (by rw [HK.o.1]; exact k1), if_neg (by rw [HK.o.1]; exact k2), if_pos HK.o.1, ← HB.o.2.2.1, HK.o.2.1]
      simp
     clear k1 k2
     go_enter Tryz.func144, Tryz.ntmps144
     go_wp2_with (go_at_call 171; refine (CC.o _).mono ?_; rintro e w1 ⟨rfl, e1⟩; subst e1)
     go_ret
     exact ⟨by rw [HF.o]; rfl, HG.o⟩
    ·have HF : Hid (R = false) := by
      show _ = _
      rw [← HR.o, jt, if_neg (by rw [HK.o.1]; exact k1), if_neg (by rw [HK.o.1]; exact k2), if_pos HK.o.1, HK.o.2.1]
      simp [m0]
     have m0' : (md == 0) = false := by simpa using m0
     clear k1 k2 m0
     go_enter Tryz.func144, Tryz.ntmps144
     go_wp2_with fail
     go_ret
     exact ⟨by rw [HF.o]; rfl, HG.o⟩
   ·have k3' : (kd == 3) = false := by simpa using k3
    have HF : Hid (R = false) := by
     show _ = _
     rw [← HR.o, jt, if_neg (by rw [HK.o.1]; exact k1), if_neg (by rw [HK.o.1]; exact k2), if_neg (by rw [HK.o.1]; exact k3)]
    clear k1 k2 k3
    go_enter Tryz.func144, Tryz.ntmps144
    go_wp2_with fail
    go_ret
    exact ⟨by rw [HF.o]; rfl, HG.o⟩
end Go.Proofs.YtjikkhbcbfpocaaGreatDoor
