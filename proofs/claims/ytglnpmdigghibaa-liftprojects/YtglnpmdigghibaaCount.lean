/-
  few: how many parts raw data has.
-/
import Derived.Test.YtglnpmdigghibaaLoad
namespace Go.Proofs.Ytglnpmdigghibaa
open Go.RowKit

/-- how many parts -/
def F.weight : F → Nat
  | .nil => 0
  | .cons nm _ _ k r => 1 + nm.size + k.weight + r.weight
def F.ok : F → Prop
  | .nil => True
  | .cons nm _ _ k r => nm.size ≤ 9223372036854775807 ∧ k.len ≤ 9223372036854775807 ∧ k.ok ∧ r.ok
theorem F.ok_drop : ∀ {f : F} {k : Nat}, f.ok → (f.drop k).ok
  | f, 0, h => by rw [F.drop_zero]; exact h
  | .nil, _ + 1, _ => trivial
  | .cons _ _ _ _ r, k + 1, h => F.ok_drop (f := r) h.2.2.2

/-- the count at block C -/
def CountAt (w : World) (C : Nat) (n : Int) : Prop := w.cell? ⟨C, 0, none⟩ = some (.int .i64 n) ∧ w.frozen? ⟨C, 0, none⟩ = false ∧ n ≤ 9223372036854775807 ∧ -9223372036854775808 ≤ n
/-- so much less, if it went on -/
def less (n : Int) (k : Nat) (n' : Int) : Prop := 0 ≤ n' → n' = n - (k : Int) ∧ 0 ≤ n
theorem less.trans {a b c : Int} {k l : Nat} (h : less a k b) (h' : less b l c) : less a (k + l) c := fun h0 => by
  have h1 := h' h0
  have h2 := h h1.2
  omega
/-- a forest of an elder world still lies -/
theorem HasS.elder {w0 w : World} {v : Value} {f : F} (h : HasS w0 v f) (hb : Below w0.heap.size w0 w) : HasS w v f := h.below hb

set_option maxRecDepth 100000 in
theorem add_any (C : Nat) (n : Int) (k : Nat) (w : World) (hC : CountAt w C n) (hk : (k : Int) ≤ 9223372036854775807) :
    Calls Try.prog 36 #[.pointer (some ⟨C, 0, none⟩), .int .i64 k] w fun e w' => (∃ v, e = .returned v) ∧ ∃ n', CountAt w' C n' ∧ less n k n' ∧ But C w w' := by
  obtain ⟨hc, hf, hn, hn'⟩ := hC
  by_cases h0 : 0 ≤ n
  · have HN : ∀ r : Int, w.cell? ⟨C, 0, none⟩ = some (.int .i64 n) → Hid ((w.setCell ⟨C, 0, none⟩ (.int .i64 r)).cell? ⟨C, 0, none⟩ = some (.int .i64 r)) := fun r h => World.cell?_setCell_same _ _ _ h
    have HF : ∀ r : Int, Hid ((w.setCell ⟨C, 0, none⟩ (.int .i64 r)).frozen? ⟨C, 0, none⟩ = false) := fun r => by show _ = _; rw [World.frozen?_setCell]; exact hf
    obtain ⟨r, hr⟩ : ∃ r, n - (k : Int) = r := ⟨_, rfl⟩
    have hw : IntKind.i64.wrap (n - (k : Int)) = r := by rw [IntKind.wrap_i64, hr]; omega
    have HR : Hid (r = n - (k : Int) ∧ r ≤ 9223372036854775807 ∧ -9223372036854775808 ≤ r) := ⟨hr.symm, by omega, by omega⟩
    have hc2 := (HN r hc).out
    clear hr
    go_enter Try.func36, Try.ntmps36
    go_wp2
    go_ret
    exact ⟨⟨_, rfl⟩, r, ⟨(HN r hc).out, (HF r).out, HR.out.2⟩, fun _ => ⟨HR.out.1, h0⟩, (But.refl C w).setCell 0 _⟩
  · go_enter Try.func36, Try.ntmps36
    go_wp2
    go_ret
    exact ⟨⟨_, rfl⟩, n, ⟨hc, hf, hn, hn'⟩, fun h => by omega, But.refl C w⟩

set_option maxRecDepth 100000 in
theorem ok_any (C : Nat) (n : Int) (w : World) (hC : CountAt w C n) : Calls Try.prog 14 #[.pointer (some ⟨C, 0, none⟩)] w fun e w' => e = .returned (.bool (decide (0 ≤ n))) ∧ w = w' := by
  obtain ⟨hc, hf, hn, hn'⟩ := hC
  go_enter Try.func14, Try.ntmps14
  go_wp2
  go_ret
  exact ⟨rfl, rfl⟩

set_option maxRecDepth 100000 in
theorem text_any (C : Nat) (n : Int) (s : ByteArray) (w : World) (hC : CountAt w C n) (hs : s.size ≤ 9223372036854775807) :
    Calls Try.prog 25 #[.pointer (some ⟨C, 0, none⟩), .string s] w fun e w' => (∃ v, e = .returned v) ∧ ∃ n', CountAt w' C n' ∧ less n (1 + s.size) n' ∧ But C w w' := by
  have C1 := add_any C n 1 w hC (by omega)
  have C2 := fun w n hC => add_any C n s.size w hC (by omega)
  clear hC
  go_enter Try.func25, Try.ntmps25
  go_wp2_with (first
    | (go_at_call_of 36 (Value.int .i64 1); refine C1.mono ?_; rintro e w1 ⟨⟨b1, rfl⟩, n1, hC1, l1, bl1⟩; have D2 := C2 w1 n1 hC1; clear C1 C2 hC1)
    | (go_at_call 36; refine D2.mono ?_; rintro e w2 ⟨⟨b2, rfl⟩, n2, hC2, l2, bl2⟩))
  go_end0
  exact ⟨⟨_, rfl⟩, n2, hC2, l1.trans l2, bl1.trans bl2⟩

/-- Nodes by contract, of this forest -/
def NodesOk (w0 : World) (f : F) : Prop := ∀ (v : Value), HasS w0 v f → f.ok → f.len ≤ 9223372036854775807 → ∀ (w : World) (C : Nat) (n : Int), Below w0.heap.size w0 w → w0.heap.size ≤ C → CountAt w C n →
    Calls Try.prog 26 #[.pointer (some ⟨C, 0, none⟩), v] w fun e w' => (∃ v, e = .returned v) ∧ ∃ n', CountAt w' C n' ∧ less n f.weight n' ∧ But C w w'
theorem CountAt.alloc {w : World} {C : Nat} {n : Int} (h : CountAt w C n) (o : Obj) : CountAt (w.alloc o) C n :=
  have hlt := World.block_lt_of_cell? w _ h.1
  ⟨(World.cell?_of_block (w := w) (Below.heap_alloc w o C hlt)).trans h.1, (World.frozen?_of_block (w := w) (Below.heap_alloc w o C hlt)).trans h.2.1, h.2.2⟩
theorem CountAt.lt {w : World} {C : Nat} {n : Int} (h : CountAt w C n) : C < w.heap.size := World.block_lt_of_cell? w _ h.1
theorem lies_new (w : World) (c : Array Value) (t : TypeId) : Lies (w.alloc (.cells c t)) w.heap.size 0 c := fun j u hj => by
  have h : (w.alloc (.cells c t)).heap[w.heap.size]? = some (.cells c t) := World.alloc_heap_new w _
  simp only [World.cell?, h, Nat.zero_add]
  exact hj

set_option maxRecDepth 100000 in
theorem node_any (w0 : World) (c : Array Value) (nm : ByteArray) (vv : Vd) (m : Md) (ks : F) (hN : HasN w0 c nm vv m ks) (hok : nm.size ≤ 9223372036854775807 ∧ ks.len ≤ 9223372036854775807 ∧ ks.ok) (ih : NodesOk w0 ks)
    (w : World) (C : Nat) (n : Int) (hb : Below w0.heap.size w0 w) (hw : w0.heap.size ≤ C) (hC : CountAt w C n) :
    Calls Try.prog 13 #[.pointer (some ⟨C, 0, none⟩), .agg c] w fun e w' => (∃ v, e = .returned v) ∧ ∃ n', CountAt w' C n' ∧ less n (1 + nm.size + ks.weight) n' ∧ But C w w' := by
  obtain ⟨kv, hc, hS⟩ := hN
  have hN := nc_nc nm vv m kv
  rw [← hc] at hN
  have k1 := hN.name
  have k2 := hN.kids
  have hlt := hC.lt
  have C1 := text_any C n nm (w.alloc (.cells c 30)) (hC.alloc _) hok.1
  have C2 := fun (w1 : World) (n1 : Int) (b1 : But C (w.alloc (.cells c 30)) w1) (h1 : CountAt w1 C n1) => ih kv hS hok.2.2 hok.2.1 w1 C n1 (hb.trans (((Below.refl _ w).alloc (by omega) _).trans (b1.below hw (by simp; omega)))) hw h1
  have C3 : ∀ w1, But C (w.alloc (.cells c 30)) w1 → w1.cell? ⟨w.heap.size, 40, none⟩ = some kv := fun w1 b1 => b1.cell (by simpa using lies_new w c 30 40 kv k2) (by show w.heap.size ≠ C; omega)
  clear hN hc hC ih
  go_enter Try.func13, Try.ntmps13
  go_wp2_with (first
    | (go_at_call 25; refine C1.mono ?_; rintro e w1 ⟨⟨b1, rfl⟩, n1, hC1, l1, bl1⟩; have D2 := C2 w1 n1 bl1 hC1; have D3 := C3 w1 bl1; clear C1 C2 C3 hC1)
    | (go_at_call 26; refine D2.mono ?_; rintro e w2 ⟨⟨b2, rfl⟩, n2, hC2, l2, bl2⟩))
  go_end0
  exact ⟨⟨_, rfl⟩, n2, hC2, l1.trans l2, ((But.refl C w).alloc _).trans (bl1.trans bl2)⟩

theorem F.kids_size {f : F} {k : Nat} {nm : ByteArray} {v : Vd} {m : Md} {ks r : F} (h : f.drop k = .cons nm v m ks r) : ks.size + 1 + r.size ≤ f.size := by
  have := F.drop_size f k
  rw [h, F.size] at this
  omega
theorem Below.of_but {C : Nat} {w0 w w' : World} (hb : Below w0.heap.size w0 w) (h : But C w w') (hC : w0.heap.size ≤ C) : Below w0.heap.size w0 w' :=
  hb.trans (h.below hC hb.size)

set_option maxRecDepth 100000 in
set_option maxHeartbeats 800000 in
theorem nodes_any (w0 : World) : ∀ (N : Nat) (f : F), f.size < N → NodesOk w0 f := by
  intro N
  induction N with
  | zero => intro f h; omega
  | succ N ih =>
    intro f hN v hS hok hlen w C n hb hw hC
    obtain ⟨a, cap, rfl, _⟩ := hS.form
    have C1 := fun w n h => ok_any C n w h
    obtain ⟨L, hL⟩ : ∃ L, f.len = L := ⟨_, rfl⟩
    rw [hL] at hlen
    have HC : Hid (CountAt w C n) := hC
    have HL : Hid (f.len = L) := hL
    have HS : Hid (HasS w0 (.slice a f.len cap) f) := hS
    rw [hL]
    clear hC hS hL
    go_enter Try.func26, Try.ntmps26
    go_wp2_with fail
    go_loopw [4] (fun i wr => ∃ k : Nat, i = .int .i64 k ∧ k ≤ L ∧ Hid (∃ q n', q + (f.drop k).weight = f.weight ∧ CountAt wr C n' ∧ less n q n' ∧ But C w wr)) (fun i _ => L - iOf i)
    case atStart => exact ⟨0, rfl, Nat.zero_le _, 0, n, by rw [F.drop_zero]; omega, HC.out, fun h => by omega, But.refl _ _⟩
    case round =>
      obtain ⟨k, rfl, hk, q, n', hq, hC', hl', hb'⟩ := hrel
      have D1 := C1 wr n' hC'
      by_cases hlt : k < L
      · have hltI : (k : Int) < (L : Int) := by omega
        by_cases h0 : 0 ≤ n'
        · obtain ⟨g, o, cap', nm, vv, m, ks, c, hv, hd, hN', hc⟩ := HS.out.at (k := k) (by rw [HL.out]; exact hlt)
          cases hv
          have hod : (f.drop k).ok := F.ok_drop hok
          rw [hd] at hod
          have hks := F.kids_size hd
          have hbw := Below.of_but hb hb' hw
          have HLd : Hid (c.size = 41 ∧ Lies wr g (o + k * 41) c) := ⟨by obtain ⟨kv, rfl, _⟩ := hN'; exact nc_size .., Lies.below (w' := wr) hc hbw⟩
          have D2 := node_any w0 c nm vv m ks hN' ⟨hod.1, hod.2.1, hod.2.2.1⟩ (ih ks (by omega)) wr C n' hbw hw hC'
          have HW : Hid (q + (1 + nm.size + ks.weight) + (f.drop (k + 1)).weight = f.weight) := by show _ = _; rw [← hq, hd, F.weight]; omega
          have HB : Hid (less n q n' ∧ But C w wr) := ⟨hl', hb'⟩
          clear hq hd hN' hc hod hks hbw hC' hl' hb'
          go_wp2_with (first
            | (go_at_call 14; refine D1.mono ?_; rintro e w1 ⟨rfl, e1⟩; subst e1)
            | refine wpList_load30 rfl _ rfl _ _ rfl c HLd.out.1 HLd.out.2 ?_
            | (go_at_call 13; refine D2.mono ?_; rintro e w2 ⟨⟨b2, rfl⟩, n2, hC2, l2, bl2⟩))
          go_roundw
          case rel => exact ⟨k + 1, by go_num, by omega, _, n2, HW.out, hC2, HB.out.1.trans l2, HB.out.2.trans bl2⟩
          case measure => simp; omega
        · have HX : Hid (∃ n', CountAt wr C n' ∧ less n f.weight n' ∧ But C w wr) := ⟨n', hC', fun h => absurd h h0, hb'⟩
          clear hq hC' hl' hb'
          go_wp2_with (go_at_call 14; refine D1.mono ?_; rintro e w1 ⟨rfl, e1⟩; subst e1)
          go_end0
          exact ⟨⟨_, rfl⟩, HX.out⟩
      · have hltI : ¬ (k : Int) < (L : Int) := by omega
        obtain rfl : k = L := by omega
        have HX : Hid (∃ n', CountAt wr C n' ∧ less n f.weight n' ∧ But C w wr) := by
          refine ⟨n', hC', ?_, hb'⟩
          rw [F.drop_all f k (by rw [HL.out]; omega), F.weight] at hq
          rw [← hq]; exact hl'
        clear hq hC' hl' hb'
        go_wp2_with fail
        go_end0
        exact ⟨⟨_, rfl⟩, HX.out⟩

set_option maxRecDepth 100000 in
theorem many_any (w : World) : Calls Try.prog 12 #[.int .i64 20000] w fun e w' => e = .returned (.pointer (some ⟨w.heap.size, 0, none⟩)) ∧ CountAt w' w.heap.size 20000 ∧ Below w.heap.size w w' := by
  go_enter Try.func12, Try.ntmps12
  go_wp2
  go_ret
  exact ⟨rfl, ⟨by simp, by simp, by omega, by omega⟩, (Below.refl _ w).alloc (Nat.le_refl _) _⟩

end Go.Proofs.Ytglnpmdigghibaa
