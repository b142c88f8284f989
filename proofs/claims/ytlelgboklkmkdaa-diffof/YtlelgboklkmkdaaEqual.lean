import Derived.Test.YtlelgboklkmkdaaEq
set_option maxRecDepth 100000
set_option maxHeartbeats 1000000
/-
  few: how many parts raw data has.
-/
namespace Go.Proofs.Ytlelgboklkmkdaa
open Go.RowKit
/-- how many parts -/
def F.weight : F → Nat
  | .nil => 0
  | .cons nm _ _ k r => 1 + nm.size + k.weight + r.weight
def F.ok : F → Prop
  | .nil => True
  | .cons nm _ _ k r => nm.size ≤ 9223372036854775807 ∧ k.len ≤ 9223372036854775807 ∧ k.ok ∧ r.ok
theorem F.ok_drop : ∀ {f : F} {k : Nat}, f.ok → (f.drop k).ok
  | f, 0, h => by rw [F.drop_zero]; exact h
  | .nil, _ + 1, _ => trivial
  | .cons _ _ _ _ r, k + 1, h => F.ok_drop (f := r) h.2.2.2
/-- the count at block C -/
def CountAt (w : World) (C : Nat) (n : Int) : Prop := w.cell? ⟨C, 0, none⟩ = some (.int .i64 n) ∧ w.frozen? ⟨C, 0, none⟩ = false ∧ n ≤ 9223372036854775807 ∧ -9223372036854775808 ≤ n
/-- so much less, if it went on -/
def less (n : Int) (k : Nat) (n' : Int) : Prop := 0 ≤ n' → n' = n - (k : Int) ∧ 0 ≤ n
theorem less.trans {a b c : Int} {k l : Nat} (h : less a k b) (h' : less b l c) : less a (k + l) c := fun h0 => by
  have h1 := h' h0
  have h2 := h h1.2
  omega
/-- a forest of an elder world still lies -/
theorem HasS.elder {w0 w : World} {v : Value} {f : F} (h : HasS w0 v f) (hb : Below w0.heap.size w0 w) : HasS w v f := h.below hb
theorem add_any (C : Nat) (n : Int) (k : Nat) (w : World) (hC : CountAt w C n) (hk : (k : Int) ≤ 9223372036854775807) :
    Calls Try.prog 45 #[.pointer (some ⟨C, 0, none⟩), .int .i64 k] w fun e w' => (∃ v, e = .returned v) ∧ ∃ n', CountAt w' C n' ∧ less n k n' ∧ But C w w' := by
  obtain ⟨hc, hf, hn, hn'⟩ := hC
  by_cases h0 : 0 ≤ n
  · have HN : ∀ r : Int, w.cell? ⟨C, 0, none⟩ = some (.int .i64 n) → Hid ((w.setCell ⟨C, 0, none⟩ (.int .i64 r)).cell? ⟨C, 0, none⟩ = some (.int .i64 r)) := fun r h => World.cell?_setCell_same _ _ _ h
    have HF : ∀ r : Int, Hid ((w.setCell ⟨C, 0, none⟩ (.int .i64 r)).frozen? ⟨C, 0, none⟩ = false) := fun r => by show _ = _; rw [World.frozen?_setCell]; exact hf
    obtain ⟨r, hr⟩ : ∃ r, n - (k : Int) = r := ⟨_, rfl⟩
    have hw : IntKind.i64.wrap (n - (k : Int)) = r := by rw [IntKind.wrap_i64, hr]; omega
    have HR : Hid (r = n - (k : Int) ∧ r ≤ 9223372036854775807 ∧ -9223372036854775808 ≤ r) := ⟨hr.symm, by omega, by omega⟩
    have hc2 := (HN r hc).out
    clear hr
    go_enter Try.func45, Try.ntmps45
    go_wp2
    go_ret
    exact ⟨⟨_, rfl⟩, r, ⟨(HN r hc).out, (HF r).out, HR.out.2⟩, fun _ => ⟨HR.out.1, h0⟩, (But.refl C w).setCell 0 _⟩
  · go_enter Try.func45, Try.ntmps45
    go_wp2
    go_ret
    exact ⟨⟨_, rfl⟩, n, ⟨hc, hf, hn, hn'⟩, fun h => by omega, But.refl C w⟩
theorem ok_any (C : Nat) (n : Int) (w : World) (hC : CountAt w C n) : Calls Try.prog 16 #[.pointer (some ⟨C, 0, none⟩)] w fun e w' => e = .returned (.bool (decide (0 ≤ n))) ∧ w = w' := by
  obtain ⟨hc, hf, hn, hn'⟩ := hC
  go_enter Try.func16, Try.ntmps16
  go_wp2
  go_ret
  exact ⟨rfl, rfl⟩
theorem text_any (C : Nat) (n : Int) (s : ByteArray) (w : World) (hC : CountAt w C n) (hs : s.size ≤ 9223372036854775807) :
    Calls Try.prog 27 #[.pointer (some ⟨C, 0, none⟩), .string s] w fun e w' => (∃ v, e = .returned v) ∧ ∃ n', CountAt w' C n' ∧ less n (1 + s.size) n' ∧ But C w w' := by
  have C1 := add_any C n 1 w hC (by omega)
  have C2 := fun w n hC => add_any C n s.size w hC (by omega)
  clear hC
  go_enter Try.func27, Try.ntmps27
  go_wp2_with (first
    | (go_at_call_of 45 (Value.int .i64 1); refine C1.mono ?_; rintro e w1 ⟨⟨b1, rfl⟩, n1, hC1, l1, bl1⟩; have D2 := C2 w1 n1 hC1; clear C1 C2 hC1)
    | (go_at_call 45; refine D2.mono ?_; rintro e w2 ⟨⟨b2, rfl⟩, n2, hC2, l2, bl2⟩))
  go_end0
  exact ⟨⟨_, rfl⟩, n2, hC2, l1.trans l2, bl1.trans bl2⟩
/-- Nodes by contract, of this forest -/
def NodesOk (w0 : World) (f : F) : Prop := ∀ (v : Value), HasS w0 v f → f.ok → f.len ≤ 9223372036854775807 → ∀ (w : World) (C : Nat) (n : Int), Below w0.heap.size w0 w → w0.heap.size ≤ C → CountAt w C n →
    Calls Try.prog 28 #[.pointer (some ⟨C, 0, none⟩), v] w fun e w' => (∃ v, e = .returned v) ∧ ∃ n', CountAt w' C n' ∧ less n f.weight n' ∧ But C w w'
theorem CountAt.alloc {w : World} {C : Nat} {n : Int} (h : CountAt w C n) (o : Obj) : CountAt (w.alloc o) C n :=
  have hlt := World.block_lt_of_cell? w _ h.1
  ⟨(World.cell?_of_block (w := w) (Below.heap_alloc w o C hlt)).trans h.1, (World.frozen?_of_block (w := w) (Below.heap_alloc w o C hlt)).trans h.2.1, h.2.2⟩
theorem CountAt.lt {w : World} {C : Nat} {n : Int} (h : CountAt w C n) : C < w.heap.size := World.block_lt_of_cell? w _ h.1
theorem lies_new (w : World) (c : Array Value) (t : TypeId) : Lies (w.alloc (.cells c t)) w.heap.size 0 c := fun j u hj => by
  have h : (w.alloc (.cells c t)).heap[w.heap.size]? = some (.cells c t) := World.alloc_heap_new w _
  simp only [World.cell?, h, Nat.zero_add]
  exact hj
theorem node_any (w0 : World) (c : Array Value) (nm : ByteArray) (vv : Vd) (m : Md) (ks : F) (hN : HasN w0 c nm vv m ks) (hok : nm.size ≤ 9223372036854775807 ∧ ks.len ≤ 9223372036854775807 ∧ ks.ok) (ih : NodesOk w0 ks)
    (w : World) (C : Nat) (n : Int) (hb : Below w0.heap.size w0 w) (hw : w0.heap.size ≤ C) (hC : CountAt w C n) :
    Calls Try.prog 15 #[.pointer (some ⟨C, 0, none⟩), .agg c] w fun e w' => (∃ v, e = .returned v) ∧ ∃ n', CountAt w' C n' ∧ less n (1 + nm.size + ks.weight) n' ∧ But C w w' := by
  obtain ⟨kv, hc, hS⟩ := hN
  have hN := nc_nc nm vv m kv
  rw [← hc] at hN
  have k1 := hN.name
  have k2 := hN.kids
  have hlt := hC.lt
  have C1 := text_any C n nm (w.alloc (.cells c 30)) (hC.alloc _) hok.1
  have C2 := fun (w1 : World) (n1 : Int) (b1 : But C (w.alloc (.cells c 30)) w1) (h1 : CountAt w1 C n1) => ih kv hS hok.2.2 hok.2.1 w1 C n1 (hb.trans (((Below.refl _ w).alloc (by omega) _).trans (b1.below hw (by simp; omega)))) hw h1
  have C3 : ∀ w1, But C (w.alloc (.cells c 30)) w1 → w1.cell? ⟨w.heap.size, 40, none⟩ = some kv := fun w1 b1 => b1.cell (by simpa using lies_new w c 30 40 kv k2) (by show w.heap.size ≠ C; omega)
  clear hN hc hC ih
  go_enter Try.func15, Try.ntmps15
  go_wp2_with (first
    | (go_at_call 27; refine C1.mono ?_; rintro e w1 ⟨⟨b1, rfl⟩, n1, hC1, l1, bl1⟩; have D2 := C2 w1 n1 bl1 hC1; have D3 := C3 w1 bl1; clear C1 C2 C3 hC1)
    | (go_at_call 28; refine D2.mono ?_; rintro e w2 ⟨⟨b2, rfl⟩, n2, hC2, l2, bl2⟩))
  go_end0
  exact ⟨⟨_, rfl⟩, n2, hC2, l1.trans l2, ((But.refl C w).alloc _).trans (bl1.trans bl2)⟩
theorem F.kids_size {f : F} {k : Nat} {nm : ByteArray} {v : Vd} {m : Md} {ks r : F} (h : f.drop k = .cons nm v m ks r) : ks.size + 1 + r.size ≤ f.size := by
  have := F.drop_size f k
  rw [h, F.size] at this
  omega
theorem Below.of_but {C : Nat} {w0 w w' : World} (hb : Below w0.heap.size w0 w) (h : But C w w') (hC : w0.heap.size ≤ C) : Below w0.heap.size w0 w' :=
  hb.trans (h.below hC hb.size)
theorem nodes_any (w0 : World) : ∀ (N : Nat) (f : F), f.size < N → NodesOk w0 f := by
  intro N
  induction N with
  | zero => intro f h; omega
  | succ N ih =>
    intro f hN v hS hok hlen w C n hb hw hC
    obtain ⟨a, cap, rfl, _⟩ := hS.form
    have C1 := fun w n h => ok_any C n w h
    obtain ⟨L, hL⟩ : ∃ L, f.len = L := ⟨_, rfl⟩
    rw [hL] at hlen
    have HC : Hid (CountAt w C n) := hC
    have HL : Hid (f.len = L) := hL
    have HS : Hid (HasS w0 (.slice a f.len cap) f) := hS
    rw [hL]
    clear hC hS hL
    go_enter Try.func28, Try.ntmps28
    go_wp2_with fail
    go_loopw [4] (fun i wr => ∃ k : Nat, i = .int .i64 k ∧ k ≤ L ∧ Hid (∃ q n', q + (f.drop k).weight = f.weight ∧ CountAt wr C n' ∧ less n q n' ∧ But C w wr)) (fun i _ => L - iOf i)
    case atStart => exact ⟨0, rfl, Nat.zero_le _, 0, n, by rw [F.drop_zero]; omega, HC.out, fun h => by omega, But.refl _ _⟩
    case round =>
      obtain ⟨k, rfl, hk, q, n', hq, hC', hl', hb'⟩ := hrel
      have D1 := C1 wr n' hC'
      by_cases hlt : k < L
      · have hltI : (k : Int) < (L : Int) := by omega
        by_cases h0 : 0 ≤ n'
        · obtain ⟨g, o, cap', nm, vv, m, ks, c, hv, hd, hN', hc⟩ := HS.out.at (k := k) (by rw [HL.out]; exact hlt)
          cases hv
          have hod : (f.drop k).ok := F.ok_drop hok
          rw [hd] at hod
          have hks := F.kids_size hd
          have hbw := Below.of_but hb hb' hw
          have HLd : Hid (c.size = 41 ∧ Lies wr g (o + k * 41) c) := ⟨by obtain ⟨kv, rfl, _⟩ := hN'; exact nc_size .., Lies.below (w' := wr) hc hbw⟩
          have D2 := node_any w0 c nm vv m ks hN' ⟨hod.1, hod.2.1, hod.2.2.1⟩ (ih ks (by omega)) wr C n' hbw hw hC'
          have HW : Hid (q + (1 + nm.size + ks.weight) + (f.drop (k + 1)).weight = f.weight) := by show _ = _; rw [← hq, hd, F.weight]; omega
          have HB : Hid (less n q n' ∧ But C w wr) := ⟨hl', hb'⟩
          clear hq hd hN' hc hod hks hbw hC' hl' hb'
          go_wp2_with (first
            | (go_at_call 16; refine D1.mono ?_; rintro e w1 ⟨rfl, e1⟩; subst e1)
            | refine wpList_load30 rfl _ rfl _ _ rfl c HLd.out.1 HLd.out.2 ?_
            | (go_at_call 15; refine D2.mono ?_; rintro e w2 ⟨⟨b2, rfl⟩, n2, hC2, l2, bl2⟩))
          go_roundw
          case rel => exact ⟨k + 1, by go_num, by omega, _, n2, HW.out, hC2, HB.out.1.trans l2, HB.out.2.trans bl2⟩
          case measure => simp; omega
        · have HX : Hid (∃ n', CountAt wr C n' ∧ less n f.weight n' ∧ But C w wr) := ⟨n', hC', fun h => absurd h h0, hb'⟩
          clear hq hC' hl' hb'
          go_wp2_with (go_at_call 16; refine D1.mono ?_; rintro e w1 ⟨rfl, e1⟩; subst e1)
          go_end0
          exact ⟨⟨_, rfl⟩, HX.out⟩
      · have hltI : ¬ (k : Int) < (L : Int) := by omega
        obtain rfl : k = L := by omega
        have HX : Hid (∃ n', CountAt wr C n' ∧ less n f.weight n' ∧ But C w wr) := by
          refine ⟨n', hC', ?_, hb'⟩
          rw [F.drop_all f k (by rw [HL.out]; omega), F.weight] at hq
          rw [← hq]; exact hl'
        clear hq hC' hl' hb'
        go_wp2_with fail
        go_end0
        exact ⟨⟨_, rfl⟩, HX.out⟩
theorem many_any (w : World) : Calls Try.prog 14 #[.int .i64 20000] w fun e w' => e = .returned (.pointer (some ⟨w.heap.size, 0, none⟩)) ∧ CountAt w' w.heap.size 20000 ∧ Below w.heap.size w w' := by
  go_enter Try.func14, Try.ntmps14
  go_wp2
  go_ret
  exact ⟨rfl, ⟨by simp, by simp, by omega, by omega⟩, (Below.refl _ w).alloc (Nat.le_refl _) _⟩
end Go.Proofs.Ytlelgboklkmkdaa
/-
  twineref4.Equal by contract.
-/
namespace Go.Proofs.Ytlelgboklkmkdaa
open Go.RowKit
theorem cell_below {w w' : World} {a : Addr} {v : Value} (h : Below w.heap.size w w') (hc : w.cell? a = some v) : w'.cell? a = some v := (h.cell (World.block_lt_of_cell? w _ hc)).trans hc
/-- two boxes of things that were handed on -/
theorem two_boxes (w : World) (c d : Array Value) : Lies ((w.alloc (.cells c 30)).alloc (.cells d 30)) w.heap.size 0 c ∧ Lies ((w.alloc (.cells c 30)).alloc (.cells d 30)) (w.heap.size + 1) 0 d := by
  constructor
  · exact (lies_new w c 30).below ((Below.refl _ _).alloc (Nat.le_refl _) _)
  · have := lies_new (w.alloc (.cells c 30)) d 30
    rw [World.size_alloc] at this
    exact this
/-- no list is longer than an int tells -/
def F.okL (f : F) : Prop := f.size ≤ 9223372036854775807
/-- Equal, of things with these children -/
def EqualOk (ks : F) : Prop := ∀ (nm nm' : ByteArray) (v v' : Vd) (m m' : Md) (ks' : F) (c d : Array Value) (w : World), HasN w c nm v m ks → HasN w d nm' v' m' ks' → ks.okL → ks'.okL →
    Calls Try.prog 11 #[.agg c, .agg d] w fun e w' => e = .returned (.bool (decide (v = v' ∧ m = m' ∧ ks = ks'))) ∧ Below w.heap.size w w'
theorem equal_any : ∀ (N : Nat) (ks : F), ks.size < N → EqualOk ks := by
  intro N
  induction N with
  | zero => intro f h; omega
  | succ N ih =>
    intro ks hN nm nm' v v' m m' ks' c d w ⟨kv, hc, hS⟩ ⟨kv', hd, hS'⟩ hl hl'
    obtain ⟨L, hL⟩ : ∃ L, ks.len = L := ⟨_, rfl⟩
    obtain ⟨L', hL'⟩ : ∃ L', ks'.len = L' := ⟨_, rfl⟩
    obtain ⟨a, cap, rfl, _⟩ := hS.form
    obtain ⟨a', cap', rfl, _⟩ := hS'.form
    have HOK : Hid (ks.okL ∧ ks'.okL) := ⟨hl, hl'⟩
    replace hl : L ≤ 9223372036854775807 := by have := ks.len_le_size; unfold F.okL at hl; omega
    replace hl' : L' ≤ 9223372036854775807 := by have := ks'.len_le_size; unfold F.okL at hl'; omega
    obtain ⟨R, hR⟩ : ∃ R, decide (v = v' ∧ m = m' ∧ ks = ks') = R := ⟨_, rfl⟩
    rw [hR]
    have HRR : Hid (decide (v = v' ∧ m = m' ∧ ks = ks') = R) := hR
    clear hR
    have TB := two_boxes w c d
    have B1 : Below w.heap.size w ((w.alloc (.cells c 30)).alloc (.cells d 30)) := ((Below.refl _ w).alloc (Nat.le_refl _) _).alloc (by simp) _
    obtain ⟨H, hH⟩ : ∃ H, w.heap.size = H := ⟨_, rfl⟩
    have HH : Hid (w.heap.size = H) := hH
    have HL : Hid (ks.len = L) := hL
    have HL' : Hid (ks'.len = L') := hL'
    have HS : Hid (HasS w (.slice a L cap) ks) := by rw [hL] at hS; exact hS
    have HS' : Hid (HasS w (.slice a' L' cap') ks') := by rw [hL'] at hS'; exact hS'
    have HC : Hid (c = nc nm v m (.slice a L cap)) := by rw [hL] at hc; exact hc
    have HD : Hid (d = nc nm' v' m' (.slice a' L' cap')) := by rw [hL'] at hd; exact hd
    clear hL hL' hS hS' hc hd hH
    go_enter Try.func11, Try.ntmps11
    go_upto_region 1 with fail
    generalize (w.alloc (.cells c 30)).alloc (.cells d 30) = w1 at *
    rw [HH.out] at TB ⊢
    have LC : Lies w1 H 0 (nc nm v m (.slice a L cap)) := by rw [← HC.out]; exact TB.1
    have LD : Lies w1 (H + 1) 0 (nc nm' v' m' (.slice a' L' cap')) := by rw [← HD.out]; exact TB.2
    have HB : Hid (Below w.heap.size w w1) := B1
    obtain ⟨X, hX⟩ : ∃ X, (vx v).toArray = X := ⟨_, rfl⟩
    obtain ⟨X', hX'⟩ : ∃ X, (vx v').toArray = X := ⟨_, rfl⟩
    obtain ⟨M, hM⟩ : ∃ X, (mx m).toArray = X := ⟨_, rfl⟩
    obtain ⟨M', hM'⟩ : ∃ X, (mx m').toArray = X := ⟨_, rfl⟩
    have h40 := lies_kids LC
    have h40' := lies_kids LD
    rw [Nat.zero_add] at h40 h40'
    have E : Hid ((Lies w1 H 1 X ∧ X.size = 35) ∧ (Lies w1 (H + 1) 1 X' ∧ X'.size = 35) ∧ (Lies w1 H 36 M ∧ M.size = 4) ∧ (Lies w1 (H + 1) 36 M' ∧ M'.size = 4)) := by
      subst hX hX' hM hM'
      exact ⟨⟨lies_val LC, by simp [vx_len]⟩, ⟨lies_val LD, by simp [vx_len]⟩, ⟨lies_marks LC, by simp [mx_len]⟩, ⟨lies_marks LD, by simp [mx_len]⟩⟩
    have HX : Hid (X = (vx v).toArray ∧ X' = (vx v').toArray ∧ M = (mx m).toArray ∧ M' = (mx m').toArray) := ⟨hX.symm, hX'.symm, hM.symm, hM'.symm⟩
    clear hX hX' hM hM' LC LD TB B1
    by_cases hv : v = v'
    · have B1 : Hid ((!decide (v = v')) = false) := by show _ = _; simp [hv]
      by_cases hm : m = m'
      · have B2 : Hid ((!decide (m = m')) = false) := by show _ = _; simp [hm]
        by_cases hLL : L = L'
        · have HR : Hid (R = decide (ks = ks')) := by show _ = _; rw [← HRR.out]; simp [hv, hm]
          clear hv hm
          subst hLL
          go_wp2_with (first
            | (with_reducible refine wpList_exec (.agg X) ?_ ?_ ?_; exact exec_load24 _ rfl H 1 rfl X E.out.1.2 E.out.1.1; kernel_rfl)
            | (with_reducible refine wpList_exec (.agg X') ?_ ?_ ?_; exact exec_load24 _ rfl (H + 1) 1 rfl X' E.out.2.1.2 E.out.2.1.1; kernel_rfl)
            | (with_reducible refine wpList_exec (.bool false) ?_ ?_ ?_; exact exec_neq24' _ _ rfl X X' rfl rfl v v' HX.out.1 HX.out.2.1 false B1.out _; kernel_rfl)
            | (with_reducible refine wpList_exec (.agg M) ?_ ?_ ?_; exact exec_load27 _ rfl H 36 rfl M E.out.2.2.1.2 E.out.2.2.1.1; kernel_rfl)
            | (with_reducible refine wpList_exec (.agg M') ?_ ?_ ?_; exact exec_load27 _ rfl (H + 1) 36 rfl M' E.out.2.2.2.2 E.out.2.2.2.1; kernel_rfl)
            | (with_reducible refine wpList_exec (.bool false) ?_ ?_ ?_; exact exec_neq27' _ _ rfl M M' rfl rfl m m' HX.out.2.2.1 HX.out.2.2.2 false B2.out _; kernel_rfl))
          clear E HX B1 B2
          have HIH : Hid (∀ ks : F, ks.size < N → EqualOk ks) := ih
          clear ih
          go_loopw [5] (fun i wr => ∃ k : Nat, i = .int .i64 k ∧ k ≤ L ∧ wr.cell? ⟨H, 40, none⟩ = some (.slice a L cap) ∧ wr.cell? ⟨H + 1, 40, none⟩ = some (.slice a' L cap') ∧ Hid ((ks = ks' ↔ ks.drop k = ks'.drop k) ∧ Below w.heap.size w wr)) (fun i _ => L - iOf i)
          case atStart => exact ⟨0, rfl, Nat.zero_le _, h40, h40', by rw [F.drop_zero, F.drop_zero], HB.out⟩
          case round =>
            obtain ⟨k, rfl, hk, q1, q2, HI⟩ := hrel
            clear h40 h40'
            by_cases hlt : k < L
            · have hltI : (k : Int) < (L : Int) := by omega
              obtain ⟨g, o, cp, nm1, v1, m1, ks1, c1, hv1, hd1, hN1, hc1⟩ := HS.out.at (k := k) (by rw [HL.out]; exact hlt)
              obtain ⟨g', o', cp', nm2, v2, m2, ks2, c2, hv2, hd2, hN2, hc2⟩ := HS'.out.at (k := k) (by rw [HL'.out]; exact hlt)
              obtain rfl : a = some ⟨g, o, none⟩ := by injection hv1
              obtain rfl : a' = some ⟨g', o', none⟩ := by injection hv2
              clear hv1 hv2
              have bw := HI.out.2
              have n1 : wr.cell? ⟨g, o + k * 41, none⟩ = some (.string nm1) := by
                obtain ⟨kv1, rfl, _⟩ := hN1
                have := Lies.below hc1 bw 0 _ (nc_name ..)
                exact this
              have n2 : wr.cell? ⟨g', o' + k * 41, none⟩ = some (.string nm2) := by
                obtain ⟨kv1, rfl, _⟩ := hN2
                have := Lies.below hc2 bw 0 _ (nc_name ..)
                exact this
              by_cases hnn : nm1 = nm2
              · subst hnn
                have hks := F.kids_size hd1
                have CE := HIH.out ks1 (by omega) nm1 nm1 v1 v2 m1 m2 ks2 c1 c2
                have s1 : c1.size = 41 := by obtain ⟨kv1, rfl, _⟩ := hN1; exact nc_size ..
                have s2 : c2.size = 41 := by obtain ⟨kv1, rfl, _⟩ := hN2; exact nc_size ..
                have hl1 : ks1.okL := by have := HOK.out.1; unfold F.okL at this ⊢; omega
                have hl2 : ks2.okL := by have := HOK.out.2; have := F.kids_size hd2; unfold F.okL at *; omega
                have HN1 : Hid (∀ W, Below w.heap.size w W → HasN W c1 nm1 v1 m1 ks1) := fun W b => hN1.below b
                have HN2 : Hid (∀ W, Below w.heap.size w W → HasN W c2 nm1 v2 m2 ks2) := fun W b => hN2.below b
                have HC1 : Hid (∀ W, Below w.heap.size w W → Lies W g (o + k * 41) c1) := fun W b => Lies.below hc1 b
                have HC2 : Hid (∀ W, Below w.heap.size w W → Lies W g' (o' + k * 41) c2) := fun W b => Lies.below hc2 b
                have HB2 : Hid (Below w.heap.size w wr) := bw
                have HI1 : Hid (ks = ks' ↔ ks.drop k = ks'.drop k) := HI.out.1
                have HD1 : Hid (ks.drop k = F.cons nm1 v1 m1 ks1 (ks.drop (k + 1)) ∧ ks'.drop k = F.cons nm1 v2 m2 ks2 (ks'.drop (k + 1))) := ⟨hd1, hd2⟩
                have HCE : Hid (∀ W, Below w.heap.size w W → Calls Try.prog 11 #[.agg c1, .agg c2] W fun e w' => e = .returned (.bool (decide (v1 = v2 ∧ m1 = m2 ∧ ks1 = ks2))) ∧ Below W.heap.size W w') := fun W b => CE W (HN1.out W b) (HN2.out W b) hl1 hl2
                clear hd1 hd2 hN1 hN2 hc1 hc2 bw HI CE hks
                obtain ⟨b, hb⟩ : ∃ b, decide (v1 = v2 ∧ m1 = m2 ∧ ks1 = ks2) = b := ⟨_, rfl⟩
                have HBB : Hid (decide (v1 = v2 ∧ m1 = m2 ∧ ks1 = ks2) = b) := hb
                rw [hb] at HCE
                clear hb
                go_wp2_with fail
                have HST : Hid (∀ W W' : World, (fun w' => w'.cell? ⟨H, 40, none⟩ = some (.slice (some ⟨g, o, none⟩) L cap) ∧ w'.cell? ⟨H + 1, 40, none⟩ = some (.slice (some ⟨g', o', none⟩) L cap') ∧ w'.cell? ⟨g, o + k * 41, none⟩ = some (.string nm1) ∧ w'.cell? ⟨g', o' + k * 41, none⟩ = some (.string nm1) ∧ Below w.heap.size w w') W → Below W.heap.size W W' → (fun w' => w'.cell? ⟨H, 40, none⟩ = some (.slice (some ⟨g, o, none⟩) L cap) ∧ w'.cell? ⟨H + 1, 40, none⟩ = some (.slice (some ⟨g', o', none⟩) L cap') ∧ w'.cell? ⟨g, o + k * 41, none⟩ = some (.string nm1) ∧ w'.cell? ⟨g', o' + k * 41, none⟩ = some (.string nm1) ∧ Below w.heap.size w w') W') := fun W W' h b => ⟨cell_below b h.1, cell_below b h.2.1, cell_below b h.2.2.1, cell_below b h.2.2.2.1, h.2.2.2.2.trans (b.mono h.2.2.2.2.size)⟩
                refine wp_region_held_drew (S := fun w' => w'.cell? ⟨H, 40, none⟩ = some (.slice (some ⟨g, o, none⟩) L cap) ∧ w'.cell? ⟨H + 1, 40, none⟩ = some (.slice (some ⟨g', o', none⟩) L cap') ∧ w'.cell? ⟨g, o + k * 41, none⟩ = some (.string nm1) ∧ w'.cell? ⟨g', o' + k * 41, none⟩ = some (.string nm1) ∧ Below w.heap.size w w') (by kernel_rfl) ⟨q1, q2, n1, n2, HB2.out.drew⟩ (fun hS => ?_)
                refine takeD 0 34 (.pointer (some ⟨H, 40, none⟩)) hS rfl rfl (by kernel_rfl) (by kernel_rfl) (by kernel_rfl) (fun _ _ _ h => h) (by kernel_rfl) (fun wz hz => ?_) ?_
                · (try obtain ⟨z1, z2, z3, z4, z5⟩ := hz); go_simp
                try simp only [Act.put, List.setIfInBounds_toArray, List.set_cons_zero, List.set_cons_succ]
                refine takeD 1 35 (.slice (some ⟨g, o, none⟩) L cap) hS rfl rfl (by kernel_rfl) (by kernel_rfl) (by kernel_rfl) (fun _ _ _ h => h) (by kernel_rfl) (fun wz hz => ?_) ?_
                · (try obtain ⟨z1, z2, z3, z4, z5⟩ := hz); go_simp
                try simp only [Act.put, List.setIfInBounds_toArray, List.set_cons_zero, List.set_cons_succ]
                refine takeD 2 36 (.int .i64 k) hS rfl rfl (by kernel_rfl) (by kernel_rfl) (by kernel_rfl) (fun _ _ _ h => h) (by kernel_rfl) (fun wz hz => ?_) ?_
                · (try obtain ⟨z1, z2, z3, z4, z5⟩ := hz); go_simp
                try simp only [Act.put, List.setIfInBounds_toArray, List.set_cons_zero, List.set_cons_succ]
                refine takeD 3 37 (.pointer (some ⟨g, o + k * 41, none⟩)) hS rfl rfl (by kernel_rfl) (by kernel_rfl) (by kernel_rfl) (fun _ _ _ h => h) (by kernel_rfl) (fun wz hz => ?_) ?_
                · (try obtain ⟨z1, z2, z3, z4, z5⟩ := hz); go_simp
                try simp only [Act.put, List.setIfInBounds_toArray, List.set_cons_zero, List.set_cons_succ]
                refine takeD 4 38 (.pointer (some ⟨g, o + k * 41, none⟩)) hS rfl rfl (by kernel_rfl) (by kernel_rfl) (by kernel_rfl) (fun _ _ _ h => h) (by kernel_rfl) (fun wz hz => ?_) ?_
                · (try obtain ⟨z1, z2, z3, z4, z5⟩ := hz); go_simp
                try simp only [Act.put, List.setIfInBounds_toArray, List.set_cons_zero, List.set_cons_succ]
                refine takeD 5 39 (.string nm1) hS rfl rfl (by kernel_rfl) (by kernel_rfl) (by kernel_rfl) (fun _ _ _ h => h) (by kernel_rfl) (fun wz hz => ?_) ?_
                · (try obtain ⟨z1, z2, z3, z4, z5⟩ := hz); go_simp
                try simp only [Act.put, List.setIfInBounds_toArray, List.set_cons_zero, List.set_cons_succ]
                refine takeD 6 40 (.pointer (some ⟨H + 1, 40, none⟩)) hS rfl rfl (by kernel_rfl) (by kernel_rfl) (by kernel_rfl) (fun _ _ _ h => h) (by kernel_rfl) (fun wz hz => ?_) ?_
                · (try obtain ⟨z1, z2, z3, z4, z5⟩ := hz); go_simp
                try simp only [Act.put, List.setIfInBounds_toArray, List.set_cons_zero, List.set_cons_succ]
                refine takeD 7 41 (.slice (some ⟨g', o', none⟩) L cap') hS rfl rfl (by kernel_rfl) (by kernel_rfl) (by kernel_rfl) (fun _ _ _ h => h) (by kernel_rfl) (fun wz hz => ?_) ?_
                · (try obtain ⟨z1, z2, z3, z4, z5⟩ := hz); go_simp
                try simp only [Act.put, List.setIfInBounds_toArray, List.set_cons_zero, List.set_cons_succ]
                refine takeD 8 42 (.int .i64 k) hS rfl rfl (by kernel_rfl) (by kernel_rfl) (by kernel_rfl) (fun _ _ _ h => h) (by kernel_rfl) (fun wz hz => ?_) ?_
                · (try obtain ⟨z1, z2, z3, z4, z5⟩ := hz); go_simp
                try simp only [Act.put, List.setIfInBounds_toArray, List.set_cons_zero, List.set_cons_succ]
                refine takeD 9 43 (.pointer (some ⟨g', o' + k * 41, none⟩)) hS rfl rfl (by kernel_rfl) (by kernel_rfl) (by kernel_rfl) (fun _ _ _ h => h) (by kernel_rfl) (fun wz hz => ?_) ?_
                · (try obtain ⟨z1, z2, z3, z4, z5⟩ := hz); go_simp
                try simp only [Act.put, List.setIfInBounds_toArray, List.set_cons_zero, List.set_cons_succ]
                refine takeD 10 44 (.pointer (some ⟨g', o' + k * 41, none⟩)) hS rfl rfl (by kernel_rfl) (by kernel_rfl) (by kernel_rfl) (fun _ _ _ h => h) (by kernel_rfl) (fun wz hz => ?_) ?_
                · (try obtain ⟨z1, z2, z3, z4, z5⟩ := hz); go_simp
                try simp only [Act.put, List.setIfInBounds_toArray, List.set_cons_zero, List.set_cons_succ]
                refine takeD 11 45 (.string nm1) hS rfl rfl (by kernel_rfl) (by kernel_rfl) (by kernel_rfl) (fun _ _ _ h => h) (by kernel_rfl) (fun wz hz => ?_) ?_
                · (try obtain ⟨z1, z2, z3, z4, z5⟩ := hz); go_simp
                try simp only [Act.put, List.setIfInBounds_toArray, List.set_cons_zero, List.set_cons_succ]
                refine takeD 12 46 (.bool false) hS rfl rfl (by kernel_rfl) (by kernel_rfl) (by kernel_rfl) (fun _ _ _ h => h) (by kernel_rfl) (fun wz hz => ?_) ?_
                · (try obtain ⟨z1, z2, z3, z4, z5⟩ := hz); go_simp
                try simp only [Act.put, List.setIfInBounds_toArray, List.set_cons_zero, List.set_cons_succ]
                refine takeD 13 47 (.bool false) hS rfl rfl (by kernel_rfl) (by kernel_rfl) (by kernel_rfl) (fun _ _ _ h => h) (by kernel_rfl) (fun wz hz => ?_) ?_
                · (try obtain ⟨z1, z2, z3, z4, z5⟩ := hz); go_simp
                try simp only [Act.put, List.setIfInBounds_toArray, List.set_cons_zero, List.set_cons_succ]
                refine takeD 14 48 (.pointer (some ⟨H, 40, none⟩)) hS rfl rfl (by kernel_rfl) (by kernel_rfl) (by kernel_rfl) (fun _ _ _ h => h) (by kernel_rfl) (fun wz hz => ?_) ?_
                · (try obtain ⟨z1, z2, z3, z4, z5⟩ := hz); go_simp
                try simp only [Act.put, List.setIfInBounds_toArray, List.set_cons_zero, List.set_cons_succ]
                refine takeD 15 49 (.slice (some ⟨g, o, none⟩) L cap) hS rfl rfl (by kernel_rfl) (by kernel_rfl) (by kernel_rfl) (fun _ _ _ h => h) (by kernel_rfl) (fun wz hz => ?_) ?_
                · (try obtain ⟨z1, z2, z3, z4, z5⟩ := hz); go_simp
                try simp only [Act.put, List.setIfInBounds_toArray, List.set_cons_zero, List.set_cons_succ]
                refine takeD 16 50 (.int .i64 k) hS rfl rfl (by kernel_rfl) (by kernel_rfl) (by kernel_rfl) (fun _ _ _ h => h) (by kernel_rfl) (fun wz hz => ?_) ?_
                · (try obtain ⟨z1, z2, z3, z4, z5⟩ := hz); go_simp
                try simp only [Act.put, List.setIfInBounds_toArray, List.set_cons_zero, List.set_cons_succ]
                refine takeD 17 51 (.pointer (some ⟨g, o + k * 41, none⟩)) hS rfl rfl (by kernel_rfl) (by kernel_rfl) (by kernel_rfl) (fun _ _ _ h => h) (by kernel_rfl) (fun wz hz => ?_) ?_
                · (try obtain ⟨z1, z2, z3, z4, z5⟩ := hz); go_simp
                try simp only [Act.put, List.setIfInBounds_toArray, List.set_cons_zero, List.set_cons_succ]
                refine takeD 18 52 (.agg c1) hS rfl rfl (by kernel_rfl) (by kernel_rfl) (by kernel_rfl) (fun _ _ _ h => h) (by kernel_rfl) (fun wz hz => ?_) ?_
                · exact exec_load30 _ rfl g (o + k * 41) rfl c1 s1 (HC1.out wz hz.2.2.2.2)
                try simp only [Act.put, List.setIfInBounds_toArray, List.set_cons_zero, List.set_cons_succ]
                refine takeD 19 53 (.pointer (some ⟨H + 1, 40, none⟩)) hS rfl rfl (by kernel_rfl) (by kernel_rfl) (by kernel_rfl) (fun _ _ _ h => h) (by kernel_rfl) (fun wz hz => ?_) ?_
                · (try obtain ⟨z1, z2, z3, z4, z5⟩ := hz); go_simp
                try simp only [Act.put, List.setIfInBounds_toArray, List.set_cons_zero, List.set_cons_succ]
                refine takeD 20 54 (.slice (some ⟨g', o', none⟩) L cap') hS rfl rfl (by kernel_rfl) (by kernel_rfl) (by kernel_rfl) (fun _ _ _ h => h) (by kernel_rfl) (fun wz hz => ?_) ?_
                · (try obtain ⟨z1, z2, z3, z4, z5⟩ := hz); go_simp
                try simp only [Act.put, List.setIfInBounds_toArray, List.set_cons_zero, List.set_cons_succ]
                refine takeD 21 55 (.int .i64 k) hS rfl rfl (by kernel_rfl) (by kernel_rfl) (by kernel_rfl) (fun _ _ _ h => h) (by kernel_rfl) (fun wz hz => ?_) ?_
                · (try obtain ⟨z1, z2, z3, z4, z5⟩ := hz); go_simp
                try simp only [Act.put, List.setIfInBounds_toArray, List.set_cons_zero, List.set_cons_succ]
                refine takeD 22 56 (.pointer (some ⟨g', o' + k * 41, none⟩)) hS rfl rfl (by kernel_rfl) (by kernel_rfl) (by kernel_rfl) (fun _ _ _ h => h) (by kernel_rfl) (fun wz hz => ?_) ?_
                · (try obtain ⟨z1, z2, z3, z4, z5⟩ := hz); go_simp
                try simp only [Act.put, List.setIfInBounds_toArray, List.set_cons_zero, List.set_cons_succ]
                refine takeD 23 57 (.agg c2) hS rfl rfl (by kernel_rfl) (by kernel_rfl) (by kernel_rfl) (fun _ _ _ h => h) (by kernel_rfl) (fun wz hz => ?_) ?_
                · exact exec_load30 _ rfl g' (o' + k * 41) rfl c2 s2 (HC2.out wz hz.2.2.2.2)
                try simp only [Act.put, List.setIfInBounds_toArray, List.set_cons_zero, List.set_cons_succ]
                refine wpAnyH_ready (rs := [24]) (by kernel_rfl) (by simp) ?_
                refine AllReadyH.cons rfl (fun K hK => ?_) AllReadyH.nil
                rw [if_pos (by kernel_rfl)]
                go_simp
                refine (HCE.out _ hS.2.2.2.2).mono ?_
                rintro e w2 ⟨rfl, b2⟩
                have hS2 := HST.out _ _ hS b2
                refine hK.out _ _ hS2 (fun hS => ?_)
                clear hK
                refine takeD 25 59 (.bool (!b)) hS rfl rfl (by kernel_rfl) (by kernel_rfl) (by kernel_rfl) (fun _ _ _ h => h) (by kernel_rfl) (fun wz hz => ?_) ?_
                · (try obtain ⟨z1, z2, z3, z4, z5⟩ := hz); go_simp
                try simp only [Act.put, List.setIfInBounds_toArray, List.set_cons_zero, List.set_cons_succ]
                refine takeD 26 60 (.bool (!b)) hS rfl rfl (by kernel_rfl) (by kernel_rfl) (by kernel_rfl) (fun _ _ _ h => h) (by kernel_rfl) (fun wz hz => ?_) ?_
                · (try obtain ⟨z1, z2, z3, z4, z5⟩ := hz); go_simp
                try simp only [Act.put, List.setIfInBounds_toArray, List.set_cons_zero, List.set_cons_succ]
                refine wpAnyH_done (by kernel_rfl) ?_ _
                have HB3 : Hid (Below w.heap.size w w2) := hS.2.2.2.2
                have k0 := hS.1
                have k1 := hS.2.1
                clear hS hS2 b2 HST
                cases b with
                | false =>
                  have HF : Hid (decide (ks = ks') = false) := by
                    show _ = _
                    rw [decide_eq_false_iff_not, HI1.out, HD1.out.1, HD1.out.2]
                    intro e
                    injection e with _ e2 e3 e4
                    have := HBB.out
                    rw [decide_eq_false_iff_not] at this
                    exact this ⟨e2, e3, e4⟩
                  go_wp2_with fail
                  go_ret
                  exact ⟨by rw [HR.out, HF.out]; rfl, HB3.out⟩
                | true =>
                  have HI3 : Hid (ks = ks' ↔ ks.drop (k + 1) = ks'.drop (k + 1)) := by
                    show _ ↔ _
                    have := HBB.out
                    rw [decide_eq_true_eq] at this
                    obtain ⟨rfl, rfl, rfl⟩ := this
                    rw [HI1.out, HD1.out.1, HD1.out.2]
                    simp
                  go_wp2_with fail
                  go_roundw
                  case rel => exact ⟨k + 1, by go_num, by omega, k0, k1, HI3.out, HB3.out⟩
                  case measure => simp; omega
              · have b1 : (nm1.toList == nm2.toList) = false := by
                  have : ¬ nm1.toList = nm2.toList := fun e => hnn (ext_of _ _ e)
                  simpa using this
                have HF : Hid (decide (ks = ks') = false) := by
                  show _ = _
                  rw [decide_eq_false_iff_not, HI.out.1, hd1, hd2]
                  intro e
                  injection e with e1
                  exact hnn e1
                have HB2 : Hid (Below w.heap.size w wr) := bw
                clear hd1 hd2 hN1 hN2 hc1 hc2 bw HI hnn
                go_wp2_with fail
                go_region
                go_wp2_with fail
                go_ret
                exact ⟨by rw [HR.out, HF.out]; rfl, (HB2.out).drew⟩
            · have hltI : ¬ (k : Int) < (L : Int) := by omega
              have HF : Hid (decide (ks = ks') = true) := by
                show _ = _
                rw [decide_eq_true_eq, HI.out.1, F.drop_all ks k (by rw [HL.out]; omega), F.drop_all ks' k (by rw [HL'.out]; omega)]
              have HB2 : Hid (Below w.heap.size w wr) := HI.out.2
              clear HI
              go_wp2_with fail
              go_ret
              exact ⟨by rw [HR.out, HF.out]; rfl, HB2.out⟩
        · have b3 : (!decide ((L : Int) = (L' : Int))) = true := by simp; omega
          have b4 : ¬ (L : Int) = (L' : Int) := by omega
          have HR : Hid (R = false) := by
            show _ = _
            rw [← HRR.out]
            simp only [decide_eq_false_iff_not]
            rintro ⟨_, _, e⟩
            apply hLL
            rw [← HL.out, ← HL'.out, e]
          clear hv hm hLL
          go_wp2_with (first
            | (with_reducible refine wpList_exec (.agg X) ?_ ?_ ?_; exact exec_load24 _ rfl H 1 rfl X E.out.1.2 E.out.1.1; kernel_rfl)
            | (with_reducible refine wpList_exec (.agg X') ?_ ?_ ?_; exact exec_load24 _ rfl (H + 1) 1 rfl X' E.out.2.1.2 E.out.2.1.1; kernel_rfl)
            | (with_reducible refine wpList_exec (.bool false) ?_ ?_ ?_; exact exec_neq24' _ _ rfl X X' rfl rfl v v' HX.out.1 HX.out.2.1 false B1.out _; kernel_rfl)
            | (with_reducible refine wpList_exec (.agg M) ?_ ?_ ?_; exact exec_load27 _ rfl H 36 rfl M E.out.2.2.1.2 E.out.2.2.1.1; kernel_rfl)
            | (with_reducible refine wpList_exec (.agg M') ?_ ?_ ?_; exact exec_load27 _ rfl (H + 1) 36 rfl M' E.out.2.2.2.2 E.out.2.2.2.1; kernel_rfl)
            | (with_reducible refine wpList_exec (.bool false) ?_ ?_ ?_; exact exec_neq27' _ _ rfl M M' rfl rfl m m' HX.out.2.2.1 HX.out.2.2.2 false B2.out _; kernel_rfl))
          go_ret
          exact ⟨by rw [HR.out]; rfl, HB.out⟩
      · have B2 : Hid ((!decide (m = m')) = true) := by show _ = _; simp [hm]
        have HR : Hid (R = false) := by show _ = _; rw [← HRR.out]; simp [hm]
        clear hv hm
        go_wp2_with (first
          | (with_reducible refine wpList_exec (.agg X) ?_ ?_ ?_; exact exec_load24 _ rfl H 1 rfl X E.out.1.2 E.out.1.1; kernel_rfl)
          | (with_reducible refine wpList_exec (.agg X') ?_ ?_ ?_; exact exec_load24 _ rfl (H + 1) 1 rfl X' E.out.2.1.2 E.out.2.1.1; kernel_rfl)
          | (with_reducible refine wpList_exec (.bool false) ?_ ?_ ?_; exact exec_neq24' _ _ rfl X X' rfl rfl v v' HX.out.1 HX.out.2.1 false B1.out _; kernel_rfl)
          | (with_reducible refine wpList_exec (.agg M) ?_ ?_ ?_; exact exec_load27 _ rfl H 36 rfl M E.out.2.2.1.2 E.out.2.2.1.1; kernel_rfl)
          | (with_reducible refine wpList_exec (.agg M') ?_ ?_ ?_; exact exec_load27 _ rfl (H + 1) 36 rfl M' E.out.2.2.2.2 E.out.2.2.2.1; kernel_rfl)
          | (with_reducible refine wpList_exec (.bool true) ?_ ?_ ?_; exact exec_neq27' _ _ rfl M M' rfl rfl m m' HX.out.2.2.1 HX.out.2.2.2 true B2.out _; kernel_rfl))
        go_ret
        exact ⟨by rw [HR.out]; rfl, HB.out⟩
    · have B1 : Hid ((!decide (v = v')) = true) := by show _ = _; simp [hv]
      have HR : Hid (R = false) := by show _ = _; rw [← HRR.out]; simp [hv]
      clear hv
      go_wp2_with (first
        | (with_reducible refine wpList_exec (.agg X) ?_ ?_ ?_; exact exec_load24 _ rfl H 1 rfl X E.out.1.2 E.out.1.1; kernel_rfl)
        | (with_reducible refine wpList_exec (.agg X') ?_ ?_ ?_; exact exec_load24 _ rfl (H + 1) 1 rfl X' E.out.2.1.2 E.out.2.1.1; kernel_rfl)
        | (with_reducible refine wpList_exec (.bool true) ?_ ?_ ?_; exact exec_neq24' _ _ rfl X X' rfl rfl v v' HX.out.1 HX.out.2.1 true B1.out _; kernel_rfl))
      go_ret
      exact ⟨by rw [HR.out]; rfl, HB.out⟩
end Go.Proofs.Ytlelgboklkmkdaa
