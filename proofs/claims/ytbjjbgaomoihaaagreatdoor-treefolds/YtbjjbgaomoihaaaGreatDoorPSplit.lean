import Derived.Lib.Bytealg
import Derived.Test.YtbjjbgaomoihaaaGreatDoorPSeq
import Derived.Test.YtbjjbgaomoihaaaGreatDoorPlace
set_option maxRecDepth 100000
set_option maxHeartbeats 2000000
namespace Go.Proofs.YtbjjbgaomoihaaaGreatDoor
open Go.RowKit
theorem pcount_any (s : ByteArray) (w : World) :
    Calls Tryz.prog 138 #[.string s, .string ⟨#[47]⟩] w fun e w' => e = .returned (.int .i64 ((tl s).count 47 : Nat)) ∧ w' = w := by
  rw [show (tl s).count 47 = Lib.countByte s.data.toList (47 : Int).toNat.toUInt8 by rw [tl, ByteArray.toList_eq]; rfl]
  go_enter Tryz.func138, Tryz.ntmps138
  go_wp2
  rw [run_callFunc_extern Tryz.func152 (by kernel_rfl) (by kernel_rfl) (by kernel_rfl) (e := Extern.BytealgCount.count) (by kernel_rfl), Lib.run_countString]
  simp only [Result.andThen]
  rw [Oper.upon_value]
  go_wp2
  go_ret
  exact ⟨rfl, rfl⟩
theorem countPieces_any (s : ByteArray) (w : World) (hs : s.size ≤ 1152921504606846976) :
    Calls Tryz.prog 94 #[.string s] w fun e w' => e = .returned (.int .i64 ((pieces (tl s)).length : Nat)) ∧ w' = w := by
  have C := fun W => pcount_any s W
  have hc : (tl s).count 47 ≤ s.size := by rw [← tl_len]; exact List.count_le_length
  by_cases h0 : s.toList = []
  · have b0 : s.toList.isEmpty = true := by simpa using h0
    rw [show pieces (tl s) = [] by unfold pieces; rw [if_pos h0]]
    go_enter Tryz.func94, Tryz.ntmps94
    go_wp2
    go_ret
    exact ⟨rfl, rfl⟩
  · have b0 : s.toList.isEmpty = false := by simpa using h0
    rw [show (pieces (tl s)).length = (tl s).count 47 + 1 by unfold pieces; rw [if_neg h0, cuts_len]]
    generalize (tl s).count 47 = z at *
    go_enter Tryz.func94, Tryz.ntmps94
    go_wp2_with (go_at_call 138; refine (C _).mono ?_; rintro e w' ⟨rfl, rfl⟩)
    go_ret
    exact ⟨rfl, rfl⟩
theorem madeRow (lo : Nat) (w : World) (k : Nat) (hlo : lo ≤ w.heap.size) (hk : k ≤ 2000000) : (w.alloc (.cells (madeCells #[.string ⟨#[]⟩] k) 9)).ownsRow lo 9 1 (.slice (some ⟨w.heap.size, 0, none⟩) 0 k) 0 [] :=
  World.ownsRow_made w _ k hlo (by unfold maxLen; omega) (by rw [size_madeCells, Nat.mul_one])
theorem seqA (s : ByteArray) (w : World) (k : Nat) (hs : s.size ≤ 1048576) (hk : k ≤ 2000000) :
    Calls Tryz.prog 140 #[.slice (some ⟨w.heap.size, 0, none⟩) 0 k, .func (.func 139) #[] #[.pointer (some ⟨w.heap.size + 1, 0, none⟩)]] ((w.alloc (.cells (madeCells #[.string ⟨#[]⟩] k) 9)).alloc (.cells #[.string s] 9)).drew
      fun e w' => ∃ v L, e = .returned v ∧ OwnsT w' w.heap.size v L ∧ L.map tl = pieces (tl s) ∧ Below w.heap.size w w' := by
  refine (appendSeq_any w.heap.size (w.heap.size + 1) _ s ((w.alloc (.cells (madeCells #[.string ⟨#[]⟩] k) 9)).alloc (.cells #[.string s] 9)).drew hs (World.ownsRow.drew (World.ownsRow.alloc (madeRow w.heap.size w k (Nat.le_refl _) hk) _)) (by simp; omega) ?_ (by simp [Value.ownBlock])).mono ?_
  · show ((w.alloc (.cells (madeCells #[.string ⟨#[]⟩] k) 9)).alloc (.cells #[.string s] 9)).heap[w.heap.size + 1]? = _
    have := World.alloc_heap_new (w.alloc (.cells (madeCells #[.string ⟨#[]⟩] k) 9)) (.cells #[.string s] 9)
    rw [World.size_alloc] at this
    exact this
  · rintro e w' ⟨v, L, rfl, h1, h2, h3⟩
    refine ⟨v, L, rfl, h1, h2, Below.trans ?_ h3⟩
    exact (((Below.refl _ w).alloc (Nat.le_refl _) _).alloc (by simp) _).trans ⟨rfl, rfl, rfl, Nat.le_refl _, fun _ _ => rfl⟩
theorem seqB (s : ByteArray) (w : World) (k : Nat) (hs : s.size ≤ 1048576) (hk : k ≤ 2000000) :
    Calls Tryz.prog 140 #[.slice (some ⟨w.heap.size + 1, 0, none⟩) 0 k, .func (.func 139) #[] #[.pointer (some ⟨w.heap.size, 0, none⟩)]] ((w.alloc (.cells #[.string s] 9)).alloc (.cells (madeCells #[.string ⟨#[]⟩] k) 9)).drew
      fun e w' => ∃ v L, e = .returned v ∧ OwnsT w' w.heap.size v L ∧ L.map tl = pieces (tl s) ∧ Below w.heap.size w w' := by
  have hr := madeRow w.heap.size (w.alloc (.cells #[.string s] 9)) k (by simp) hk
  rw [World.size_alloc] at hr
  refine (appendSeq_any w.heap.size w.heap.size _ s ((w.alloc (.cells #[.string s] 9)).alloc (.cells (madeCells #[.string ⟨#[]⟩] k) 9)).drew hs (World.ownsRow.drew hr) (by simp; omega) ?_ (by simp [Value.ownBlock])).mono ?_
  · show ((w.alloc (.cells #[.string s] 9)).alloc (.cells (madeCells #[.string ⟨#[]⟩] k) 9)).heap[w.heap.size]? = _
    rw [Below.heap_alloc _ _ _ (by simp)]
    exact World.alloc_heap_new w _
  · rintro e w' ⟨v, L, rfl, h1, h2, h3⟩
    refine ⟨v, L, rfl, h1, h2, Below.trans ?_ h3⟩
    exact (((Below.refl _ w).alloc (Nat.le_refl _) _).alloc (by simp) _).trans ⟨rfl, rfl, rfl, Nat.le_refl _, fun _ _ => rfl⟩
theorem listPieces_any (s : ByteArray) (w : World) (hs : s.size ≤ 1048576) :
    Calls Tryz.prog 96 #[.string s] w fun e w' => ∃ v L, e = .returned v ∧ OwnsT w' w.heap.size v L ∧ L.map tl = pieces (tl s) ∧ Below w.heap.size w w' := by
  have C43 := fun W => countPieces_any s W (by omega)
  have C44 := fun W => piecesF_any s W
  have hk2 : (pieces (tl s)).length ≤ 2000000 := by
    unfold pieces
    split
    · simp
    · rw [cuts_len]; have := List.count_le_length (a := (47 : UInt8)) (l := tl s); rw [tl_len] at this; omega
  obtain ⟨i0, hi, hz0, hz1, hz2⟩ := info_parts Tryz.info9
  generalize hk : (pieces (tl s)).length = k at *
  have hM : ∀ W : World, (Instr.makeSlice 56 (.int .i64 0) (.int .i64 (k : Int))).run Tryz.prog W = .ok (.slice (some ⟨W.heap.size, 0, none⟩) 0 k) (W.alloc (.cells (madeCells #[.string ⟨#[]⟩] k) 9)) := by
    intro W
    have := run_make (P := Tryz.prog) W 56 9 i0 (.string ⟨#[]⟩) Tryz.underlying56 hi hz0 .i64 .i64 0 k (Int.le_refl _) (by omega) (by rw [hz2]; omega) (by omega)
    rw [hz1] at this
    simpa [Value.cells] using this
  have CA := seqA s w k hs hk2
  have CB := seqB s w k hs hk2
  go_enter Tryz.func96, Tryz.ntmps96
  go_wp2_with fail
  go_region_with (first
    | (go_at_call 94; refine (C43 _).mono ?_; rintro e w' ⟨rfl, rfl⟩)
    | (go_at_call 95; refine (C44 _).mono ?_; rintro e w' ⟨rfl, rfl⟩)
    | (go_at_call_of 140 (Value.slice (some ⟨w.heap.size, 0, none⟩) 0 k); refine CA.mono ?_; rintro e w' ⟨v, L, rfl, hL⟩)
    | (go_at_call 140; refine CB.mono ?_; rintro e w' ⟨v, L, rfl, hL⟩))
  all_goals
    have HL : Hid (OwnsT w' w.heap.size v L ∧ L.map tl = pieces (tl s) ∧ Below w.heap.size w w') := hL
    clear hL CA CB C43 C44 hM
    obtain ⟨ao, cap, hv, _⟩ := HL.out.1.has.form
    subst hv
    go_wp2
    go_ret
    exact ⟨_, L, rfl, HL.out.1, HL.out.2.1, HL.out.2.2⟩
open Go.Shelf
attribute [local go_sem] Oper.semAt_some
def splitE (l : By) (most : Int) : Int := if max most 0 < ((pieces l).length : Int) then 31 else if (pieces l).all nameB then 0 else 30
def splitL (l : By) (most : Int) : List By := if splitE l most = 0 then pieces l else []
theorem cell_of_box_l {W : World} {B : Nat} {v : Value} {t : TypeId} (h : W.heap[B]? = some (.cells #[v] t (0, 0))) : W.cell? ⟨B, 0, none⟩ = some v ∧ W.frozen? ⟨B, 0, none⟩ = false := by
  constructor <;> simp [World.cell?, World.frozen?, h]
theorem cell_new_l (W : World) (v : Value) (t : TypeId) : (W.alloc (.cells #[v] t)).cell? ⟨W.heap.size, 0, none⟩ = some v ∧ (W.alloc (.cells #[v] t)).frozen? ⟨W.heap.size, 0, none⟩ = false :=
  cell_of_box_l (World.alloc_heap_new W _)
theorem cell_alloc_l {W : World} {a : Addr} {v : Value} (o : Obj) (h : W.cell? a = some v) : (W.alloc o).cell? a = some v := cell_kept h (World.grownBy_alloc W o none) (fun r e => by cases e)
theorem frozen_alloc_l {W : World} {a : Addr} {v : Value} (o : Obj) (h : W.cell? a = some v) (hf : W.frozen? a = false) : (W.alloc o).frozen? a = false := (frozen_kept h (World.grownBy_alloc W o none) (fun r e => by cases e)).trans hf
theorem two_set {W : World} {b : Nat} {u1 u2 v1 v2 : Value} (h4 : W.cell? ⟨b, 0, none⟩ = some u1) (h5 : W.cell? ⟨b + 1, 0, none⟩ = some u2) :
    ((W.setCell ⟨b, 0, none⟩ v1).setCell ⟨b + 1, 0, none⟩ v2).cell? ⟨b, 0, none⟩ = some v1 ∧ ((W.setCell ⟨b, 0, none⟩ v1).setCell ⟨b + 1, 0, none⟩ v2).cell? ⟨b + 1, 0, none⟩ = some v2 := by
  have n1 : (⟨b + 1, 0, none⟩ : Addr) ≠ ⟨b, 0, none⟩ := by intro e; injection e with e1; omega
  have n2 : (⟨b, 0, none⟩ : Addr) ≠ ⟨b + 1, 0, none⟩ := by intro e; injection e with e1; omega
  have e5 : (W.setCell ⟨b, 0, none⟩ v1).cell? ⟨b + 1, 0, none⟩ = some u2 := (World.cell?_setCell_other _ _ _ _ n2).trans h5
  exact ⟨(World.cell?_setCell_other _ _ _ _ n1).trans (World.cell?_setCell_same _ _ _ h4), World.cell?_setCell_same _ _ _ e5⟩
theorem below_keeps {W W' : World} (h : Below W.heap.size W W') : KeepsOthers W W' := ⟨h.size, fun k _ hk _ => (h.block k (Array.getElem?_eq_some_iff.1 hk).1).trans hk⟩
theorem split_deep (s : ByteArray) (most : Int) (w : World) (hs : s.size ≤ 1048576) (hd : max most 0 < ((pieces (tl s)).length : Int)) :
    Calls Tryz.prog 62 #[.string s, .int .i64 most] w fun e w' => e = .returned (.tuple #[.slice none 0 0, .int .i64 31]) ∧ Below w.heap.size w w' := by
  have C43 := fun W => countPieces_any s W (by omega)
  generalize (pieces (tl s)).length = k at *
  refine (callsIn_wide (n := 4)).1 ?_
  refine callsIn_of_wp_marks Tryz.func62 rfl trivial ?_ rfl
  simp only [Tryz.ntmps62, List.size_toArray, List.length_cons, List.length_nil, Nat.reduceAdd, Nat.reduceSub, Array.replicate_succ, Array.replicate_zero, List.push_toArray, List.append_toArray, List.nil_append, List.cons_append]
  have i1 : most < (k : Int) := by omega
  have i2 : (0 : Int) < (k : Int) := by omega
  gi_wp2_with (refine ⟨trivial, ?_⟩; gi_at_call 94; refine (callsIn_wide.2 (C43 _)).mono ?_; rintro e w' ⟨rfl, rfl⟩)
  all_goals
    have c4 : ((w.alloc (.cells #[.slice none 0 0] 56)).alloc (.cells #[.int .i64 31] 65)).cell? ⟨w.heap.size, 0, none⟩ = some (.slice none 0 0) := cell_alloc_l _ (cell_new_l w (.slice none 0 0) 56).1
    have c5 : ((w.alloc (.cells #[.slice none 0 0] 56)).alloc (.cells #[.int .i64 31] 65)).cell? ⟨w.heap.size + 1, 0, none⟩ = some (.int .i64 31) := by
      have := (cell_new_l (w.alloc (.cells #[.slice none 0 0] 56)) (.int .i64 31) 65).1
      rw [World.size_alloc] at this
      exact this
    refine ⟨_, ?_, rfl, ((Below.refl _ w).alloc (Nat.le_refl _) _).alloc (by simp) _⟩
    simp [results, Tryz.f62, go_sem, c4, c5]
theorem OwnsT.set2 {w W w1 : World} {v v1 v2 : Value} {L : List ByteArray} (h : OwnsT w1 W.heap.size v L) (hs : w.heap.size + 3 ≤ W.heap.size) : OwnsT ((w1.setCell ⟨w.heap.size, 0, none⟩ v1).setCell ⟨w.heap.size + 1, 0, none⟩ v2) W.heap.size v L := by
  obtain ⟨h1, h | ⟨g, cap, cur, hv, hg, hh, hr⟩⟩ := h
  · exact ⟨h1, .inl h⟩
  · refine ⟨h1, .inr ⟨g, cap, cur, hv, hg, ?_, hr⟩⟩
    rw [Below.heap_setCell _ _ _ _ (by show g ≠ w.heap.size + 1; omega), Below.heap_setCell _ _ _ _ (by show g ≠ w.heap.size; omega)]
    exact hh
def PSI (w : World) (W : World) : Prop := w.heap.size + 3 ≤ W.heap.size ∧ W.cell? ⟨w.heap.size, 0, none⟩ = some (.slice none 0 0) ∧ W.frozen? ⟨w.heap.size, 0, none⟩ = false ∧ W.cell? ⟨w.heap.size + 1, 0, none⟩ = some (.int .i64 0) ∧ W.frozen? ⟨w.heap.size + 1, 0, none⟩ = false
theorem split_flat (s : ByteArray) (most : Int) (w : World) (hs : s.size ≤ 1048576) (hd : ¬ max most 0 < ((pieces (tl s)).length : Int)) :
    Calls Tryz.prog 62 #[.string s, .int .i64 most] w fun e w' => ((∃ v L, e = .returned (.tuple #[v, .int .i64 0]) ∧ OwnsT w' w.heap.size v L ∧ L.map tl = pieces (tl s) ∧ (pieces (tl s)).all nameB = true) ∨ e = .returned (.tuple #[.slice none 0 0, .int .i64 30]) ∧ (pieces (tl s)).all nameB = false) ∧ Below w.heap.size w w' := by
  have C43 := fun W => countPieces_any s W (by omega)
  have C44 := fun W => piecesF_any s W
  have C45 := fun W => listPieces_any s W hs
  have C10 := fun (x : ByteArray) W h => check_any x W h
  have STOPS := fun (w : World) Bs hB => pieces_stops 3 (by omega) Bs s (by omega) w hB
  generalize hP : pieces (tl s) = P at *
  obtain ⟨k, hk⟩ : ∃ k, P.length = k := ⟨_, rfl⟩
  rw [hk] at C43 hd
  refine (callsIn_wide (n := 4)).1 ?_
  refine callsIn_of_wp_marks Tryz.func62 rfl trivial ?_ rfl
  simp only [Tryz.ntmps62, List.size_toArray, List.length_cons, List.length_nil, Nat.reduceAdd, Nat.reduceSub, Array.replicate_succ, Array.replicate_zero, List.push_toArray, List.append_toArray, List.nil_append, List.cons_append]
  obtain ⟨M, hM⟩ : ∃ M, (if most < 0 then (0 : Int) else most) = M := ⟨_, rfl⟩
  have hMk : ¬ (M < (k : Int)) := by rw [← hM]; split <;> omega
  gi_wp2_with (refine ⟨trivial, ?_⟩; (first | (gi_at_call 94; refine (callsIn_wide.2 (C43 _)).mono ?_; rintro e w' ⟨rfl, rfl⟩) | (gi_at_call 95; refine (callsIn_wide.2 (C44 _)).mono ?_; rintro e w' ⟨rfl, rfl⟩)))
  clear hM hMk hd C43 C44
  have c4 := cell_new_l w (.slice none 0 0) 56
  have c5 := cell_new_l (w.alloc (.cells #[.slice none 0 0] 56)) (.int .i64 0) 65
  have cB : (((w.alloc (.cells #[.slice none 0 0] 56)).alloc (.cells #[.int .i64 0] 65)).alloc (.cells #[.string s] 9)).heap[w.heap.size + 1 + 1]? = some (.cells #[.string s] 9) := by
    have := World.alloc_heap_new ((w.alloc (.cells #[.slice none 0 0] 56)).alloc (.cells #[.int .i64 0] 65)) (.cells #[.string s] 9)
    rw [World.size_alloc, World.size_alloc] at this
    exact this
  simp only [World.size_alloc] at c5
  have hB0 : Below w.heap.size w (((w.alloc (.cells #[.slice none 0 0] 56)).alloc (.cells #[.int .i64 0] 65)).alloc (.cells #[.string s] 9)) := (((Below.refl _ w).alloc (Nat.le_refl _) _).alloc (by simp) _).alloc (by simp; omega) _
  refine wpIn_rangeFunc_ownF rfl (by omega) (gf := 139) (lb := #[.pointer (some ⟨w.heap.size + 1 + 1, 0, none⟩)]) rfl trivial (enters_of Tryz.func139 (by kernel_rfl) rfl)
    (STOPS _ _ cB) (fun h k => keepP_t h k) (keepP_b (by simp)) (Below.refl _ _) (fun _ => rfl)
    (fun pre W => ((∀ x ∈ pre, nameB (tl x.1) = true) ∧ PSI w W) ∧ Below w.heap.size w W)
    (fun c pre W => (c = .ret ∧ (∃ x ∈ pre, nameB (tl x.1) = false) ∧ W.cell? ⟨w.heap.size, 0, none⟩ = some (.slice none 0 0) ∧ W.cell? ⟨w.heap.size + 1, 0, none⟩ = some (.int .i64 30)) ∧ Below w.heap.size w W)
    (OwnFrom.and (Own.from (fun s A B row hs hg hr => ⟨hs.1, Nat.le_trans hs.2.1 hg.size, cell_kept hs.2.2.1 hg hr, (frozen_kept hs.2.2.1 hg hr).trans hs.2.2.2.1, cell_kept hs.2.2.2.2.1 hg hr, (frozen_kept hs.2.2.2.2.1 hg hr).trans hs.2.2.2.2.2⟩) _) (ownFrom_below (Nat.le_refl _) (by simp; omega)))
    (fun c => OwnFrom.and (Own.from (fun s A B row hs hg hr => ⟨hs.1, hs.2.1, cell_kept hs.2.2.1 hg hr, cell_kept hs.2.2.2 hg hr⟩) _) (ownFrom_below (Nat.le_refl _) (by simp; omega)))
    ⟨⟨by simp, by simp, cell_alloc_l _ (cell_alloc_l _ c4.1), frozen_alloc_l _ (cell_alloc_l _ c4.1) (frozen_alloc_l _ c4.1 c4.2), cell_alloc_l _ c5.1, frozen_alloc_l _ c5.1 c5.2⟩, hB0⟩
    (fun x => { tmps := #[.string s, .int .i64 most, undef, undef, .pointer (some ⟨w.heap.size, 0, none⟩), .pointer (some ⟨w.heap.size + 1, 0, none⟩), .string x.1, undef, .string s, .int .i64 k, .int .i64 most, .int .i64 M, .bool (decide (M < (k : Int))), .string s, .func (.func 139) #[] #[.pointer (some ⟨w.heap.size + 1 + 1, 0, none⟩)], .string x.1, undef, undef, undef, undef, undef, undef, undef], defers := [] }) ?assign ?body ?done ?stop
  case assign =>
    intro l x W K hK
    gi_wp2
    exact hK
  case body =>
    rintro l pre x W ⟨⟨hp, hsz, h4, f4, h5, f5⟩, hB⟩ _
    have CX := C10 x.1 W x.2
    by_cases hn : nameB (tl x.1) = true
    · rw [hn, show eno true = 0 from rfl] at CX
      have HN : Hid (∀ y ∈ pre ++ [x], nameB (tl y.1) = true) := by
        intro y hy
        rcases List.mem_append.1 hy with q | q
        · exact hp y q
        · simp at q; subst q; exact hn
      clear hn hp
      gi_wp2_with (refine ⟨trivial, ?_⟩; gi_at_call 90; refine (CallsIn.inRound l (callsIn_wide.2 CX)).mono ?_; rintro e w1 ⟨rfl, b1⟩)
      have q4 := (b1.cell (p := ⟨w.heap.size, 0, none⟩) (by show w.heap.size < _; omega)).trans h4
      have q5 := (b1.cell (p := ⟨w.heap.size + 1, 0, none⟩) (by show w.heap.size + 1 < _; omega)).trans h5
      have g4 := (b1.frozen (p := ⟨w.heap.size, 0, none⟩) (by show w.heap.size < _; omega)).trans f4
      have g5 := (b1.frozen (p := ⟨w.heap.size + 1, 0, none⟩) (by show w.heap.size + 1 < _; omega)).trans f5
      exact ⟨below_keeps b1, ⟨(below_keeps b1).walks, b1.block _ (by omega)⟩, ⟨HN.out, Nat.le_trans hsz b1.size, q4, g4, q5, g5⟩, hB.trans (b1.mono (by omega))⟩
    · rw [Bool.not_eq_true] at hn
      rw [hn, show eno false = 30 from rfl] at CX
      have HN : Hid (∃ y ∈ pre ++ [x], nameB (tl y.1) = false) := ⟨x, by simp, hn⟩
      clear hn hp
      gi_wp2_with (refine ⟨trivial, ?_⟩; gi_at_call 90; refine (CallsIn.inRound l (callsIn_wide.2 CX)).mono ?_; rintro e w1 ⟨rfl, b1⟩; have q4 := (b1.cell (p := ⟨w.heap.size, 0, none⟩) (by show w.heap.size < _; omega)).trans h4; have q5 := (b1.cell (p := ⟨w.heap.size + 1, 0, none⟩) (by show w.heap.size + 1 < _; omega)).trans h5; have g4 := (b1.frozen (p := ⟨w.heap.size, 0, none⟩) (by show w.heap.size < _; omega)).trans f4; have g5 := (b1.frozen (p := ⟨w.heap.size + 1, 0, none⟩) (by show w.heap.size + 1 < _; omega)).trans f5)
      obtain ⟨t4, t5⟩ := two_set (v1 := .slice none 0 0) (v2 := .int .i64 30) q4 q5
      exact ⟨((below_keeps b1).trans (KeepsOthers.setCell _ _ _)).trans (KeepsOthers.setCell _ _ _), ⟨rfl, HN.out, t4, t5⟩, ((hB.trans (b1.mono (by omega))).setCell (p := ⟨w.heap.size, 0, none⟩) (by simp) _).setCell (p := ⟨w.heap.size + 1, 0, none⟩) (by simp) _⟩
  case done =>
    rintro D ys W hD hys ⟨⟨hp, hsz, h4, f4, h5, f5⟩, hB⟩ hK
    have HA : Hid (P.all nameB = true) := by
      show _ = _
      rw [← hys, List.all_eq_true]
      intro p hpm
      obtain ⟨x, hx, rfl⟩ := List.mem_map.1 hpm
      exact hp x hx
    clear hp hys
    gi_wp2_with (refine ⟨trivial, ?_⟩; gi_at_call 96; refine (callsIn_wide.2 (C45 _)).mono ?_; rintro e w1 ⟨v, L, rfl, hown, hL, b1⟩; have q4 := (b1.cell (p := ⟨w.heap.size, 0, none⟩) (by show w.heap.size < _; omega)).trans h4; have q5 := (b1.cell (p := ⟨w.heap.size + 1, 0, none⟩) (by show w.heap.size + 1 < _; omega)).trans h5; have g4 := (b1.frozen (p := ⟨w.heap.size, 0, none⟩) (by show w.heap.size < _; omega)).trans f4; have g5 := (b1.frozen (p := ⟨w.heap.size + 1, 0, none⟩) (by show w.heap.size + 1 < _; omega)).trans f5; obtain ⟨ao, cap, hv, _⟩ := hown.has.form; subst hv)
    obtain ⟨t4, t5⟩ := two_set (v1 := .slice ao L.length cap) (v2 := .int .i64 0) q4 q5
    have k1 : ((w1.setCell ⟨w.heap.size, 0, none⟩ (.slice ao L.length cap)).setCell ⟨w.heap.size + 1, 0, none⟩ (.int .i64 0)).heap[D]? = some (.deferred (some [])) :=
      (KeepsOthers.setCell _ _ _).same D _ ((KeepsOthers.setCell _ _ _).same D _ ((below_keeps b1).same D _ hK rfl) rfl) rfl
    refine ⟨by simp, .inl ⟨_, _, rfl, run_takeDeferred k1, ?_⟩⟩
    have d4 := cell_kept t4 (grownBy_putObj' _ D (.deferred none)) (fun r e => by cases e; exact ⟨_, k1, rfl⟩)
    have d5 := cell_kept t5 (grownBy_putObj' _ D (.deferred none)) (fun r e => by cases e; exact ⟨_, k1, rfl⟩)
    have hB2 : Below w.heap.size w ((w1.setCell ⟨w.heap.size, 0, none⟩ (.slice ao L.length cap)).setCell ⟨w.heap.size + 1, 0, none⟩ (.int .i64 0)) := ((hB.trans (b1.mono (by omega))).setCell (p := ⟨w.heap.size, 0, none⟩) (by simp) _).setCell (p := ⟨w.heap.size + 1, 0, none⟩) (by simp) _
    refine ⟨.tuple #[.slice ao L.length cap, .int .i64 0], ?_, .inl ⟨_, L, rfl, ?_, hL, HA.out⟩, hB2.trans (belowK_b (w := w) (Nat.le_refl _) _ D _ _ (by simp at hD; omega) k1 rfl rfl)⟩
    · simp [results, Tryz.f62, go_sem, d4, d5]
    · refine ownsRow_putObj (OwnsT.mono (lo := W.heap.size) (lo' := w.heap.size) ?_ (by omega)) _ k1 rfl
      exact OwnsT.set2 hown hsz
  case stop =>
    rintro D c pre W hD hpre ⟨⟨rfl, hin, h4, h5⟩, hB⟩ hK
    gi_wp2
    refine ⟨by simp, .inl ⟨_, _, rfl, run_takeDeferred hK, ?_⟩⟩
    have c4 := cell_kept h4 (grownBy_putObj' _ D (.deferred none)) (fun r e => by cases e; exact ⟨_, hK, rfl⟩)
    have c5 := cell_kept h5 (grownBy_putObj' _ D (.deferred none)) (fun r e => by cases e; exact ⟨_, hK, rfl⟩)
    refine ⟨.tuple #[.slice none 0 0, .int .i64 30], ?_, .inr ⟨rfl, ?_⟩, hB.trans (belowK_b (w := w) (Nat.le_refl _) W D _ _ (by simp at hD; omega) hK rfl rfl)⟩
    · simp [results, Tryz.f62, go_sem, c4, c5]
    · obtain ⟨x, hx, hxn⟩ := hin
      rw [Bool.eq_false_iff, ne_eq, List.all_eq_true]
      intro h
      rw [h _ (hpre.subset (List.mem_map_of_mem hx))] at hxn
      cases hxn
theorem split_any (s : ByteArray) (most : Int) (w : World) (hs : s.size ≤ 1048576) :
    Calls Tryz.prog 62 #[.string s, .int .i64 most] w fun e w' => (∃ v L, e = .returned (.tuple #[v, .int .i64 (splitE (tl s) most)]) ∧ OwnsT w' w.heap.size v L ∧ L.map tl = splitL (tl s) most) ∧ Below w.heap.size w w' := by
  by_cases hd : max most 0 < ((pieces (tl s)).length : Int)
  · have e1 : splitE (tl s) most = 31 := if_pos hd
    refine (split_deep s most w hs hd).mono ?_
    rintro e w' ⟨rfl, b⟩
    exact ⟨⟨_, [], by rw [e1], OwnsT.nil _ _, by unfold splitL; rw [e1]; rfl⟩, b⟩
  · refine (split_flat s most w hs hd).mono ?_
    rintro e w' ⟨⟨v, L, rfl, h1, h2, h3⟩ | ⟨rfl, h3⟩, b⟩
    · have e1 : splitE (tl s) most = 0 := by unfold splitE; rw [if_neg hd, if_pos h3]
      exact ⟨⟨v, L, by rw [e1], h1, by unfold splitL; rw [if_pos e1]; exact h2⟩, b⟩
    · have e1 : splitE (tl s) most = 30 := by unfold splitE; rw [if_neg hd, if_neg (by rw [h3]; simp)]
      exact ⟨⟨_, [], by rw [e1], OwnsT.nil _ _, by unfold splitL; rw [e1]; rfl⟩, b⟩
end Go.Proofs.YtbjjbgaomoihaaaGreatDoor
