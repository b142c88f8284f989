/-
  path.Join, few by contract.
-/
import Derived.Shelf.Strings.OnBuilder
import Derived.Test.YtnhnggnldhmepabGreatDoorProg
import Derived.Test.YtnhnggnldhmepabGreatDoorTexts
import Derived.Lib.Join
import Derived.RangeFuncBox
namespace Go.Proofs.YtnhnggnldhmepabGreatDoor
open Go.Shelf
def Tryz.lays156_ren : Go.Shelf.Ren := ⟨fun | 156 => 48 | 165 => 79 | 166 => 80 | 169 => 81 | 240 => 130 | 241 => 131 | 276 => 157 | 277 => 158 | n => n, fun | 31 => 27 | 9 => 9 | 3 => 3 | 4 => 4 | 0 => 0 | 20 => 20 | 72 => 115 | 76 => 119 | 70 => 113 | 37 => 85 | 75 => 118 | 127 => 170 | 164 => 194 | 5 => 5 | 80 => 121 | n => n, fun | n => n⟩
theorem Tryz.lays156 : Go.Proofs.Lays.n156 Tryz.prog Tryz.lays156_ren := {
  mixed := by kernel_rfl
  f156 := Tryz.func48.trans (congrArg some (by kernel_rfl))
  f165 := Tryz.func79.trans (congrArg some (by kernel_rfl))
  f166 := Tryz.func80.trans (congrArg some (by kernel_rfl))
  f169 := Tryz.func81.trans (congrArg some (by kernel_rfl))
  f240 := Tryz.func130.trans (congrArg some (by kernel_rfl))
  f241 := Tryz.func131.trans (congrArg some (by kernel_rfl))
  f276 := Tryz.func157.trans (congrArg some (by kernel_rfl))
  f277 := Tryz.func158.trans (congrArg some (by kernel_rfl))
  t0 := Tryz.underlying0
  a0 := Tryz.isAgg0
  z0 := Tryz.sizeOf0
  v0 := Tryz.zeroValue0
  t3 := Tryz.underlying3
  a3 := Tryz.isAgg3
  z3 := Tryz.sizeOf3
  v3 := Tryz.zeroValue3
  t4 := Tryz.underlying4
  a4 := Tryz.isAgg4
  z4 := Tryz.sizeOf4
  v4 := Tryz.zeroValue4
  t9 := Tryz.underlying9
  a9 := Tryz.isAgg9
  z9 := Tryz.sizeOf9
  v9 := Tryz.zeroValue9
  t20 := Tryz.underlying20
  a20 := Tryz.isAgg20
  z20 := Tryz.sizeOf20
  v20 := Tryz.zeroValue20
  t31 := Tryz.underlying27
  a31 := Tryz.isAgg27
  z31 := Tryz.sizeOf27
  v31 := Tryz.zeroValue27
  t37 := Tryz.underlying85
  a37 := Tryz.isAgg85
  z37 := Tryz.sizeOf85
  v37 := Tryz.zeroValue85
  t70 := Tryz.underlying113
  a70 := Tryz.isAgg113
  z70 := Tryz.sizeOf113
  v70 := Tryz.zeroValue113
  t72 := Tryz.underlying115
  a72 := Tryz.isAgg115
  z72 := Tryz.sizeOf115
  v72 := Tryz.zeroValue115
  t75 := Tryz.underlying118
  a75 := Tryz.isAgg118
  z75 := Tryz.sizeOf118
  v75 := Tryz.zeroValue118
  t76 := Tryz.underlying119
  a76 := Tryz.isAgg119
  z76 := Tryz.sizeOf119
  v76 := Tryz.zeroValue119
  t127 := Tryz.underlying170
  a127 := Tryz.isAgg170
  z127 := Tryz.sizeOf170
  v127 := Tryz.zeroValue170
  t164 := Tryz.underlying194
  a164 := Tryz.isAgg194
  z164 := Tryz.sizeOf194
  v164 := Tryz.zeroValue194 }
theorem Tryz.Builder_Extra_156 : Builder.Extra Tryz.prog Tryz.lays156_ren := {
  sizeBuilder := by kernel_rfl
  liesBuilder := by kernel_rfl
  t5 := Tryz.underlying5
  a5 := Tryz.isAgg5
  z5 := Tryz.sizeOf5
  v5 := Tryz.zeroValue5
  infoByte := by kernel_rfl
  cellsByte := by kernel_rfl
  sizeByte := by kernel_rfl
  neB5 := by decide }
open Go.RowKit in
theorem Tryz.strings_Join_none (a : Option Addr) (c : Nat) (sep : ByteArray) (w : World) :
    Calls Tryz.prog 48 #[.slice a 0 c, .string sep] w fun e w' => e = .returned (.string ⟨#[]⟩) ∧ w' = w := Any.strings_Join_none Tryz.lays156 Tryz.Builder_Extra_156 a c sep w
open Go.RowKit in
theorem Tryz.strings_Join (bk o c : Nat) (xs : List ByteArray) (sep : ByteArray) (w : World) (hcells : ∀ (j : Nat) x, xs[j]? = some x → w.cell? ⟨bk, o + j, none⟩ = some (.string x)) (hbk : bk < w.heap.size) (hN : xs.length ≤ 140737488355328) (hcap : xs.length ≤ c) (hlen : (Lib.join (xs.map (·.data.toList)) sep.data.toList).length ≤ 140737488355328) :
    Calls Tryz.prog 48 #[.slice (some ⟨bk, o, none⟩) xs.length c, .string sep] w fun e w' => e = .returned (.string ⟨(Lib.join (xs.map (·.data.toList)) sep.data.toList).toArray⟩) ∧ Below w.heap.size w w' := Any.strings_Join Tryz.lays156 Tryz.Builder_Extra_156 bk o c xs sep w hcells hbk hN hcap hlen
end Go.Proofs.YtnhnggnldhmepabGreatDoor
namespace Go.Proofs.YtnhnggnldhmepabGreatDoor
open Go.RowKit

theorem lib_join : ∀ L : List By, Lib.join L [47] = joinL L
  | [] => rfl
  | [x] => Lib.join_one x [47]
  | x :: y :: t => by
    have ih := lib_join (y :: t)
    unfold Lib.join at ih ⊢
    rw [joinL, ← ih]
    simp [List.intercalate]
/-- a text of these bytes -/
def ofB (l : By) : ByteArray := ⟨l.toArray⟩
theorem tl_ofB (l : By) : tl (ofB l) = l := by simp [tl, ofB]
theorem ofB_tl (s : ByteArray) : ofB (tl s) = s := ext_of _ _ (tl_ofB _)

theorem sJoin_any (v : Value) (L : List ByteArray) (w : World) (hv : HasT w v L) (hn : L.length ≤ 1048577) (hs : (joinL (L.map tl)).length ≤ 1048576) :
    Calls Tryz.prog 48 #[v, .string ⟨#[47]⟩] w fun e w' => e = .returned (.string (ofB (joinL (L.map tl)))) ∧ Below w.heap.size w w' := by
  rcases hv with ⟨rfl, rfl⟩ | ⟨a, cap, rfl, hc, hcell⟩
  · exact (Tryz.strings_Join_none none 0 ⟨#[47]⟩ w).mono fun e w' h => ⟨h.1, by rw [h.2]; exact Below.refl _ _⟩
  · cases L with
    | nil => exact (Tryz.strings_Join_none (some a) cap ⟨#[47]⟩ w).mono fun e w' h => ⟨h.1, by rw [h.2]; exact Below.refl _ _⟩
    | cons x L =>
      have h0 := hcell 0 x rfl
      have hadd : a.add 0 = a := by simp [Addr.add]
      rw [hadd] at h0
      obtain ⟨bk, o, sp⟩ := a
      have hsp : sp = none := by
        cases sp with
        | none => rfl
        | some q => simp only [World.cell?] at h0; split at h0 <;> simp at h0
      subst hsp
      have hE : (fun s : ByteArray => s.data.toList) = tl := by funext s; rw [tl, ByteArray.toList_eq]
      have hlen : (Lib.join ((x :: L).map (·.data.toList)) (ByteArray.data ⟨#[47]⟩).toList).length ≤ 140737488355328 := by
        rw [hE]
        show (Lib.join _ [47]).length ≤ _
        rw [lib_join]; omega
      refine (Tryz.strings_Join bk o cap (x :: L) ⟨#[47]⟩ w (fun j y hj => ?_) (World.block_lt_of_cell? w _ h0) (by omega) hc hlen).mono fun e w' h => ⟨?_, h.2⟩
      · have := hcell j y hj
        by_cases e : j = 0
        · subst e; rw [hadd] at this; exact this
        · simpa [Addr.add, e] using this
      · rw [h.1, hE]
        show Ending.returned (.string ⟨(Lib.join _ [47]).toArray⟩) = _
        rw [lib_join]; rfl

set_option maxHeartbeats 1000000 in
set_option maxRecDepth 100000 in
theorem join_any (v : Value) (L : List ByteArray) (w : World) (hv : HasT w v L) (hn : L.length ≤ 1048577) (hs : (joinL (L.map tl)).length ≤ 1048576) :
    Calls Tryz.prog 17 #[v] w fun e w' => e = .returned (.string (ofB (joinL (L.map tl)))) ∧ Below w.heap.size w w' := by
  have C := sJoin_any v L w hv hn hs
  obtain ⟨ao, cap, rfl, _⟩ := hv.form
  clear hv hs
  generalize ofB (joinL (L.map tl)) = z at *
  go_enter Tryz.func17, Tryz.ntmps17
  go_wp2_with (go_at_call 48; refine C.mono ?_; rintro e w1 ⟨rfl, b1⟩)
  go_ret
  exact ⟨rfl, b1⟩

/-- how many parts -/
def wsum : List ByteArray → Nat
  | [] => 0
  | s :: L => 1 + s.size + wsum L
theorem wsum_take {L : List ByteArray} {k : Nat} {s : ByteArray} (h : L[k]? = some s) : wsum (L.take (k + 1)) = wsum (L.take k) + 1 + s.size := by
  induction L generalizing k with
  | nil => simp at h
  | cons x L ih =>
    cases k with
    | zero => simp at h; subst h; simp [wsum]
    | succ k => simp at h; simp only [List.take_succ_cons, wsum]; rw [ih h]; omega
theorem wsum_facts : ∀ {L : List ByteArray}, L.length ≤ wsum L ∧ (joinL (L.map tl)).length ≤ wsum L ∧ ∀ s ∈ L, s.size ≤ wsum L
  | [] => by simp [wsum, joinL]
  | [x] => by simp [wsum, joinL, ByteArray.toList_eq]
  | x :: y :: t => by
    have ⟨h1, h2, h3⟩ := wsum_facts (L := y :: t)
    refine ⟨by simp only [List.length_cons, wsum] at *; omega, ?_, ?_⟩
    · simp only [List.map_cons, joinL, List.length_append, List.length_cons, wsum, tl_len] at *
      omega
    · intro s hs
      rcases List.mem_cons.1 hs with rfl | hs
      · simp only [wsum]; omega
      · have := h3 s hs; simp only [wsum] at *; omega

set_option maxHeartbeats 1000000 in
set_option maxRecDepth 100000 in
theorem text60_any (s : ByteArray) (n : Int) (cb B : Nat) (w : World) (hB : B ≤ cb) (hc : w.heap[cb]? = some (.cells #[.int .i64 n] 54)) (hn : 0 ≤ n ∧ n ≤ 30000) (hs : s.size ≤ 9223372036854775807) :
    Calls Tryz.prog 6 #[.pointer (some ⟨cb, 0, none⟩), .string s] w fun e w' => e = .returned (.tuple #[]) ∧ (∃ m : Int, w'.heap[cb]? = some (.cells #[.int .i64 m] 54) ∧ m ≤ 30000 ∧ (0 ≤ m → m = n - 1 - s.size) ∧ (m < 0 → ¬ 0 ≤ n - 1 - s.size)) ∧ Below B w w' := by
  have c0 : w.cell? ⟨cb, 0, none⟩ = some (.int .i64 n) := by simp [World.cell?, hc]
  have f0 : w.frozen? ⟨cb, 0, none⟩ = false := by simp [World.frozen?, hc]
  have hb : Boxed w cb 54 (.int .i64 n) := hc
  go_enter Tryz.func6, Tryz.ntmps6
  go_wp2
  · have h1 : 1 ≤ n := by assumption
    go_end0
    exact ⟨rfl, ⟨_, (hb.set (.int .i64 (n - 1))).set (.int .i64 (n - 1 - s.size)), by omega, fun _ => rfl, fun h => h⟩, ((Below.refl B w).setCell (p := ⟨cb, 0, none⟩) hB _).setCell (p := ⟨cb, 0, none⟩) hB _⟩
  · have h1 : n < 1 := by assumption
    go_end0
    exact ⟨rfl, ⟨_, hb.set (.int .i64 (n - 1)), by omega, fun h => by omega, fun _ => by omega⟩, (Below.refl B w).setCell (p := ⟨cb, 0, none⟩) hB _⟩

set_option maxHeartbeats 1000000 in
set_option maxRecDepth 100000 in
theorem texts41_any (v : Value) (L : List ByteArray) (cb : Nat) (w0 w : World) (hv : HasT w0 v L) (hL : ∀ s ∈ L, s.size ≤ 9223372036854775807) (hLl : L.length ≤ 9223372036854775807) (hw : Below w0.heap.size w0 w) (hB : w0.heap.size ≤ cb) (hc : w.heap[cb]? = some (.cells #[.int .i64 30000] 54)) :
    Calls Tryz.prog 7 #[.pointer (some ⟨cb, 0, none⟩), v] w fun e w' => e = .returned (.tuple #[]) ∧ (∃ m : Int, w'.heap[cb]? = some (.cells #[.int .i64 m] 54) ∧ (0 ≤ m → wsum L ≤ 30000)) ∧ Below w0.heap.size w0 w' := by
  have HV : Hid (HasT w0 v L) := hv
  have HLs : Hid (∀ s ∈ L, s.size ≤ 9223372036854775807) := hL
  obtain ⟨ao, cap, rfl, _⟩ := hv.form
  clear hv hL
  go_enter Tryz.func7, Tryz.ntmps7
  go_wp2
  go_loopw [4] (fun i wr => ∃ (k : Nat) (m : Int), i = .int .i64 k ∧ k ≤ L.length ∧ wr.heap[cb]? = some (.cells #[.int .i64 m] 54) ∧ m ≤ 30000 ∧ Hid (0 ≤ m → (wsum (L.take k) : Int) + m = 30000) ∧ Hid (Below w0.heap.size w0 wr)) (fun i _ => L.length - iOf i)
  case atStart => exact ⟨0, 30000, rfl, Nat.zero_le _, hc, by omega, fun _ => by simp [wsum], hw⟩
  case round =>
    obtain ⟨k, m, rfl, hk, hcr, hm, HM, HB⟩ := hrel
    have c0 : wr.cell? ⟨cb, 0, none⟩ = some (.int .i64 m) := by simp [World.cell?, hcr]
    by_cases hlt : k < L.length
    · have i1 : (k : Int) < (L.length : Int) := by omega
      by_cases h0 : 0 ≤ m
      · obtain ⟨x, hx⟩ : ∃ x, L[k]? = some x := ⟨_, List.getElem?_eq_getElem hlt⟩
        have hxs := HLs.out x (List.mem_of_getElem? hx)
        have C := text60_any x m cb w0.heap.size wr hB hcr ⟨h0, hm⟩ hxs
        obtain ⟨a0, _, hva, hca⟩ := (HV.out.below HB.out).at hx
        simp at hva
        obtain ⟨rfl, rfl⟩ := hva
        have hws := wsum_take hx
        go_wp2_with (first
          | (go_at_call 6; refine C.mono ?_; rintro e w1 ⟨rfl, ⟨m1, d1, d2, d3, d4⟩, b1⟩)
          | go_in)
        have HB2 : Hid (Below w0.heap.size w0 w1) := HB.out.trans b1
        have HM2 : Hid (0 ≤ m1 → (wsum (L.take (k + 1)) : Int) + m1 = 30000) := by
          intro q
          have := d3 q
          have := HM.out h0
          rw [hws]; omega
        go_roundw
        case rel => exact ⟨k + 1, m1, by go_num, by omega, d1, d2, HM2, HB2⟩
        case measure => simp; omega
      · have hneg : ¬ (0 ≤ m) := h0
        go_wp2
        go_end0
        exact ⟨rfl, ⟨m, hcr, fun q => by omega⟩, HB.out⟩
    · have i1 : ¬ ((k : Int) < (L.length : Int)) := by omega
      go_wp2
      go_end0
      refine ⟨rfl, ⟨m, hcr, fun q => ?_⟩, HB.out⟩
      have := HM.out q
      rw [List.take_of_length_le (by omega)] at this
      omega
end Go.Proofs.YtnhnggnldhmepabGreatDoor
