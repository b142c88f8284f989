/-
  path.Join, few by contract.
-/
import Derived.Test.YtpngnhpnjkepjaaDoorShelf
import Derived.Test.YtpngnhpnjkepjaaDoorTexts
import Derived.Lib.Join
import Derived.RangeFuncBox
namespace Go.Proofs.YtpngnhpnjkepjaaDoor
open Go.RowKit

theorem lib_join : ∀ L : List By, Lib.join L [47] = joinL L
  | [] => rfl
  | [x] => Lib.join_one x [47]
  | x :: y :: t => by
    have ih := lib_join (y :: t)
    unfold Lib.join at ih ⊢
    rw [joinL, ← ih]
    simp [List.intercalate]
/-- a text of these bytes -/
def ofB (l : By) : ByteArray := ⟨l.toArray⟩
theorem tl_ofB (l : By) : tl (ofB l) = l := by simp [tl, ofB]
theorem ofB_tl (s : ByteArray) : ofB (tl s) = s := ext_of _ _ (tl_ofB _)

theorem sJoin_any (v : Value) (L : List ByteArray) (w : World) (hv : HasT w v L) (hn : L.length ≤ 1048577) (hs : (joinL (L.map tl)).length ≤ 1048576) :
    Calls Tryd.prog 39 #[v, .string ⟨#[47]⟩] w fun e w' => e = .returned (.string (ofB (joinL (L.map tl)))) ∧ Below w.heap.size w w' := by
  rcases hv with ⟨rfl, rfl⟩ | ⟨a, cap, rfl, hc, hcell⟩
  · exact (Tryd.strings_Join_none none 0 ⟨#[47]⟩ w).mono fun e w' h => ⟨h.1, by rw [h.2]; exact Below.refl _ _⟩
  · cases L with
    | nil => exact (Tryd.strings_Join_none (some a) cap ⟨#[47]⟩ w).mono fun e w' h => ⟨h.1, by rw [h.2]; exact Below.refl _ _⟩
    | cons x L =>
      have h0 := hcell 0 x rfl
      have hadd : a.add 0 = a := by simp [Addr.add]
      rw [hadd] at h0
      obtain ⟨bk, o, sp⟩ := a
      have hsp : sp = none := by
        cases sp with
        | none => rfl
        | some q => simp only [World.cell?] at h0; split at h0 <;> simp at h0
      subst hsp
      have hE : (fun s : ByteArray => s.data.toList) = tl := by funext s; rw [tl, ByteArray.toList_eq]
      have hlen : (Lib.join ((x :: L).map (·.data.toList)) (ByteArray.data ⟨#[47]⟩).toList).length ≤ 140737488355328 := by
        rw [hE]
        show (Lib.join _ [47]).length ≤ _
        rw [lib_join]; omega
      refine (Tryd.strings_Join bk o cap (x :: L) ⟨#[47]⟩ w (fun j y hj => ?_) (World.block_lt_of_cell? w _ h0) (by omega) hc hlen).mono fun e w' h => ⟨?_, h.2⟩
      · have := hcell j y hj
        by_cases e : j = 0
        · subst e; rw [hadd] at this; exact this
        · simpa [Addr.add, e] using this
      · rw [h.1, hE]
        show Ending.returned (.string ⟨(Lib.join _ [47]).toArray⟩) = _
        rw [lib_join]; rfl

set_option maxHeartbeats 1000000 in
set_option maxRecDepth 100000 in
theorem join_any (v : Value) (L : List ByteArray) (w : World) (hv : HasT w v L) (hn : L.length ≤ 1048577) (hs : (joinL (L.map tl)).length ≤ 1048576) :
    Calls Tryd.prog 23 #[v] w fun e w' => e = .returned (.string (ofB (joinL (L.map tl)))) ∧ Below w.heap.size w w' := by
  have C := sJoin_any v L w hv hn hs
  obtain ⟨ao, cap, rfl, _⟩ := hv.form
  clear hv hs
  generalize ofB (joinL (L.map tl)) = z at *
  go_enter Tryd.func23, Tryd.ntmps23
  go_wp2_with (go_at_call 39; refine C.mono ?_; rintro e w1 ⟨rfl, b1⟩)
  go_ret
  exact ⟨rfl, b1⟩

/-- how many parts -/
def wsum : List ByteArray → Nat
  | [] => 0
  | s :: L => 1 + s.size + wsum L
theorem wsum_take {L : List ByteArray} {k : Nat} {s : ByteArray} (h : L[k]? = some s) : wsum (L.take (k + 1)) = wsum (L.take k) + 1 + s.size := by
  induction L generalizing k with
  | nil => simp at h
  | cons x L ih =>
    cases k with
    | zero => simp at h; subst h; simp [wsum]
    | succ k => simp at h; simp only [List.take_succ_cons, wsum]; rw [ih h]; omega
theorem wsum_facts : ∀ {L : List ByteArray}, L.length ≤ wsum L ∧ (joinL (L.map tl)).length ≤ wsum L ∧ ∀ s ∈ L, s.size ≤ wsum L
  | [] => by simp [wsum, joinL]
  | [x] => by simp [wsum, joinL, ByteArray.toList_eq]
  | x :: y :: t => by
    have ⟨h1, h2, h3⟩ := wsum_facts (L := y :: t)
    refine ⟨by simp only [List.length_cons, wsum] at *; omega, ?_, ?_⟩
    · simp only [List.map_cons, joinL, List.length_append, List.length_cons, wsum, tl_len] at *
      omega
    · intro s hs
      rcases List.mem_cons.1 hs with rfl | hs
      · simp only [wsum]; omega
      · have := h3 s hs; simp only [wsum] at *; omega

set_option maxHeartbeats 1000000 in
set_option maxRecDepth 100000 in
theorem text60_any (s : ByteArray) (n : Int) (cb B : Nat) (w : World) (hB : B ≤ cb) (hc : w.heap[cb]? = some (.cells #[.int .i64 n] 50)) (hn : 0 ≤ n ∧ n ≤ 30000) (hs : s.size ≤ 9223372036854775807) :
    Calls Tryd.prog 7 #[.pointer (some ⟨cb, 0, none⟩), .string s] w fun e w' => e = .returned (.tuple #[]) ∧ (∃ m : Int, w'.heap[cb]? = some (.cells #[.int .i64 m] 50) ∧ m ≤ 30000 ∧ (0 ≤ m → m = n - 1 - s.size) ∧ (m < 0 → ¬ 0 ≤ n - 1 - s.size)) ∧ Below B w w' := by
  have c0 : w.cell? ⟨cb, 0, none⟩ = some (.int .i64 n) := by simp [World.cell?, hc]
  have f0 : w.frozen? ⟨cb, 0, none⟩ = false := by simp [World.frozen?, hc]
  have hb : Boxed w cb 50 (.int .i64 n) := hc
  go_enter Tryd.func7, Tryd.ntmps7
  go_wp2
  · have h1 : 1 ≤ n := by assumption
    go_end0
    exact ⟨rfl, ⟨_, (hb.set (.int .i64 (n - 1))).set (.int .i64 (n - 1 - s.size)), by omega, fun _ => rfl, fun h => h⟩, ((Below.refl B w).setCell (p := ⟨cb, 0, none⟩) hB _).setCell (p := ⟨cb, 0, none⟩) hB _⟩
  · have h1 : n < 1 := by assumption
    go_end0
    exact ⟨rfl, ⟨_, hb.set (.int .i64 (n - 1)), by omega, fun h => by omega, fun _ => by omega⟩, (Below.refl B w).setCell (p := ⟨cb, 0, none⟩) hB _⟩

set_option maxHeartbeats 1000000 in
set_option maxRecDepth 100000 in
theorem texts41_any (v : Value) (L : List ByteArray) (cb : Nat) (w0 w : World) (hv : HasT w0 v L) (hL : ∀ s ∈ L, s.size ≤ 9223372036854775807) (hLl : L.length ≤ 9223372036854775807) (hw : Below w0.heap.size w0 w) (hB : w0.heap.size ≤ cb) (hc : w.heap[cb]? = some (.cells #[.int .i64 30000] 50)) :
    Calls Tryd.prog 8 #[.pointer (some ⟨cb, 0, none⟩), v] w fun e w' => e = .returned (.tuple #[]) ∧ (∃ m : Int, w'.heap[cb]? = some (.cells #[.int .i64 m] 50) ∧ (0 ≤ m → wsum L ≤ 30000)) ∧ Below w0.heap.size w0 w' := by
  have HV : Hid (HasT w0 v L) := hv
  have HLs : Hid (∀ s ∈ L, s.size ≤ 9223372036854775807) := hL
  obtain ⟨ao, cap, rfl, _⟩ := hv.form
  clear hv hL
  go_enter Tryd.func8, Tryd.ntmps8
  go_wp2
  go_loopw [4] (fun i wr => ∃ (k : Nat) (m : Int), i = .int .i64 k ∧ k ≤ L.length ∧ wr.heap[cb]? = some (.cells #[.int .i64 m] 50) ∧ m ≤ 30000 ∧ Hid (0 ≤ m → (wsum (L.take k) : Int) + m = 30000) ∧ Hid (Below w0.heap.size w0 wr)) (fun i _ => L.length - iOf i)
  case atStart => exact ⟨0, 30000, rfl, Nat.zero_le _, hc, by omega, fun _ => by simp [wsum], hw⟩
  case round =>
    obtain ⟨k, m, rfl, hk, hcr, hm, HM, HB⟩ := hrel
    have c0 : wr.cell? ⟨cb, 0, none⟩ = some (.int .i64 m) := by simp [World.cell?, hcr]
    by_cases hlt : k < L.length
    · have i1 : (k : Int) < (L.length : Int) := by omega
      by_cases h0 : 0 ≤ m
      · obtain ⟨x, hx⟩ : ∃ x, L[k]? = some x := ⟨_, List.getElem?_eq_getElem hlt⟩
        have hxs := HLs.out x (List.mem_of_getElem? hx)
        have C := text60_any x m cb w0.heap.size wr hB hcr ⟨h0, hm⟩ hxs
        obtain ⟨a0, _, hva, hca⟩ := (HV.out.below HB.out).at hx
        simp at hva
        obtain ⟨rfl, rfl⟩ := hva
        have hws := wsum_take hx
        go_wp2_with (first
          | (go_at_call 7; refine C.mono ?_; rintro e w1 ⟨rfl, ⟨m1, d1, d2, d3, d4⟩, b1⟩)
          | go_in)
        have HB2 : Hid (Below w0.heap.size w0 w1) := HB.out.trans b1
        have HM2 : Hid (0 ≤ m1 → (wsum (L.take (k + 1)) : Int) + m1 = 30000) := by
          intro q
          have := d3 q
          have := HM.out h0
          rw [hws]; omega
        go_roundw
        case rel => exact ⟨k + 1, m1, by go_num, by omega, d1, d2, HM2, HB2⟩
        case measure => simp; omega
      · have hneg : ¬ (0 ≤ m) := h0
        go_wp2
        go_end0
        exact ⟨rfl, ⟨m, hcr, fun q => by omega⟩, HB.out⟩
    · have i1 : ¬ ((k : Int) < (L.length : Int)) := by omega
      go_wp2
      go_end0
      refine ⟨rfl, ⟨m, hcr, fun q => ?_⟩, HB.out⟩
      have := HM.out q
      rw [List.take_of_length_le (by omega)] at this
      omega

end Go.Proofs.YtpngnhpnjkepjaaDoor
