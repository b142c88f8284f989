/-
  Text by contract.
-/
import Derived.Test.YtpngnhpnjkepjaaGreatDoorRList
import Derived.Deep.OwnRows
import Derived.Deep.Cut
namespace Go.Proofs.YtpngnhpnjkepjaaGreatDoor
open Go.RowKit

theorem sJoinR_any (v : Value) (L : List ByteArray) (w : World) (hv : HasT w v L) (hn : L.length ≤ 1048577) (hs : (joinR (L.map tl)).length ≤ 1048576) :
    Calls Tryz.prog 47 #[v, .string ⟨#[10]⟩] w fun e w' => e = .returned (.string (ofB (joinR (L.map tl)))) ∧ Below w.heap.size w w' := by
  rcases hv with ⟨rfl, rfl⟩ | ⟨a, cap, rfl, hc, hcell⟩
  · exact (Tryz.strings_Join_none none 0 ⟨#[10]⟩ w).mono fun e w' h => ⟨h.1, by rw [h.2]; exact Below.refl _ _⟩
  · cases L with
    | nil => exact (Tryz.strings_Join_none (some a) cap ⟨#[10]⟩ w).mono fun e w' h => ⟨h.1, by rw [h.2]; exact Below.refl _ _⟩
    | cons x L =>
      have h0 := hcell 0 x rfl
      have hadd : a.add 0 = a := by simp [Addr.add]
      rw [hadd] at h0
      obtain ⟨bk, o, sp⟩ := a
      have hsp : sp = none := by
        cases sp with
        | none => rfl
        | some q => simp only [World.cell?] at h0; split at h0 <;> simp at h0
      subst hsp
      have hE : (fun s : ByteArray => s.data.toList) = tl := by funext s; rw [tl, ByteArray.toList_eq]
      have hlen : (Lib.join ((x :: L).map (·.data.toList)) (ByteArray.data ⟨#[10]⟩).toList).length ≤ 140737488355328 := by
        rw [hE]
        show (Lib.join _ [10]).length ≤ _
        rw [lib_joinR]; omega
      refine (Tryz.strings_Join bk o cap (x :: L) ⟨#[10]⟩ w (fun j y hj => ?_) (World.block_lt_of_cell? w _ h0) (by omega) hc hlen).mono fun e w' h => ⟨?_, h.2⟩
      · have := hcell j y hj
        by_cases e : j = 0
        · subst e; rw [hadd] at this; exact this
        · simpa [Addr.add, e] using this
      · rw [h.1, hE]
        show Ending.returned (.string ⟨(Lib.join _ [10]).toArray⟩) = _
        rw [lib_joinR]; rfl

theorem joinR_ge : ∀ {M : List By} {x : By}, x ∈ M → x.length ≤ (joinR M).length
  | [], _, h => by cases h
  | [y], x, h => by simp at h; subst h; exact Nat.le_refl _
  | y :: z :: t, x, h => by
    rw [joinR]
    rcases List.mem_cons.1 h with rfl | h
    · simp
    · have := joinR_ge (M := z :: t) h
      simp; omega
theorem ofB_app (a b : By) : ofB a ++ ofB b = ofB (a ++ b) := ext_of _ _ (by rw [tl_append, tl_ofB, tl_ofB, tl_ofB])
/-- the lines that are written, then empty texts -/
def txt (L : List Ru) (n N : Nat) : List Value := (L.take n).map (fun r => .string (ofB (lineR r))) ++ List.replicate (N - n) (.string ⟨#[]⟩)
theorem txt_len {L : List Ru} {n : Nat} (h : n ≤ L.length) : (txt L n L.length).length = L.length := by simp [txt]; omega
theorem txt_zero (L : List Ru) (N : Nat) : txt L 0 N = List.replicate N (.string ⟨#[]⟩) := by simp [txt]
theorem txt_set {L : List Ru} {n : Nat} {r : Ru} (h : L[n]? = some r) : (txt L n L.length).set n (.string (ofB (lineR r))) = txt L (n + 1) L.length := by
  have hl := (List.getElem?_eq_some_iff.1 h).1
  unfold txt
  rw [List.set_append, if_neg (by simp; omega)]
  rw [List.take_add_one, h]
  simp only [List.length_map, List.length_take]
  rw [show n - min n L.length = 0 from by omega, show L.length - n = (L.length - (n + 1)) + 1 from by omega, List.replicate_succ]
  simp
theorem txt_all (L : List Ru) : txt L L.length L.length = L.map (fun r => .string (ofB (lineR r))) := by simp [txt]
theorem madeCells_list (z : Value) (n : Nat) : (madeCells #[z] n).toList = List.replicate n z := by
  unfold madeCells
  refine List.ext_getElem (by simp) fun i h1 h2 => ?_
  simp [Nat.mod_one]
set_option maxHeartbeats 4000000 in
set_option maxRecDepth 100000 in
theorem text_any (p : Nat) (L : List Ru) (w : World) (h : IsL w p L) (hL : ∀ r ∈ L, r.1 = 1 ∨ r.1 = 2 ∨ r.1 = 3) (hn : L.length ≤ 64) (ht : (textR L).length ≤ 1048576) :
    Calls Tryz.prog 17 #[.pointer (some ⟨p, 0, none⟩)] w fun e w' => e = .returned (.string (ofB (textR L))) ∧ Below w.heap.size w w' := by
  obtain ⟨i0, hi, hz0, hz1, hz2⟩ := info_parts Tryz.info57
  obtain ⟨v, sv, pv, h1, h2⟩ := h
  have c0 := one_heap3 h1
  have HP1 : Hid (w.heap[p]? = some (.cells #[v, sv, pv] 74)) := h1
  have HV : Hid (HasR w v L) := h2
  have HL : Hid (∀ r ∈ L, r.1 = 1 ∨ r.1 = 2 ∨ r.1 = 3) := hL
  have HT : Hid ((textR L).length ≤ 1048576) := ht
  obtain ⟨Z, hZ⟩ : ∃ Z, textR L = Z := ⟨_, rfl⟩
  have HZ : Hid (joinR (L.map lineR) = Z) := hZ
  rw [hZ]
  clear hZ
  obtain ⟨ao, cap, hvf⟩ := h2.form
  obtain ⟨N, hN⟩ : ∃ N, L.length = N := ⟨_, rfl⟩
  have HN : Hid (L.length = N) := hN
  rw [hN] at hvf hn
  subst hvf
  clear h1 h2 hL ht hN
  have hpl := World.block_lt_of_cell? w _ c0
  have hmk : ∀ W : World, (Instr.makeSlice 54 (.int .i64 (N : Int)) (.int .i64 (N : Int))).run Tryz.prog W = .ok (.slice (some ⟨W.heap.size, 0, none⟩) N N) (W.alloc (.cells (madeCells #[.string ⟨#[]⟩] N) 9)) := fun W =>
    run_make_row' (P := Tryz.prog) 54 9 (.string ⟨#[]⟩) 16 Tryz.underlying54 Tryz.info9 rfl .i64 .i64 N (by omega) (by omega) W
  have c0' : (w.alloc (.cells (madeCells #[.string ⟨#[]⟩] N) 9)).cell? ⟨p, 0, none⟩ = some (.slice ao N cap) := cell_alloc_l _ c0
  go_enter Tryz.func17, Tryz.ntmps17
  go_wp2
  go_loopw [17] (fun k wr => ∃ n : Nat, k = .int .i64 (n : Int) ∧ n ≤ N ∧ Hid (wr.ownsRow w.heap.size 9 1 (.slice (some ⟨w.heap.size, 0, none⟩) N N) N (txt L n N) ∧ Below w.heap.size w wr)) (fun k wr => N - iOf k)
  case atStart =>
    refine ⟨0, rfl, Nat.zero_le _, ?_, (Below.refl _ w).alloc (Nat.le_refl _) _⟩
    rw [txt_zero, ← madeCells_list]
    exact World.ownsRow_lit w _ N (Nat.le_refl _) (by unfold maxLen; omega) (by rw [← Array.length_toList, madeCells_list]; simp)
  case round =>
    obtain ⟨n, rfl, hnN, HS⟩ := hrel
    by_cases hlt : n < N
    · have i1 : (n : Int) < (N : Int) := by omega
      obtain ⟨hown, hbe⟩ := HS.out
      obtain ⟨r, hr⟩ : ∃ r, L[n]? = some r := ⟨_, List.getElem?_eq_getElem (by rw [HN.out]; exact hlt)⟩
      have hr3 := HL.out r (List.mem_of_getElem? hr)
      have hcell : ∃ g, ao = some ⟨g, 0, none⟩ ∧ g < w.heap.size ∧ wr.cell? ⟨g, n * 2, none⟩ = some (.int .i64 (r.1 : Int)) ∧ wr.cell? ⟨g, n * 2 + 1, none⟩ = some (.string (ofB r.2)) := by
        rcases HV.out with ⟨_, e⟩ | ⟨_, g, cp, e, hg, hc⟩
        · subst e; simp at hr
        · cases e; exact ⟨g, rfl, hg, (hbe.cell (p := ⟨g, n * 2, none⟩) hg).trans (hc n r hr).1, (hbe.cell (p := ⟨g, n * 2 + 1, none⟩) hg).trans (hc n r hr).2⟩
      obtain ⟨g, rfl, hgl, hc0, hc1⟩ := hcell
      have hset := txt_set hr
      rw [HN.out] at hset
      have HSET : Hid ((txt L n N).set n (.string (ofB (lineR r))) = txt L (n + 1) N) := hset
      have hq : (ofB (headB r.1)).size + (ofB r.2).size ≤ 9223372036854775807 := by
        have h1 := joinR_ge (M := L.map lineR) (List.mem_map.2 ⟨r, List.mem_of_getElem? hr, rfl⟩)
        have h2 := HT.out
        have h3 : (lineR r).length = (headB r.1).length + r.2.length := List.length_append
        have h4 : (joinR (L.map lineR)).length ≤ 1048576 := h2
        rw [ofB_size, ofB_size]; omega
      obtain ⟨k, q⟩ := r
      simp only at hq
      simp only at hc0 hc1 hr3
      have CW := fun W => word_any k W hr3
      have hx := World.alloc_heap_new wr (.cells #[.int .i64 (k : Int), .string (ofB q)] 57)
      have hsz := hbe.size
      have hBl : w.heap.size < wr.heap.size := (World.ownsRow.lt hown w.heap.size rfl).2
      have HS1 : Hid (wr.ownsRow w.heap.size 9 1 (.slice (some ⟨w.heap.size, 0, none⟩) N N) N (txt L n N) ∧ Below w.heap.size w wr) := HS
      clear HS hr hset hown hbe
      go_upto_region 5 with fail
      refine wp_region_N 9 (fun W => W.heap[wr.heap.size]? = some (.cells #[.int .i64 (k : Int), .string (ofB q)] 57)) ?_
      have hI : (wr.alloc (.cells #[.int .i64 (k : Int), .string (ofB q)] 57)).drew.heap[wr.heap.size]? = some (.cells #[.int .i64 (k : Int), .string (ofB q)] 57) := hx
      have hbW : Below wr.heap.size wr (wr.alloc (.cells #[.int .i64 (k : Int), .string (ofB q)] 57)).drew := ((Below.refl _ wr).alloc (Nat.le_refl _) _).drew
      generalize (wr.alloc (.cells #[.int .i64 (k : Int), .string (ofB q)] 57)).drew = w0 at *
      try simp only [Act.put, List.setIfInBounds_toArray, List.set_cons_zero, List.set_cons_succ]
      refine tN 0 22 (.slice (some ⟨w.heap.size, 0, none⟩) N N) rfl (by kernel_rfl) hI (fun _ _ _ h => h) (fun wz hz => ?_) ?_
      · rfl
      try simp only [Act.put, List.setIfInBounds_toArray, List.set_cons_zero, List.set_cons_succ]
      refine tN 1 23 (.int .i64 (n : Int)) rfl (by kernel_rfl) hI (fun _ _ _ h => h) (fun wz hz => ?_) ?_
      · rfl
      try simp only [Act.put, List.setIfInBounds_toArray, List.set_cons_zero, List.set_cons_succ]
      refine tN 2 24 (.pointer (some ⟨wr.heap.size, 0, none⟩)) rfl (by kernel_rfl) hI (fun _ _ _ h => h) (fun wz hz => ?_) ?_
      · go_simp
      try simp only [Act.put, List.setIfInBounds_toArray, List.set_cons_zero, List.set_cons_succ]
      refine tN 3 25 (.int .i64 (k : Int)) rfl (by kernel_rfl) hI (fun _ _ _ h => h) (fun wz hz => ?_) ?_
      · obtain ⟨z0, z1, _, _⟩ := two_heap hz; go_simp
      try simp only [Act.put, List.setIfInBounds_toArray, List.set_cons_zero, List.set_cons_succ]
      refine tN 5 27 (.pointer (some ⟨wr.heap.size, 1, none⟩)) rfl (by kernel_rfl) hI (fun _ _ _ h => h) (fun wz hz => ?_) ?_
      · go_simp
      try simp only [Act.put, List.setIfInBounds_toArray, List.set_cons_zero, List.set_cons_succ]
      refine tN 6 28 (.string (ofB q)) rfl (by kernel_rfl) hI (fun _ _ _ h => h) (fun wz hz => ?_) ?_
      · obtain ⟨z0, z1, _, _⟩ := two_heap hz; go_simp
      try simp only [Act.put, List.setIfInBounds_toArray, List.set_cons_zero, List.set_cons_succ]
      refine readyN [4] (by kernel_rfl) (by simp) ?_
      refine AllN.call 4 26 46 #[.int .i64 (k : Int)] rfl (by kernel_rfl) (by go_simp) ((CW w0).mono ?_) AllN.nil
      rintro e w1 ⟨rfl, rfl⟩
      refine ⟨_, rfl, hI, ?_⟩
      try simp only [Act.put, List.setIfInBounds_toArray, List.set_cons_zero, List.set_cons_succ]
      refine tN 7 29 (.string (ofB (headB k) ++ ofB q)) rfl (by kernel_rfl) hI (fun _ _ _ h => h) (fun wz hz => ?_) ?_
      · go_simp
      try simp only [Act.put, List.setIfInBounds_toArray, List.set_cons_zero, List.set_cons_succ]
      refine tN 8 30 (.pointer (some ⟨w.heap.size, n, none⟩)) rfl (by kernel_rfl) hI (fun _ _ _ h => h) (fun wz hz => ?_) ?_
      · go_simp
      try simp only [Act.put, List.setIfInBounds_toArray, List.set_cons_zero, List.set_cons_succ]
      have hown0 := owns_same (w' := w1) HS1.out.1 fun k _ hk => hbW.block k hk
      have y0 : w1.cell? ⟨w.heap.size, n, none⟩ = some (.string ⟨#[]⟩) := by
        rw [World.ownsRow.cellAt hown0 n (by omega)]
        unfold txt
        rw [List.getElem?_append_right (by simp; omega)]
        have h1 := HN.out
        rw [List.length_map, List.length_take, h1, show n - min n N = 0 from by omega, show N - n = (N - n - 1) + 1 from by omega, List.replicate_succ]
        rfl
      have y1 := World.ownsRow.frozenAt hown0 n
      obtain ⟨st1, st2⟩ := World.ownsRow.stored hown0 n (.string (ofB (headB k) ++ ofB q))
      refine readyN [9] (by kernel_rfl) (by simp) ?_
      refine AllN.last 9 (w1.setCell ⟨w.heap.size, n, none⟩ (.string (ofB (headB k) ++ ofB q))) rfl (by kernel_rfl) (by go_simp) ?_ AllN.nil
      try simp only [Act.put, List.setIfInBounds_toArray, List.set_cons_zero, List.set_cons_succ]
      refine doneN (by kernel_rfl) ?_
      have HS4 : Hid ((w1.setCell ⟨w.heap.size, n, none⟩ (.string (ofB (headB k) ++ ofB q))).ownsRow w.heap.size 9 1 (.slice (some ⟨w.heap.size, 0, none⟩) N N) N (txt L (n + 1) N) ∧ Below w.heap.size w (w1.setCell ⟨w.heap.size, n, none⟩ (.string (ofB (headB k) ++ ofB q)))) := by
        refine ⟨?_, (HS1.out.2.trans (hbW.mono HS1.out.2.size)).setCell (p := ⟨w.heap.size, n, none⟩) (Nat.le_refl _) _⟩
        rw [← HSET.out]
        rw [ofB_app] at st1 ⊢
        exact st1
      generalize w1.setCell ⟨w.heap.size, n, none⟩ (.string (ofB (headB k) ++ ofB q)) = w5 at *
      clear st1 st2 y0 y1 hown0
      go_wp2
      go_roundw
      case rel => exact ⟨n + 1, by go_num, by omega, HS4⟩
      case measure => simp; omega
    · have hn2 : n = N := by omega
      subst hn2
      obtain ⟨hown, hbe⟩ := HS.out
      have hHT : HasT wr (.slice (some ⟨w.heap.size, 0, none⟩) n n) (L.map fun r => ofB (lineR r)) := by
        refine OwnsT.has (lo := w.heap.size) ?_
        unfold OwnsT
        rw [List.length_map, HN.out, List.map_map]
        have e := txt_all L
        rw [HN.out] at e
        rw [e] at hown
        exact hown
      have hm : (L.map fun r => ofB (lineR r)).map tl = L.map lineR := by
        rw [List.map_map]
        exact List.map_congr_left fun r _ => tl_ofB _
      have C := sJoinR_any _ _ wr hHT (by rw [List.length_map, HN.out]; omega) (by rw [hm]; exact HT.out)
      rw [hm, HZ.out] at C
      have HB : Hid (Below w.heap.size w wr) := hbe
      clear hown hbe HS hHT hm
      go_wp2_with (go_at_call 47; refine C.mono ?_; rintro e w2 ⟨rfl, hg2⟩)
      go_ret
      exact ⟨rfl, Below.up HB.out hg2⟩
end Go.Proofs.YtpngnhpnjkepjaaGreatDoor
