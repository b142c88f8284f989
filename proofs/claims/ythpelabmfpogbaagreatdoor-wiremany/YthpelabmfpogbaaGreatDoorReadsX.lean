/-
  WireReads: the walk of the law.
-/
import Derived.Test.YthpelabmfpogbaaGreatDoorReadsW
import Derived.Deep.DeepCutAuto
namespace Go.Proofs.YthpelabmfpogbaaGreatDoor
open Go.RowKit Wire Bk

/-- The law's state: the Book with n lists, the two pairs, the Room's two lists. -/
def PX (w0 : World) (a1 R1 a2 M1 a3 R2 a4 M2 P : Nat) (la lb : List Int) (x y : Rl) (hB hA : Value) (l m : List Int) (n : Nat) (w : World) : Prop :=
  ∃ B s1 s2, PA w0 w w0.heap.size (w0.heap.size + 1) n B a1 R1 a2 M1 a3 R2 a4 M2 P la lb s1 s2 w0.heap.size x y hB hA l m

section
variable {w0 w w' : World} {a1 R1 a2 M1 a3 R2 a4 M2 P : Nat} {la lb : List Int} {x y : Rl} {hB hA : Value} {l m : List Int} {n : Nat}

theorem PX.setx (h : PX w0 a1 R1 a2 M1 a3 R2 a4 M2 P la lb x y hB hA l m n w) {i : Nat} (hi : i < l.length) (b : Int) : PX w0 a1 R1 a2 M1 a3 R2 a4 M2 P la lb x y hB hA (l.set i b) m n (w.setCell ⟨x.g, i, none⟩ (.int .u8 b)) := by
  obtain ⟨B, s1, s2, h⟩ := h
  exact ⟨B, s1, s2, h.poke (.inr (.inl rfl)) (h.rm.setx hi b)⟩
theorem PX.sety (h : PX w0 a1 R1 a2 M1 a3 R2 a4 M2 P la lb x y hB hA l m n w) {i : Nat} (hi : i < m.length) (b : Int) : PX w0 a1 R1 a2 M1 a3 R2 a4 M2 P la lb x y hB hA l (m.set i b) n (w.setCell ⟨y.g, i, none⟩ (.int .u8 b)) := by
  obtain ⟨B, s1, s2, h⟩ := h
  exact ⟨B, s1, s2, h.poke (.inr (.inr (.inl rfl))) (h.rm.sety hi b)⟩
theorem PX.cx (h : PX w0 a1 R1 a2 M1 a3 R2 a4 M2 P la lb x y hB hA l m n w) {i : Nat} (hi : i < l.length) : w.cell? ⟨x.g, i, none⟩ = some (.int .u8 (l.getD i 0)) ∧ w.frozen? ⟨x.g, i, none⟩ = false := by
  obtain ⟨B, s1, s2, h⟩ := h
  exact owns_cell h.rm.ox hi
theorem PX.cy (h : PX w0 a1 R1 a2 M1 a3 R2 a4 M2 P la lb x y hB hA l m n w) {i : Nat} (hi : i < m.length) : w.cell? ⟨y.g, i, none⟩ = some (.int .u8 (m.getD i 0)) ∧ w.frozen? ⟨y.g, i, none⟩ = false := by
  obtain ⟨B, s1, s2, h⟩ := h
  exact owns_cell h.rm.oy hi
theorem PX.up (h : PX w0 a1 R1 a2 M1 a3 R2 a4 M2 P la lb x y hB hA l m n w) (hb : Below w.heap.size w w') : PX w0 a1 R1 a2 M1 a3 R2 a4 M2 P la lb x y hB hA l m n w' := by
  obtain ⟨B, s1, s2, h⟩ := h
  exact ⟨B, s1, s2, h.up hb⟩
theorem PX.pc (h : PX w0 a1 R1 a2 M1 a3 R2 a4 M2 P la lb x y hB hA l m n w) : w.cell? ⟨P, 0, none⟩ = some (.pointer (some ⟨R1, 0, none⟩)) ∧ w.cell? ⟨P, 1, none⟩ = some (.pointer (some ⟨M1, 0, none⟩)) ∧ w.cell? ⟨P, 2, none⟩ = some (.pointer (some ⟨R2, 0, none⟩)) ∧ w.cell? ⟨P, 3, none⟩ = some (.pointer (some ⟨M2, 0, none⟩)) := by
  obtain ⟨B, s1, s2, h⟩ := h
  refine ⟨?_, ?_, ?_, ?_⟩ <;> (simp only [World.cell?, h.pc]; rfl)
theorem PX.stands1 (h : PX w0 a1 R1 a2 M1 a3 R2 a4 M2 P la lb x y hB hA l m n w) : Calls Tryz.prog 18 #[.agg #[.pointer (some ⟨R1, 0, none⟩), .pointer (some ⟨M1, 0, none⟩)]] w fun e w' => e = .returned (.bool true) ∧ Below w.heap.size w w' ∧ PX w0 a1 R1 a2 M1 a3 R2 a4 M2 P la lb x y hB hA l m n w' := by
  obtain ⟨B, s1, s2, h⟩ := h
  refine (stands_any _ _ _ _ _ _ _ _ h.t1.rd h.t1.rf).mono ?_
  rintro e w' ⟨rfl, hb⟩
  exact ⟨rfl, hb, B, s1, s2, h.up hb⟩
theorem PX.stands2 (h : PX w0 a1 R1 a2 M1 a3 R2 a4 M2 P la lb x y hB hA l m n w) : Calls Tryz.prog 18 #[.agg #[.pointer (some ⟨R2, 0, none⟩), .pointer (some ⟨M2, 0, none⟩)]] w fun e w' => e = .returned (.bool true) ∧ Below w.heap.size w w' ∧ PX w0 a1 R1 a2 M1 a3 R2 a4 M2 P la lb x y hB hA l m n w' := by
  obtain ⟨B, s1, s2, h⟩ := h
  refine (stands_any _ _ _ _ _ _ _ _ h.t2.rd h.t2.rf).mono ?_
  rintro e w' ⟨rfl, hb⟩
  exact ⟨rfl, hb, B, s1, s2, h.up hb⟩
theorem PX.hold (h : PX w0 a1 R1 a2 M1 a3 R2 a4 M2 P la lb x y hB hA l m n w) (hn : n ≤ 200000) : Calls Tryz.prog 15 #[.pointer (some ⟨w0.heap.size + 1, 0, none⟩)] w fun e w' => e = .returned (.bool true) ∧ PX w0 a1 R1 a2 M1 a3 R2 a4 M2 P la lb x y hB hA l m n w' := by
  obtain ⟨B, s1, s2, h⟩ := h
  refine (hold_up _ _ _ n B h.t1.book hn).mono ?_
  rintro e w' ⟨rfl, hb⟩
  exact ⟨rfl, B, s1, s2, h.up hb⟩
theorem PX.rhold (h : PX w0 a1 R1 a2 M1 a3 R2 a4 M2 P la lb x y hB hA l m n w) : Calls Tryz.prog 13 #[.pointer (some ⟨w0.heap.size, 0, none⟩)] w fun e w' => e = .returned (.bool true) ∧ w' = w := by
  obtain ⟨B, s1, s2, h⟩ := h
  exact roomHold_any _ _ _ _ _ w h.rm.room (by simp)
theorem PX.bel (h : PX w0 a1 R1 a2 M1 a3 R2 a4 M2 P la lb x y hB hA l m n w) : Below w0.heap.size w0 w := by
  obtain ⟨B, s1, s2, h⟩ := h
  exact h.bel
theorem PX.does1 (h : PX w0 a1 R1 a2 M1 a3 R2 a4 M2 P la lb x y hB hA l m n w) (hBy : Bytes la) (hl : la.length ≤ 100000) (kd : Int) (sec : Bool) (most : Nat) (nn : Int) (mark : Nat) (hnn : -9223372036854775808 ≤ nn ∧ nn ≤ 9223372036854775807) (hmk : mark ≤ 100000000) (hn : n ≤ 200000) :
    Calls Tryz.prog 19 #[.agg #[.pointer (some ⟨R1, 0, none⟩), .pointer (some ⟨M1, 0, none⟩)], .pointer (some ⟨w0.heap.size + 1, 0, none⟩), .agg #[.int .i64 kd, .bool sec, .int .u64 most, .int .i64 nn], .int .i64 mark] w fun e w' => e = .returned (.bool true) ∧ ∃ n', n' ≤ n + 1 ∧ PX w0 a1 R1 a2 M1 a3 R2 a4 M2 P la lb x y hB hA l m n' w' := by
  obtain ⟨B, s1, s2, h⟩ := h
  refine (does_any _ _ n B _ _ _ _ la _ kd sec most nn mark w h.t1 hBy hl hnn hmk hn).mono ?_
  rintro e w' ⟨rfl, hd⟩
  obtain ⟨n', B', s', h1, h2⟩ := h.does1 hd
  exact ⟨rfl, n', h1, B', s', s2, h2⟩
theorem PX.does2 (h : PX w0 a1 R1 a2 M1 a3 R2 a4 M2 P la lb x y hB hA l m n w) (hBy : Bytes lb) (hl : lb.length ≤ 100000) (kd : Int) (sec : Bool) (most : Nat) (nn : Int) (mark : Nat) (hnn : -9223372036854775808 ≤ nn ∧ nn ≤ 9223372036854775807) (hmk : mark ≤ 100000000) (hn : n ≤ 200000) :
    Calls Tryz.prog 19 #[.agg #[.pointer (some ⟨R2, 0, none⟩), .pointer (some ⟨M2, 0, none⟩)], .pointer (some ⟨w0.heap.size + 1, 0, none⟩), .agg #[.int .i64 kd, .bool sec, .int .u64 most, .int .i64 nn], .int .i64 mark] w fun e w' => e = .returned (.bool true) ∧ ∃ n', n' ≤ n + 1 ∧ PX w0 a1 R1 a2 M1 a3 R2 a4 M2 P la lb x y hB hA l m n' w' := by
  obtain ⟨B, s1, s2, h⟩ := h
  refine (does_any _ _ n B _ _ _ _ lb _ kd sec most nn mark w h.t2 hBy hl hnn hmk hn).mono ?_
  rintro e w' ⟨rfl, hd⟩
  obtain ⟨n', B', s', h1, h2⟩ := h.does2 hd
  exact ⟨rfl, n', h1, B', s1, s', h2⟩
end

theorem bcell {w w' : World} {p : Addr} {v : Value} (hb : Below w.heap.size w w') (h : w.cell? p = some v) : w'.cell? p = some v := by
  have q : p.block < w.heap.size := by
    rcases Nat.lt_or_ge p.block w.heap.size with q | q
    · exact q
    · simp [World.cell?, Array.getElem?_eq_none q] at h
  rw [hb.cell q]; exact h

theorem hid {p : Prop} (h : p) : Hid p := h

set_option maxHeartbeats 12000000 in
set_option maxRecDepth 100000 in
theorem reads_short (va vb vs : Value) (la lb : List Int) (L : List OpD) (w : World) (ha : Has w va la) (hb : Has w vb lb) (hBa : Bytes la) (hBb : Bytes lb) (hops : HasOps w vs L) (hla : la.length ≤ 65536) (hlb : lb.length ≤ 65536) (hL : L.length ≤ 400) :
    Calls Tryz.prog 4 #[va, vb, vs] w fun e w' => e = .returned (.bool true) ∧ Below w.heap.size w w' := by
  obtain ⟨aa, ca, rfl, _⟩ := ha.form
  obtain ⟨ab, cb, rfl, _⟩ := hb.form
  obtain ⟨so, sc, rfl, hop⟩ := hops
  have HA : Hid (Has w (.slice aa la.length ca) la) := ha
  have HB : Hid (Has w (.slice ab lb.length cb) lb) := hb
  have HYA : Hid (Bytes la) := hBa
  have HYB : Hid (Bytes lb) := hBb
  have HOP : Hid (∀ (i : Nat) (x : OpD), L[i]? = some x → x.ok ∧ ∃ g o, so = some ⟨g, o, none⟩ ∧ ∀ j y, (opCells x)[j]? = some y → w.cell? ⟨g, o + i * 4 + j, none⟩ = some y) := hop
  have C1 := hid (lent1 (.slice aa la.length ca) la w ha hla)
  clear ha hb hBa hBb hop
  go_enter Tryz.func4, Tryz.ntmps4
  go_upto_region 5 with (refine wpList_book rfl rfl rfl _ rfl rfl ?_)
  go_wp2_with fail
  refine C1.out.mono ?_
  rintro e w3 ⟨x, hB0, hA0, rfl, hp⟩
  have C2 := hid (lent2 (.slice ab lb.length cb) la lb w w3 x hB0 hA0 hp HB.out hlb)
  clear C1 hp
  go_wp2_with fail
  refine C2.out.mono ?_
  rintro e w4 ⟨y, hB, hA, rfl, hq⟩
  have H4 := hid hq
  clear C2 hq
  have HX4 := hid (owns_has_part H4.out.1.ox (k := la.length + 600) (by omega))
  have HY4 := hid (owns_has_part H4.out.1.oy (k := lb.length + 600) (by omega))
  go_wp2_with fail
  refine (read_any _ la _ HX4.out (by omega)).mono ?_
  rintro e w5 ⟨R1, rfl, hR1, hr1, hb5⟩
  have G1 := hid hr1
  have B5 := hid hb5
  clear hr1 hb5
  go_wp2_with fail
  refine (refRead_any _ la _ ((HA.out.below H4.out.2.2.2).below B5.out) (by omega)).mono ?_
  rintro e w6 ⟨M1, rfl, hM1, hm1, hb6⟩
  have F1 := hid hm1
  have B6 := hid hb6
  clear hm1 hb6
  go_wp2_with fail
  refine (read_any _ lb _ ((HY4.out.below B5.out).below B6.out) (by omega)).mono ?_
  rintro e w7 ⟨R2, rfl, hR2, hr2, hb7⟩
  have G2 := hid hr2
  have B7 := hid hb7
  clear hr2 hb7
  go_wp2_with fail
  refine (refRead_any _ lb _ ((((HB.out.below H4.out.2.2.2).below B5.out).below B6.out).below B7.out) (by omega)).mono ?_
  rintro e w8 ⟨M2, rfl, hM2, hm2, hb8⟩
  have F2 := hid hm2
  have B8 := hid hb8
  clear hm2 hb8
  obtain ⟨w9, e9⟩ : ∃ w9, w8.alloc (.cells #[.pointer (some ⟨R1, 0, none⟩), .pointer (some ⟨M1, 0, none⟩), .pointer (some ⟨R2, 0, none⟩), .pointer (some ⟨M2, 0, none⟩)] 63) = w9 := ⟨_, rfl⟩
  have HP : Hid (PA w w9 w.heap.size (w.heap.size + 1) 0 (fun b => b = w.heap.size + 1) w4.heap.size R1 w5.heap.size M1 w6.heap.size R2 w7.heap.size M2 w8.heap.size la lb ⟨0, 0, 0⟩ ⟨0, 0, 0⟩ w.heap.size x y hB hA la lb) := by
    show PA _ _ _ _ _ _ _ _ _ _ _ _ _ _ _ _ _ _ _ _ _ _ _ _ _ _
    obtain ⟨q1, q2, q3, q4⟩ := H4.out
    have z4 := q4.size
    have z5 := B5.out.size
    have z6 := B6.out.size
    have z7 := B7.out.size
    have z8 := B8.out.size
    have l1 : R1 < w5.heap.size := Rdr.lt G1.out
    have l2 : M1 < w6.heap.size := F1.out.lt
    have l3 : R2 < w7.heap.size := Rdr.lt G2.out
    have l4 : M2 < w8.heap.size := F2.out.lt
    have B9 : Below w8.heap.size w8 w9 := by rw [← e9]; exact (Below.refl _ _).alloc (Nat.le_refl _) _
    have b49 : Below w4.heap.size w4 w9 := Below.up (Below.up (Below.up (Below.up B5.out B6.out) B7.out) B8.out) B9
    have b59 : Below w5.heap.size w5 w9 := Below.up (Below.up (Below.up B6.out B7.out) B8.out) B9
    have b69 : Below w6.heap.size w6 w9 := Below.up (Below.up B7.out B8.out) B9
    have b79 : Below w7.heap.size w7 w9 := Below.up B8.out B9
    have bk : BookOk w9 w.heap.size (w.heap.size + 1) 0 (fun b => b = w.heap.size + 1) := q2.keep b49.size (fun b hb => b49.block b (q2.lt b hb)) b49.os b49.tape b49.output
    have hK : w.heap.size + 1 < w4.heap.size := q2.lt _ rfl
    refine ⟨⟨bk, Rdr.below G1.out b59, F1.out.kept (fun k _ hk => b69.block k (by omega)), fun k _ _ => by omega, fun k _ _ => by omega, l1, by omega, hR1, hM1⟩, ⟨bk, Rdr.below G2.out b79, F2.out.kept (fun k _ hk => B9.block k (by omega)), fun k _ _ => by omega, fun k _ _ => by omega, l3, by omega, hR2, hM2⟩, q1.keep b49.size (fun b hb => b49.block b (q1.lt b hb).2), fun b hb => ⟨q3 b hb, (q1.lt b hb).2⟩, l2, l4, by omega, by rw [← e9]; exact heap_alloc_new _ _, q4.trans (b49.mono (by omega))⟩
  have HXa := hid (owns_has_part HP.out.rm.ox (k := la.length + 600) (by omega))
  have HYb := hid (owns_has_part HP.out.rm.oy (k := lb.length + 600) (by omega))
  have HAa : Hid (Has w9 (.slice aa la.length ca) la) := HA.out.below HP.out.bel
  have HBb : Hid (Has w9 (.slice ab lb.length cb) lb) := HB.out.below HP.out.bel
  have pc0 : w9.cell? ⟨w8.heap.size, 0, none⟩ = some (.pointer (some ⟨R1, 0, none⟩)) := by simp only [World.cell?, HP.out.pc]; rfl
  have pc1 : w9.cell? ⟨w8.heap.size, 1, none⟩ = some (.pointer (some ⟨M1, 0, none⟩)) := by simp only [World.cell?, HP.out.pc]; rfl
  have pc2 : w9.cell? ⟨w8.heap.size, 2, none⟩ = some (.pointer (some ⟨R2, 0, none⟩)) := by simp only [World.cell?, HP.out.pc]; rfl
  have pc3 : w9.cell? ⟨w8.heap.size, 3, none⟩ = some (.pointer (some ⟨M2, 0, none⟩)) := by simp only [World.cell?, HP.out.pc]; rfl
  clear G1 G2 F1 F2 B5 B6 B7 B8 H4 HX4 HY4 hR1 hM1 hR2 hM2
  go_wp2_with fail
  refine (same_true _ _ la _ HXa.out HAa.out (by omega)).mono ?_
  rintro e wa ⟨rfl, hba⟩
  have BA := hid hba
  clear hba
  go_wp2_with fail
  refine (same_true _ _ lb _ (HYb.out.below BA.out) (HBb.out.below BA.out) (by omega)).mono ?_
  rintro e wb ⟨rfl, hbb⟩
  have HQ := hid ((HP.out.up BA.out).up hbb)
  clear HP hbb BA HXa HAa HYb HBb pc0 pc1 pc2 pc3
  have CH := hid (roomHold_any _ _ _ _ _ wb HQ.out.rm.room (by simp))
  go_wp2_with fail
  refine CH.out.mono ?_
  rintro e wz ⟨rfl, hz⟩
  have hz' := hz.symm
  clear hz
  subst hz'
  clear CH
  clear e9
  have HX := hid (show PX w w4.heap.size R1 w5.heap.size M1 w6.heap.size R2 w7.heap.size M2 w8.heap.size la lb x y hB hA la lb 0 wb from ⟨_, _, _, HQ.out⟩)
  clear HQ
  generalize w4.heap.size = a1 at HX
  generalize w5.heap.size = a2 at HX
  generalize w6.heap.size = a3 at HX
  generalize w7.heap.size = a4 at HX
  obtain ⟨P, eP⟩ : ∃ P, w8.heap.size = P := ⟨_, rfl⟩
  rw [eP] at HX
  rw [eP]
  clear eP
  go_wp2
  go_loopw [12] (fun i wi => ∃ (j : Nat) (l : List Int), j ≤ la.length ∧ i = .int .i64 j ∧ Hid (l.length = la.length ∧ (∀ t, j ≤ t → l[t]? = la[t]?) ∧ PX w a1 R1 a2 M1 a3 R2 a4 M2 P la lb x y hB hA l lb 0 wi)) (fun i _ => la.length - (intOf i).toNat)
  case atStart => exact ⟨0, la, Nat.zero_le _, rfl, rfl, fun _ _ => rfl, HX.out⟩
  case round =>
    clear HX
    obtain ⟨j, l, hj, rfl, HJ⟩ := hrel
    by_cases hjl : j < la.length
    · obtain ⟨hll, hby, hp⟩ := HJ.out
      obtain ⟨c, hc⟩ : ∃ c, l.getD j 0 = c := ⟨_, rfl⟩
      have hcell : wr.cell? ⟨x.g, j, none⟩ = some (.int .u8 c) := by rw [← hc]; exact (hp.cx (by omega)).1
      have hfz : wr.frozen? ⟨x.g, j, none⟩ = false := (hp.cx (i := j) (by omega)).2
      have hcb : 0 ≤ c ∧ c < 256 := by
        rw [← hc, List.getD, hby j (Nat.le_refl _), List.getElem?_eq_getElem hjl]
        exact HYA.out _ (List.getElem_mem _)
      have HN := hid (fun b : Int => hp.setx (i := j) (by omega) b)
      have HBY := hid hby
      have HLL := hid hll
      clear hll hby hp hc HJ
      go_wp2
      exact ⟨⟨j + 1, _, by omega, by go_num, by simpa using HLL.out, fun t ht => by rw [List.getElem?_set_ne (by omega)]; exact HBY.out t (by omega), HN.out _⟩, by simp [intOf]; omega⟩
    · obtain rfl : j = la.length := by omega
      have HX := hid HJ.out.2.2
      clear HJ
      go_wp2
      go_loopw [13] (fun i wi => ∃ (j : Nat) (m : List Int), j ≤ lb.length ∧ i = .int .i64 j ∧ Hid (m.length = lb.length ∧ PX w a1 R1 a2 M1 a3 R2 a4 M2 P la lb x y hB hA l m 0 wi)) (fun i _ => lb.length - (intOf i).toNat)
      case atStart => exact ⟨0, lb, Nat.zero_le _, rfl, rfl, HX.out⟩
      case round =>
        clear HX
        obtain ⟨j, m, hj2, rfl, HJ⟩ := hrel
        by_cases hjl2 : j < lb.length
        · obtain ⟨hll, hp⟩ := HJ.out
          have hcell := (hp.cy (i := j) (by omega)).1
          have hfz := (hp.cy (i := j) (by omega)).2
          have HN := hid (hp.sety (i := j) (by omega) 255)
          have HLL := hid hll
          clear hll hp HJ
          go_wp2
          exact ⟨⟨j + 1, _, by omega, by go_num, by simpa using HLL.out, HN.out⟩, by simp [intOf]; omega⟩
        · obtain rfl : j = lb.length := by omega
          have HX := hid HJ.out.2
          clear HJ
          obtain ⟨pc0, pc1, pc2, pc3⟩ := HX.out.pc
          go_wp2_with fail
          refine HX.out.stands1.mono ?_
          rintro e wc ⟨rfl, -, hx1⟩
          have HX1 := hid hx1
          clear hx1 pc0 pc1 pc2 pc3 HX
          obtain ⟨pc0, pc1, pc2, pc3⟩ := HX1.out.pc
          go_wp2_with fail
          refine HX1.out.stands2.mono ?_
          rintro e wd ⟨rfl, -, hx1⟩
          have HX2 := hid hx1
          clear hx1 pc0 pc1 pc2 pc3 HX1
          go_wp2
          go_loopw [14] (fun i wi => ∃ (j : Nat), j ≤ L.length ∧ i = .int .i64 j ∧ Hid (∃ n, n ≤ j ∧ PX w a1 R1 a2 M1 a3 R2 a4 M2 P la lb x y hB hA l m n wi)) (fun i _ => L.length - (intOf i).toNat)
          case atStart => exact ⟨0, Nat.zero_le _, rfl, 0, Nat.le_refl _, HX2.out⟩
          case round =>
            clear HX2
            obtain ⟨j, hj3, rfl, HJ⟩ := hrel
            obtain ⟨n, hnj, hx⟩ := HJ.out
            have HX := hid hx
            obtain ⟨pc0, pc1, pc2, pc3⟩ := HX.out.pc
            clear hx HJ
            by_cases hjl3 : j < L.length
            · obtain ⟨⟨kd, sec, most, nn⟩, hop⟩ : ∃ q, L[j]? = some q := ⟨_, List.getElem?_eq_getElem hjl3⟩
              obtain ⟨ok, g, o, rfl, hcs⟩ := HOP.out j _ hop
              clear hop
              have oc0 : wr.cell? ⟨g, o + j * 4, none⟩ = some (.int .i64 kd) := bcell HX.out.bel (hcs 0 _ rfl)
              have oc1 : wr.cell? ⟨g, o + j * 4 + 1, none⟩ = some (.bool sec) := bcell HX.out.bel (hcs 1 _ rfl)
              have oc2 : wr.cell? ⟨g, o + j * 4 + 2, none⟩ = some (.int .u64 most) := bcell HX.out.bel (hcs 2 _ rfl)
              have oc3 : wr.cell? ⟨g, o + j * 4 + 3, none⟩ = some (.int .i64 nn) := bcell HX.out.bel (hcs 3 _ rfl)
              have OK : Hid (-9223372036854775808 ≤ nn ∧ nn ≤ 9223372036854775807) := ok
              have HC := hid hcs
              clear hcs ok HOP
              cases sec
              · have CD := hid ((HX.out.up (w' := wr.drew) ⟨rfl, rfl, rfl, Nat.le_refl _, fun _ _ => rfl⟩).does1 HYA.out (by omega) kd false most nn (200 * j) OK.out (by omega) (by omega))
                rw [show ((200 * j : Nat) : Int) = IntKind.i64.wrap (200 * (j : Int)) by rw [IntKind.wrap_i64]; omega] at CD
                have KK := hid (fun wz (n' : Nat) (hz : PX w a1 R1 a2 M1 a3 R2 a4 M2 P la lb x y hB hA l m n' wz) => (⟨hz.pc.1, hz.pc.2.1, bcell hz.bel (HC.out 0 _ rfl), bcell hz.bel (HC.out 1 _ rfl), bcell hz.bel (HC.out 2 _ rfl), bcell hz.bel (HC.out 3 _ rfl)⟩ : wz.cell? ⟨P, 0, none⟩ = some (.pointer (some ⟨R1, 0, none⟩)) ∧ wz.cell? ⟨P, 1, none⟩ = some (.pointer (some ⟨M1, 0, none⟩)) ∧ wz.cell? ⟨g, o + j * 4, none⟩ = some (.int .i64 kd) ∧ wz.cell? ⟨g, o + j * 4 + 1, none⟩ = some (.bool false) ∧ wz.cell? ⟨g, o + j * 4 + 2, none⟩ = some (.int .u64 most) ∧ wz.cell? ⟨g, o + j * 4 + 3, none⟩ = some (.int .i64 nn)))
                go_wp2
                go_region_held3 (fun w' => w'.cell? ⟨P, 0, none⟩ = some (.pointer (some ⟨R1, 0, none⟩)) ∧ w'.cell? ⟨P, 1, none⟩ = some (.pointer (some ⟨M1, 0, none⟩)) ∧ w'.cell? ⟨g, o + j * 4, none⟩ = some (.int .i64 kd) ∧ w'.cell? ⟨g, o + j * 4 + 1, none⟩ = some (.bool false) ∧ w'.cell? ⟨g, o + j * 4 + 2, none⟩ = some (.int .u64 most) ∧ w'.cell? ⟨g, o + j * 4 + 3, none⟩ = some (.int .i64 nn)) (first | go_keep | (refine ⟨?_, ?_, ?_, ?_, ?_, ?_⟩ <;> assumption))
                  (first
                  | (go_at_call 19
                     refine CD.out.mono ?_
                     rintro e w1 ⟨rfl, n', hn', hx'⟩
                     obtain ⟨k0, k1, k2, k3, k4, k5⟩ := KK.out w1 n' hx'
                     have HX' := hid hx'
                     clear hx'))
                all_goals
                  clear CD KK k0 k1 k2 k3 k4 k5
                  go_wp2
                  exact ⟨⟨j + 1, by omega, by go_num, n', by omega, HX'.out⟩, by simp [intOf]; omega⟩
              · have CD := hid ((HX.out.up (w' := wr.drew) ⟨rfl, rfl, rfl, Nat.le_refl _, fun _ _ => rfl⟩).does2 HYB.out (by omega) kd true most nn (200 * j) OK.out (by omega) (by omega))
                rw [show ((200 * j : Nat) : Int) = IntKind.i64.wrap (200 * (j : Int)) by rw [IntKind.wrap_i64]; omega] at CD
                have KK := hid (fun wz (n' : Nat) (hz : PX w a1 R1 a2 M1 a3 R2 a4 M2 P la lb x y hB hA l m n' wz) => (⟨hz.pc.2.2.1, hz.pc.2.2.2, bcell hz.bel (HC.out 0 _ rfl), bcell hz.bel (HC.out 1 _ rfl), bcell hz.bel (HC.out 2 _ rfl), bcell hz.bel (HC.out 3 _ rfl)⟩ : wz.cell? ⟨P, 2, none⟩ = some (.pointer (some ⟨R2, 0, none⟩)) ∧ wz.cell? ⟨P, 3, none⟩ = some (.pointer (some ⟨M2, 0, none⟩)) ∧ wz.cell? ⟨g, o + j * 4, none⟩ = some (.int .i64 kd) ∧ wz.cell? ⟨g, o + j * 4 + 1, none⟩ = some (.bool true) ∧ wz.cell? ⟨g, o + j * 4 + 2, none⟩ = some (.int .u64 most) ∧ wz.cell? ⟨g, o + j * 4 + 3, none⟩ = some (.int .i64 nn)))
                go_wp2
                go_region_held3 (fun w' => w'.cell? ⟨P, 2, none⟩ = some (.pointer (some ⟨R2, 0, none⟩)) ∧ w'.cell? ⟨P, 3, none⟩ = some (.pointer (some ⟨M2, 0, none⟩)) ∧ w'.cell? ⟨g, o + j * 4, none⟩ = some (.int .i64 kd) ∧ w'.cell? ⟨g, o + j * 4 + 1, none⟩ = some (.bool true) ∧ w'.cell? ⟨g, o + j * 4 + 2, none⟩ = some (.int .u64 most) ∧ w'.cell? ⟨g, o + j * 4 + 3, none⟩ = some (.int .i64 nn)) (first | go_keep | (refine ⟨?_, ?_, ?_, ?_, ?_, ?_⟩ <;> assumption))
                  (first
                  | (go_at_call 19
                     refine CD.out.mono ?_
                     rintro e w1 ⟨rfl, n', hn', hx'⟩
                     obtain ⟨k0, k1, k2, k3, k4, k5⟩ := KK.out w1 n' hx'
                     have HX' := hid hx'
                     clear hx'))
                all_goals
                  clear CD KK k0 k1 k2 k3 k4 k5
                  go_wp2
                  exact ⟨⟨j + 1, by omega, by go_num, n', by omega, HX'.out⟩, by simp [intOf]; omega⟩
            · obtain rfl : j = L.length := by omega
              go_wp2_with fail
              refine HX.out.stands1.mono ?_
              rintro e wc ⟨rfl, -, hx1⟩
              have HX1 := hid hx1
              clear hx1 pc0 pc1 pc2 pc3 HX
              obtain ⟨pc0, pc1, pc2, pc3⟩ := HX1.out.pc
              go_wp2_with fail
              refine HX1.out.stands2.mono ?_
              rintro e wd ⟨rfl, -, hx1⟩
              have HX2 := hid hx1
              clear hx1 pc0 pc1 pc2 pc3 HX1
              go_wp2_with fail
              refine (HX2.out.hold (by omega)).mono ?_
              rintro e we ⟨rfl, hx1⟩
              have HX3 := hid hx1
              clear hx1 HX2
              go_wp2_with fail
              refine HX3.out.rhold.mono ?_
              rintro e wz ⟨rfl, hz⟩
              have hz' := hz.symm
              clear hz
              subst hz'
              go_wp2
              go_ret
              exact ⟨rfl, HX3.out.bel⟩
end Go.Proofs.YthpelabmfpogbaaGreatDoor
