/-
  twinelaw2.SumXor: the walk.
-/
import Derived.Test.YtmglopfjjbnfiaaDoorKnownWalk
import Derived.Test.YtmglopfjjbnfiaaDoorChunk
namespace Go.Proofs.YtmglopfjjbnfiaaDoor
open Go.RowKit

theorem ar_load5 {md : Region.Mode} {ops : Array Oper} {Q : Exit → Act → World → Prop} {fuel : Nat} {listed : Array Bool} {a : Act} {w : World} {i : Nat} {o : Oper} {rs : List Nat} (hoi : ops[i]? = some o)
    (hgd : o.guard = none) (x : Operand) (ho : o.op = .load 5 x) (ad : Addr) (hx : a.eval x = .pointer (some ad)) (v : Value) (hc : w.cell? ad = some v)
    (h : wpAny Tryd.prog md ops Q fuel (listed.setIfInBounds i true) (a.put o.dst v) w)
    (hs : AllReady Tryd.prog md ops Q fuel listed a w rs) : AllReady Tryd.prog md ops Q fuel listed a w (i :: rs) := by
  refine AllReady.cons hoi (fun K' hK => ?_) hs
  have hw : Region.wanted o (yielded ops a.tmps) = true := by simp [Region.wanted, hgd]
  rw [if_pos hw]
  have hl : (Instr.loadAt 5 (.pointer (some ad))).run Tryd.prog w = .ok v w := by simp [Instr.loadAt, hc, go_sem]
  unfold Oper.wp execOp
  simp only [ho, hx, Sem.run_bind, hl, Result.andThen_ok, Sem.run_pure]
  exact hK _ _ h

theorem ar_append {md : Region.Mode} {ops : Array Oper} {Q : Exit → Act → World → Prop} {fuel : Nat} {listed : Array Bool} {a : Act} {w : World} {i : Nat} {o : Oper} {rs : List Nat} (hoi : ops[i]? = some o)
    (hgd : o.guard = none) (s x : Operand) (ho : o.op = .call { callee := .builtin .append, args := #[s, x], argTypes := #[43, 43] })
    (lo : Nat) (v vx : Value) (m : List Nat) (y : Nat) (hs : a.eval s = v) (hx : a.eval x = vx) (hown : Owns w lo v m) (hhas : Has w vx [y]) (hlen : m.length + 1 ≤ 16777216) (hbase : lo ≤ w.heap.size)
    (h : ∀ v' w', Owns w' lo v' (m ++ [y]) → Below lo w w' → wpAny Tryd.prog md ops Q fuel (listed.setIfInBounds i true) (a.put o.dst v') w')
    (hr : AllReady Tryd.prog md ops Q fuel listed a w rs) : AllReady Tryd.prog md ops Q fuel listed a w (i :: rs) := by
  refine AllReady.cons hoi (fun K' hK => ?_) hr
  have hw : Region.wanted o (yielded ops a.tmps) = true := by simp [Region.wanted, hgd]
  rw [if_pos hw]
  obtain ⟨i0, hi, hz0, hz1, hz2⟩ := info_parts Tryd.info5
  rcases hhas with ⟨_, h0⟩ | ⟨ad, cap, rfl, hc, hcell⟩
  · cases h0
  · refine wp_append_own w s x 43 ho lo 5 i0 (.int .u8 0) 1 1 Tryd.underlying43 hi hz0 hz1 hz2 rfl (by decide) v m.length (m.map vb) hs hown ad 1 cap [vb y] hx rfl ?_ ?_ ?_ ?_ hbase ?_
    · intro j u hj
      have hj0 : j = 0 := by
        have := (List.getElem?_eq_some_iff.1 hj).1
        simpa using this
      subst hj0
      have := hcell 0 (by simp)
      rw [this]; exact hj
    · intro u hu; rw [List.mem_singleton.1 hu]; rfl
    · unfold maxLen; omega
    · omega
    · intro v' w' h1 h2 _
      refine hK _ _ (h v' w' ?_ ((Below.refl lo w).grown h2 hbase fun k hk => (World.ownsRow.lt hown k hk).1))
      unfold Owns
      simpa using h1

set_option maxRecDepth 100000 in
theorem slice43_h (ao : Option Addr) (len cap n : Nat) (h : n ≤ len) (hc : len ≤ cap) (wz : World) : (Instr.sliceAt 43 (.slice ao len cap) none (some (.int .i64 (n : Int))) none).run Tryd.prog wz = .ok (.slice ao n cap) wz := by
  have h1 : (Tryd.prog.info? 5).map (·.size) = some 1 := by kernel_rfl
  cases hq : Tryd.prog.info? 5 with
  | none => simp [hq] at h1
  | some i =>
    have hs : i.size = 1 := by simpa [hq] using h1
    rw [run_sliceAt_slice _ 43 _ _ _ _ Tryd.underlying43]
    rw [run_slice_h _ 43 ao len cap Tryd.underlying43 .i64 n (by omega) (by omega)]
    simp [sizeOf, typeInfo, show Tryd.prog.elem 43 = 5 by kernel_rfl, hq, sliced, Result.andThen]
    intro _
    cases ao <;> simp [Addr.add]

theorem Has.take {w : World} {ao : Option Addr} {cap : Nat} {l : List Nat} (h : Has w (.slice ao l.length cap) l) (n : Nat) (hn : n ≤ l.length) : Has w (.slice ao n cap) (l.take n) := by
  rcases h with ⟨h, h0⟩ | ⟨a', cap', e, hc, hcell⟩
  · subst h0
    obtain rfl : n = 0 := by simpa using hn
    exact .inl ⟨by simpa using h, rfl⟩
  · simp only [Value.slice.injEq, true_and] at e
    obtain ⟨rfl, rfl⟩ := e
    have hl : (l.take n).length = n := by simp; omega
    refine .inr ⟨a', cap, by rw [hl], by rw [hl]; omega, fun i hi => ?_⟩
    rw [hl] at hi
    rw [hcell i (by omega)]
    simp [List.getD, hi]

/-- The xor of three texts, as far as the shortest goes. -/
theorem xor3_take (A B C : List Nat) (k : Nat) (ha : k < A.length) (hb : k < B.length) (hc : k < C.length) :
    Crc.xor3 (A.take (k + 1)) (B.take (k + 1)) (C.take (k + 1)) = Crc.xor3 (A.take k) (B.take k) (C.take k) ++ [A.getD k 0 ^^^ B.getD k 0 ^^^ C.getD k 0] := by
  induction k generalizing A B C with
  | zero =>
    match A, B, C, ha, hb, hc with
    | a :: A, b :: B, c :: C, _, _, _ => simp [Crc.xor3]
  | succ k ih =>
    match A, B, C, ha, hb, hc with
    | a :: A, b :: B, c :: C, ha, hb, hc =>
      have := ih A B C (by simpa using ha) (by simpa using hb) (by simpa using hc)
      simp only [List.take_succ_cons, Crc.xor3, this]
      simp [List.getD]
theorem xor3_len (A B C : List Nat) (h1 : A.length = B.length) (h2 : B.length = C.length) : (Crc.xor3 A B C).length = A.length := by
  induction A generalizing B C with
  | nil =>
    match B, C, h1, h2 with
    | [], [], _, _ => rfl
  | cons a A ih =>
    match B, C, h1, h2 with
    | b :: B, c :: C, h1, h2 => simp [Crc.xor3, ih B C (by simpa using h1) (by simpa using h2)]

theorem cell_in {w wr : World} {ao : Option Addr} {cap k : Nat} {A : List Nat} (h : Has w (.slice ao A.length cap) A) (hB : Bytes A) (hb : Below w.heap.size w wr) (hk : k < A.length) :
    ∃ a1 xa, ao = some a1 ∧ Hid (wr.cell? (a1.add k) = some (.int .u8 (xa : Nat))) ∧ xa < 256 ∧ Hid (xa = A.getD k 0) := by
  rcases h.below hb with ⟨_, rfl⟩ | ⟨a, c, e, _, hc⟩
  · simp at hk
  · simp only [Value.slice.injEq, true_and] at e
    exact ⟨a, A.getD k 0, e.1, hc k hk, hB _ (by simp [List.getD, List.getElem?_eq_getElem hk]), rfl⟩
theorem xor3_bytes : ∀ (A B C : List Nat), Bytes A → Bytes B → Bytes C → Bytes (Crc.xor3 A B C)
  | a :: A, b :: B, c :: C, ha, hb, hc => by
    intro x hx
    simp only [Crc.xor3, List.mem_cons] at hx
    rcases hx with rfl | hx
    · exact Nat.xor_lt_two_pow (n := 8) (Nat.xor_lt_two_pow (n := 8) (ha a (by simp)) (hb b (by simp))) (hc c (by simp))
    · exact xor3_bytes A B C (fun y hy => ha y (by simp [hy])) (fun y hy => hb y (by simp [hy])) (fun y hy => hc y (by simp [hy])) x hx
  | [], _, _, _, _, _ => fun x hx => by simp [Crc.xor3] at hx
  | _ :: _, [], _, _, _, _ => fun x hx => by simp [Crc.xor3] at hx
  | _ :: _, _ :: _, [], _, _, _ => fun x hx => by simp [Crc.xor3] at hx
theorem Has.heap {w w' : World} {v : Value} {l : List Nat} (h : Has w v l) (e : w'.heap = w.heap) : Has w' v l := h.block fun a _ => by unfold World.cell?; rw [e]
theorem Tabs.heap {w w' : World} (h : Tabs w) (e : w'.heap = w.heap) : Tabs w' := by
  have hc : ∀ a, w'.cell? a = w.cell? a := fun a => by unfold World.cell?; rw [e]
  exact ⟨fun i hi => by rw [hc]; exact h.first i hi, fun i hi => by rw [hc]; exact h.round i hi⟩
theorem Half.heap {w w' : World} (h : Half w) (e : w'.heap = w.heap) : Half w' := by
  have hc : ∀ a, w'.cell? a = w.cell? a := fun a => by unfold World.cell?; rw [e]
  exact ⟨fun i hi => by rw [hc]; exact h.half i hi⟩

set_option maxHeartbeats 4000000 in
set_option maxRecDepth 100000 in
theorem xor_short (ao bo co : Option Addr) (ca cb cc n : Nat) (A B C : List Nat) (w : World) (hA : Has w (.slice ao A.length ca) A) (hB : Has w (.slice bo B.length cb) B) (hC : Has w (.slice co C.length cc) C)
    (bA : Bytes A) (bB : Bytes B) (bC : Bytes C) (lA : A.length ≤ 9223372036854775807) (lB : B.length ≤ 9223372036854775807) (lC : C.length ≤ 9223372036854775807) (hn : n = min A.length (min B.length C.length)) (hs : n ≤ 32768) (hT : Tabs w) (hH : Half w) :
    Calls Tryd.prog 8 #[.slice ao A.length ca, .slice bo B.length cb, .slice co C.length cc] w fun e w' => e = .returned (.bool true) ∧ Below w.heap.size w w' := by
  obtain ⟨na, hna⟩ : ∃ x, x = A.length := ⟨_, rfl⟩
  obtain ⟨nb, hnb⟩ : ∃ x, x = B.length := ⟨_, rfl⟩
  obtain ⟨nc, hnc⟩ : ∃ x, x = C.length := ⟨_, rfl⟩
  have HA : Hid (Has w (.slice ao A.length ca) A ∧ Bytes A) := ⟨hA, bA⟩
  have HB : Hid (Has w (.slice bo B.length cb) B ∧ Bytes B) := ⟨hB, bB⟩
  have HC : Hid (Has w (.slice co C.length cc) C ∧ Bytes C) := ⟨hC, bC⟩
  have sA : Hid (∀ wz, (Instr.sliceAt 43 (.slice ao na ca) none (some (.int .i64 (n : Int))) none).run Tryd.prog wz = .ok (.slice ao n ca) wz) := fun wz => by
    obtain ⟨_, _, e, hc⟩ := hA.form
    simp only [Value.slice.injEq, true_and] at e
    rw [hna]; exact slice43_h ao _ ca n (by omega) (by omega) wz
  have sB : Hid (∀ wz, (Instr.sliceAt 43 (.slice bo nb cb) none (some (.int .i64 (n : Int))) none).run Tryd.prog wz = .ok (.slice bo n cb) wz) := fun wz => by
    obtain ⟨_, _, e, hc⟩ := hB.form
    simp only [Value.slice.injEq, true_and] at e
    rw [hnb]; exact slice43_h bo _ cb n (by omega) (by omega) wz
  have sC : Hid (∀ wz, (Instr.sliceAt 43 (.slice co nc cc) none (some (.int .i64 (n : Int))) none).run Tryd.prog wz = .ok (.slice co n cc) wz) := fun wz => by
    obtain ⟨_, _, e, hc⟩ := hC.form
    simp only [Value.slice.injEq, true_and] at e
    rw [hnc]; exact slice43_h co _ cc n (by omega) (by omega) wz
  have HN : Hid (n ≤ A.length ∧ n ≤ B.length ∧ n ≤ C.length) := ⟨by omega, by omega, by omega⟩
  have HEQ : Hid (na = A.length ∧ nb = B.length ∧ nc = C.length) := ⟨hna, hnb, hnc⟩
  obtain ⟨m1, hm1, HM1⟩ : ∃ m1 : Nat, (if nc < nb then (nc : Int) else (nb : Int)) = (m1 : Int) ∧ Hid (m1 = min B.length C.length) := ⟨min B.length C.length, by split <;> omega, rfl⟩
  have hm2 : (if m1 < na then (m1 : Int) else (na : Int)) = (n : Int) := by have := HM1.out; split <;> omega
  have KK : Hid (Calls Tryd.prog 29 #[] w fun e w' => e = .returned (.bool true) ∧ Below w.heap.size w w') := known_any w hT hH
  have HHF : Hid (Half w) := hH
  have hnI : ¬ ((32768 : Int) < (n : Int)) := by omega
  have lt3 : Hid (na ≤ 9223372036854775807 ∧ nb ≤ 9223372036854775807 ∧ nc ≤ 9223372036854775807) := ⟨by omega, by omega, by omega⟩
  rw [← hna, ← hnb, ← hnc]
  clear hA hB hC bA bB bC lA lB lC hn hT hH hna hnb hnc
  go_enter Tryd.func8, Tryd.ntmps8
  go_wp2_with (go_at_call 29; refine KK.out.mono ?_; rintro e w1 ⟨rfl, hb1⟩; have HB1 : Hid (Below w.heap.size w w1) := hb1; clear hb1)
  go_loopw [8, 9] (fun xv i wr => ∃ (k : Nat) (xo : Option Addr) (xc : Nat), k ≤ n ∧ i = .int .i64 k ∧ xv = .slice xo (Crc.xor3 (A.take k) (B.take k) (C.take k)).length xc ∧ Hid (Owns wr w.heap.size (.slice xo (Crc.xor3 (A.take k) (B.take k) (C.take k)).length xc) (Crc.xor3 (A.take k) (B.take k) (C.take k))) ∧ Hid (Below w.heap.size w wr)) (fun _ i _ => n - (intOf i).toNat)
  case atStart => exact ⟨0, none, 0, by omega, rfl, rfl, Owns.nil _ _, HB1.out⟩
  case round =>
    clear HB1 KK hm1 hm2
    obtain ⟨k, xo, xc0, hk, rfl, rfl, HOX, HBR⟩ := hrel
    by_cases hlt : k < n
    · have hkI : (k : Int) < (n : Int) := by omega
      obtain ⟨X, hX⟩ : ∃ X, X = Crc.xor3 (A.take k) (B.take k) (C.take k) := ⟨_, rfl⟩
      have HXLEN : Hid (X.length = k) := by
        show _ = _
        have := HN.out
        rw [hX, xor3_len _ _ _ (by simp; omega) (by simp; omega)]; simp; omega
      have HXE : Hid (Crc.xor3 (A.take (k + 1)) (B.take (k + 1)) (C.take (k + 1)) = X ++ [A.getD k 0 ^^^ B.getD k 0 ^^^ C.getD k 0]) := by
        show _ = _
        have := HN.out
        rw [hX]; exact xor3_take A B C k (by omega) (by omega) (by omega)
      rw [← hX] at HOX ⊢
      clear hX
      obtain ⟨a1, xa, rfl, ha1, hxa, EA⟩ : ∃ a1 xa, ao = some a1 ∧ Hid (wr.cell? (a1.add k) = some (.int .u8 (xa : Nat))) ∧ xa < 256 ∧ Hid (xa = A.getD k 0) := cell_in HA.out.1 HA.out.2 HBR.out (by have := HN.out; omega)
      obtain ⟨a2, xb, rfl, ha2, hxb, EB⟩ : ∃ a1 xa, bo = some a1 ∧ Hid (wr.cell? (a1.add k) = some (.int .u8 (xa : Nat))) ∧ xa < 256 ∧ Hid (xa = B.getD k 0) := cell_in HB.out.1 HB.out.2 HBR.out (by have := HN.out; omega)
      obtain ⟨a3, xc, rfl, ha3, hxc, EC⟩ : ∃ a1 xa, co = some a1 ∧ Hid (wr.cell? (a1.add k) = some (.int .u8 (xa : Nat))) ∧ xa < 256 ∧ Hid (xa = C.getD k 0) := cell_in HC.out.1 HC.out.2 HBR.out (by have := HN.out; omega)
      have HCa : Hid ((wr.drew).cell? (a1.add k) = some (.int .u8 xa)) := ha1
      have HCb : Hid ((wr.drew).cell? (a2.add k) = some (.int .u8 xb)) := ha2
      have HCc : Hid ((wr.drew).cell? (a3.add k) = some (.int .u8 xc)) := ha3
      obtain ⟨y1, hy1, ly1, EY1⟩ : ∃ y1 : Nat, bits .xor .u8 (xa : Int) (xb : Int) = (y1 : Int) ∧ y1 < 256 ∧ Hid (y1 = xa ^^^ xb) := ⟨xa ^^^ xb, u8_xor_nat _ _ hxa hxb, Nat.xor_lt_two_pow (n := 8) hxa hxb, rfl⟩
      obtain ⟨y2, hy2, EY2⟩ : ∃ y2 : Nat, bits .xor .u8 (y1 : Int) (xc : Int) = (y2 : Int) ∧ Hid (y2 = y1 ^^^ xc) := ⟨y1 ^^^ xc, u8_xor_nat _ _ ly1 hxc, rfl⟩
      have HXF : Hid (A.getD k 0 ^^^ B.getD k 0 ^^^ C.getD k 0 = y2) := by show _ = _; rw [EY2.out, EY1.out, EA.out, EB.out, EC.out]
      rw [HXF.out] at HXE
      have HOW : Hid (∀ wz : World, wz.heap = wr.heap.push (.cells #[.int .u8 (y2 : Int)] 5 (0, 0)) → Owns wz w.heap.size (.slice xo X.length xc0) X) := fun wz hz => HOX.out.block fun q hq => by
        have := (HOX.out.lt q hq).2
        rw [hz, Array.getElem?_push, if_neg (by omega)]
      have HHY : Hid (∀ wz : World, wz.heap = wr.heap.push (.cells #[.int .u8 (y2 : Int)] 5 (0, 0)) → Has wz (.slice (some ⟨wr.heap.size, 0, none⟩) 1 1) [y2]) := fun wz hz => has_fr _ [y2] rfl (T := 5) (fr := (0, 0)) (by rw [hz, Array.getElem?_push, if_pos rfl]; rfl)
      have HSZ : Hid (∀ wz : World, wz.heap = wr.heap.push (.cells #[.int .u8 (y2 : Int)] 5 (0, 0)) → w.heap.size ≤ wz.heap.size) := fun wz hz => by rw [hz, Array.size_push]; have := HBR.out.size; omega
      have HBW : Hid (∀ wz : World, wz.heap = wr.heap.push (.cells #[.int .u8 (y2 : Int)] 5 (0, 0)) → wz.os = wr.os → wz.tape = wr.tape → wz.output = wr.output → Below w.heap.size w wz) := fun wz hz h1 h2 h3 => HBR.out.trans ⟨h1, h2, h3, by rw [hz, Array.size_push]; omega, fun q hq => by rw [hz, Array.getElem?_push, if_neg (by have := HBR.out.size; omega)]⟩
      have HXL : Hid (X.length + 1 ≤ 16777216) := by show _ ≤ _; have := HXLEN.out; omega
      have ka : (k : Int) < (na : Int) := by have := HN.out; have := HEQ.out; omega
      have kb : (k : Int) < (nb : Int) := by have := HN.out; have := HEQ.out; omega
      have kc : (k : Int) < (nc : Int) := by have := HN.out; have := HEQ.out; omega
      clear ha1 ha2 ha3 hxa hxb hxc ly1
      go_wp2
      refine wp_region_any (by kernel_rfl) ?_
      change wpAny _ _ _ _ _ _ _ (World.drew _)
      refine wpAny_take (i := 0) (v := .slice xo X.length xc0) rfl (by kernel_rfl) (by kernel_rfl) (by kernel_rfl) (fun _ _ _ h => h) (Or.inl ⟨by kernel_rfl, ?_⟩) ?_
      · intro wz; go_simp
      refine wpAny_take (i := 1) (v := .slice (some a1) na ca) rfl (by kernel_rfl) (by kernel_rfl) (by kernel_rfl) (fun _ _ _ h => h) (Or.inl ⟨by kernel_rfl, ?_⟩) ?_
      · intro wz; go_simp
      refine wpAny_take (i := 2) (v := .int .i64 k) rfl (by kernel_rfl) (by kernel_rfl) (by kernel_rfl) (fun _ _ _ h => h) (Or.inl ⟨by kernel_rfl, ?_⟩) ?_
      · intro wz; go_simp
      refine wpAny_take (i := 3) (v := .pointer (some (a1.add k))) rfl (by kernel_rfl) (by kernel_rfl) (by kernel_rfl) (fun _ _ _ h => h) (Or.inl ⟨by kernel_rfl, ?_⟩) ?_
      · intro wz; go_simp
      refine wpAny_take (i := 5) (v := .slice (some a2) nb cb) rfl (by kernel_rfl) (by kernel_rfl) (by kernel_rfl) (fun _ _ _ h => h) (Or.inl ⟨by kernel_rfl, ?_⟩) ?_
      · intro wz; go_simp
      refine wpAny_take (i := 6) (v := .int .i64 k) rfl (by kernel_rfl) (by kernel_rfl) (by kernel_rfl) (fun _ _ _ h => h) (Or.inl ⟨by kernel_rfl, ?_⟩) ?_
      · intro wz; go_simp
      refine wpAny_take (i := 7) (v := .pointer (some (a2.add k))) rfl (by kernel_rfl) (by kernel_rfl) (by kernel_rfl) (fun _ _ _ h => h) (Or.inl ⟨by kernel_rfl, ?_⟩) ?_
      · intro wz; go_simp
      refine wpAny_take (i := 10) (v := .slice (some a3) nc cc) rfl (by kernel_rfl) (by kernel_rfl) (by kernel_rfl) (fun _ _ _ h => h) (Or.inl ⟨by kernel_rfl, ?_⟩) ?_
      · intro wz; go_simp
      refine wpAny_take (i := 11) (v := .int .i64 k) rfl (by kernel_rfl) (by kernel_rfl) (by kernel_rfl) (fun _ _ _ h => h) (Or.inl ⟨by kernel_rfl, ?_⟩) ?_
      · intro wz; go_simp
      refine wpAny_take (i := 12) (v := .pointer (some (a3.add k))) rfl (by kernel_rfl) (by kernel_rfl) (by kernel_rfl) (fun _ _ _ h => h) (Or.inl ⟨by kernel_rfl, ?_⟩) ?_
      · intro wz; go_simp
      simp only [Act.put, List.getElem_toArray, List.getElem_cons_zero, List.getElem_cons_succ, List.setIfInBounds_toArray, List.set_cons_zero, List.set_cons_succ]
      refine wpAny_ready (rs := [4, 8, 13]) (by kernel_rfl) (by simp) ?_
      refine (ar_load5 rfl rfl (.tmp 30) rfl (a1.add k) rfl (.int .u8 xa) HCa.out ?_ (ar_load5 rfl rfl (.tmp 34) rfl (a2.add k) rfl (.int .u8 xb) HCb.out ?_ (ar_load5 rfl rfl (.tmp 39) rfl (a3.add k) rfl (.int .u8 xc) HCc.out ?_ AllReady.nil)))
      · simp only [Act.put, List.getElem_toArray, List.getElem_cons_zero, List.getElem_cons_succ, List.setIfInBounds_toArray, List.set_cons_zero, List.set_cons_succ]
        refine wpAny_ready (rs := [8, 13]) (by kernel_rfl) (by simp) ?_
        refine (ar_load5 rfl rfl (.tmp 34) rfl (a2.add k) rfl (.int .u8 xb) HCb.out ?_ (ar_load5 rfl rfl (.tmp 39) rfl (a3.add k) rfl (.int .u8 xc) HCc.out ?_ AllReady.nil))
        · simp only [Act.put, List.getElem_toArray, List.getElem_cons_zero, List.getElem_cons_succ, List.setIfInBounds_toArray, List.set_cons_zero, List.set_cons_succ]
          refine wpAny_take (i := 9) (v := .int .u8 y1) rfl (by kernel_rfl) (by kernel_rfl) (by kernel_rfl) (fun _ _ _ h => h) (Or.inl ⟨by kernel_rfl, ?_⟩) ?_
          · intro wz; go_simp
          simp only [Act.put, List.getElem_toArray, List.getElem_cons_zero, List.getElem_cons_succ, List.setIfInBounds_toArray, List.set_cons_zero, List.set_cons_succ]
          refine wpAny_ready (rs := [13]) (by kernel_rfl) (by simp) ?_
          refine (ar_load5 rfl rfl (.tmp 39) rfl (a3.add k) rfl (.int .u8 xc) HCc.out ?_ AllReady.nil)
          simp only [Act.put, List.getElem_toArray, List.getElem_cons_zero, List.getElem_cons_succ, List.setIfInBounds_toArray, List.set_cons_zero, List.set_cons_succ]
          refine wpAny_take (i := 14) (v := .int .u8 y2) rfl (by kernel_rfl) (by kernel_rfl) (by kernel_rfl) (fun _ _ _ h => h) (Or.inl ⟨by kernel_rfl, ?_⟩) ?_
          · intro wz; go_simp
          simp only [Act.put, List.getElem_toArray, List.getElem_cons_zero, List.getElem_cons_succ, List.setIfInBounds_toArray, List.set_cons_zero, List.set_cons_succ]
          refine wpAny_ready (rs := [15]) (by kernel_rfl) (by simp) ?_
          refine AllReady.cons rfl (fun K' hK' => ?_) AllReady.nil
          go_simp
          refine hK' _ _ ?_
          clear hK' K'
          refine wpAny_ready (rs := [16]) (by kernel_rfl) (by simp) ?_
          refine ar_append rfl rfl (.tmp 27) (.tmp 42) rfl w.heap.size (.slice xo X.length xc0) _ X y2 rfl rfl (HOW.out _ rfl) (HHY.out _ rfl) HXL.out (HSZ.out _ rfl) (fun v' w' ho' hb' => ?_) AllReady.nil
          have R : Hid (Owns w' w.heap.size v' (X ++ [y2]) ∧ Below w.heap.size w w') := ⟨ho', (HBW.out ((wr.alloc (.cells #[.int .u8 (y2 : Int)] 5)).drew) rfl rfl rfl rfl).trans hb'⟩
          clear ho' hb'
          obtain ⟨vo', vc', hv', _⟩ := R.out.1.has.form
          subst hv'
          refine wpAny_take (i := 17) (v := .slice vo' (X ++ [y2]).length vc') rfl (by kernel_rfl) (by kernel_rfl) (by kernel_rfl) (fun _ _ _ h => h) (Or.inl ⟨by kernel_rfl, ?_⟩) ?_
          · intro wz; go_simp
          refine wpAny_done (by kernel_rfl) ?_ _
          go_simp
          go_wp2
          go_roundw
          case rel => exact ⟨k + 1, vo', vc', by omega, by go_num, by rw [HXE.out, List.length_append]; rfl, by rw [HXE.out]; exact R.out.1, R.out.2⟩
          case measure => simp [intOf]; omega
        · simp only [Act.put, List.getElem_toArray, List.getElem_cons_zero, List.getElem_cons_succ, List.setIfInBounds_toArray, List.set_cons_zero, List.set_cons_succ]
          refine wpAny_ready (rs := [8]) (by kernel_rfl) (by simp) ?_
          refine (ar_load5 rfl rfl (.tmp 34) rfl (a2.add k) rfl (.int .u8 xb) HCb.out ?_ AllReady.nil)
          simp only [Act.put, List.getElem_toArray, List.getElem_cons_zero, List.getElem_cons_succ, List.setIfInBounds_toArray, List.set_cons_zero, List.set_cons_succ]
          refine wpAny_take (i := 9) (v := .int .u8 y1) rfl (by kernel_rfl) (by kernel_rfl) (by kernel_rfl) (fun _ _ _ h => h) (Or.inl ⟨by kernel_rfl, ?_⟩) ?_
          · intro wz; go_simp
          refine wpAny_take (i := 14) (v := .int .u8 y2) rfl (by kernel_rfl) (by kernel_rfl) (by kernel_rfl) (fun _ _ _ h => h) (Or.inl ⟨by kernel_rfl, ?_⟩) ?_
          · intro wz; go_simp
          simp only [Act.put, List.getElem_toArray, List.getElem_cons_zero, List.getElem_cons_succ, List.setIfInBounds_toArray, List.set_cons_zero, List.set_cons_succ]
          refine wpAny_ready (rs := [15]) (by kernel_rfl) (by simp) ?_
          refine AllReady.cons rfl (fun K' hK' => ?_) AllReady.nil
          go_simp
          refine hK' _ _ ?_
          clear hK' K'
          refine wpAny_ready (rs := [16]) (by kernel_rfl) (by simp) ?_
          refine ar_append rfl rfl (.tmp 27) (.tmp 42) rfl w.heap.size (.slice xo X.length xc0) _ X y2 rfl rfl (HOW.out _ rfl) (HHY.out _ rfl) HXL.out (HSZ.out _ rfl) (fun v' w' ho' hb' => ?_) AllReady.nil
          have R : Hid (Owns w' w.heap.size v' (X ++ [y2]) ∧ Below w.heap.size w w') := ⟨ho', (HBW.out ((wr.alloc (.cells #[.int .u8 (y2 : Int)] 5)).drew) rfl rfl rfl rfl).trans hb'⟩
          clear ho' hb'
          obtain ⟨vo', vc', hv', _⟩ := R.out.1.has.form
          subst hv'
          refine wpAny_take (i := 17) (v := .slice vo' (X ++ [y2]).length vc') rfl (by kernel_rfl) (by kernel_rfl) (by kernel_rfl) (fun _ _ _ h => h) (Or.inl ⟨by kernel_rfl, ?_⟩) ?_
          · intro wz; go_simp
          refine wpAny_done (by kernel_rfl) ?_ _
          go_simp
          go_wp2
          go_roundw
          case rel => exact ⟨k + 1, vo', vc', by omega, by go_num, by rw [HXE.out, List.length_append]; rfl, by rw [HXE.out]; exact R.out.1, R.out.2⟩
          case measure => simp [intOf]; omega
      · simp only [Act.put, List.getElem_toArray, List.getElem_cons_zero, List.getElem_cons_succ, List.setIfInBounds_toArray, List.set_cons_zero, List.set_cons_succ]
        refine wpAny_ready (rs := [4, 13]) (by kernel_rfl) (by simp) ?_
        refine (ar_load5 rfl rfl (.tmp 30) rfl (a1.add k) rfl (.int .u8 xa) HCa.out ?_ (ar_load5 rfl rfl (.tmp 39) rfl (a3.add k) rfl (.int .u8 xc) HCc.out ?_ AllReady.nil))
        · simp only [Act.put, List.getElem_toArray, List.getElem_cons_zero, List.getElem_cons_succ, List.setIfInBounds_toArray, List.set_cons_zero, List.set_cons_succ]
          refine wpAny_take (i := 9) (v := .int .u8 y1) rfl (by kernel_rfl) (by kernel_rfl) (by kernel_rfl) (fun _ _ _ h => h) (Or.inl ⟨by kernel_rfl, ?_⟩) ?_
          · intro wz; go_simp
          simp only [Act.put, List.getElem_toArray, List.getElem_cons_zero, List.getElem_cons_succ, List.setIfInBounds_toArray, List.set_cons_zero, List.set_cons_succ]
          refine wpAny_ready (rs := [13]) (by kernel_rfl) (by simp) ?_
          refine (ar_load5 rfl rfl (.tmp 39) rfl (a3.add k) rfl (.int .u8 xc) HCc.out ?_ AllReady.nil)
          simp only [Act.put, List.getElem_toArray, List.getElem_cons_zero, List.getElem_cons_succ, List.setIfInBounds_toArray, List.set_cons_zero, List.set_cons_succ]
          refine wpAny_take (i := 14) (v := .int .u8 y2) rfl (by kernel_rfl) (by kernel_rfl) (by kernel_rfl) (fun _ _ _ h => h) (Or.inl ⟨by kernel_rfl, ?_⟩) ?_
          · intro wz; go_simp
          simp only [Act.put, List.getElem_toArray, List.getElem_cons_zero, List.getElem_cons_succ, List.setIfInBounds_toArray, List.set_cons_zero, List.set_cons_succ]
          refine wpAny_ready (rs := [15]) (by kernel_rfl) (by simp) ?_
          refine AllReady.cons rfl (fun K' hK' => ?_) AllReady.nil
          go_simp
          refine hK' _ _ ?_
          clear hK' K'
          refine wpAny_ready (rs := [16]) (by kernel_rfl) (by simp) ?_
          refine ar_append rfl rfl (.tmp 27) (.tmp 42) rfl w.heap.size (.slice xo X.length xc0) _ X y2 rfl rfl (HOW.out _ rfl) (HHY.out _ rfl) HXL.out (HSZ.out _ rfl) (fun v' w' ho' hb' => ?_) AllReady.nil
          have R : Hid (Owns w' w.heap.size v' (X ++ [y2]) ∧ Below w.heap.size w w') := ⟨ho', (HBW.out ((wr.alloc (.cells #[.int .u8 (y2 : Int)] 5)).drew) rfl rfl rfl rfl).trans hb'⟩
          clear ho' hb'
          obtain ⟨vo', vc', hv', _⟩ := R.out.1.has.form
          subst hv'
          refine wpAny_take (i := 17) (v := .slice vo' (X ++ [y2]).length vc') rfl (by kernel_rfl) (by kernel_rfl) (by kernel_rfl) (fun _ _ _ h => h) (Or.inl ⟨by kernel_rfl, ?_⟩) ?_
          · intro wz; go_simp
          refine wpAny_done (by kernel_rfl) ?_ _
          go_simp
          go_wp2
          go_roundw
          case rel => exact ⟨k + 1, vo', vc', by omega, by go_num, by rw [HXE.out, List.length_append]; rfl, by rw [HXE.out]; exact R.out.1, R.out.2⟩
          case measure => simp [intOf]; omega
        · simp only [Act.put, List.getElem_toArray, List.getElem_cons_zero, List.getElem_cons_succ, List.setIfInBounds_toArray, List.set_cons_zero, List.set_cons_succ]
          refine wpAny_ready (rs := [4]) (by kernel_rfl) (by simp) ?_
          refine (ar_load5 rfl rfl (.tmp 30) rfl (a1.add k) rfl (.int .u8 xa) HCa.out ?_ AllReady.nil)
          simp only [Act.put, List.getElem_toArray, List.getElem_cons_zero, List.getElem_cons_succ, List.setIfInBounds_toArray, List.set_cons_zero, List.set_cons_succ]
          refine wpAny_take (i := 9) (v := .int .u8 y1) rfl (by kernel_rfl) (by kernel_rfl) (by kernel_rfl) (fun _ _ _ h => h) (Or.inl ⟨by kernel_rfl, ?_⟩) ?_
          · intro wz; go_simp
          refine wpAny_take (i := 14) (v := .int .u8 y2) rfl (by kernel_rfl) (by kernel_rfl) (by kernel_rfl) (fun _ _ _ h => h) (Or.inl ⟨by kernel_rfl, ?_⟩) ?_
          · intro wz; go_simp
          simp only [Act.put, List.getElem_toArray, List.getElem_cons_zero, List.getElem_cons_succ, List.setIfInBounds_toArray, List.set_cons_zero, List.set_cons_succ]
          refine wpAny_ready (rs := [15]) (by kernel_rfl) (by simp) ?_
          refine AllReady.cons rfl (fun K' hK' => ?_) AllReady.nil
          go_simp
          refine hK' _ _ ?_
          clear hK' K'
          refine wpAny_ready (rs := [16]) (by kernel_rfl) (by simp) ?_
          refine ar_append rfl rfl (.tmp 27) (.tmp 42) rfl w.heap.size (.slice xo X.length xc0) _ X y2 rfl rfl (HOW.out _ rfl) (HHY.out _ rfl) HXL.out (HSZ.out _ rfl) (fun v' w' ho' hb' => ?_) AllReady.nil
          have R : Hid (Owns w' w.heap.size v' (X ++ [y2]) ∧ Below w.heap.size w w') := ⟨ho', (HBW.out ((wr.alloc (.cells #[.int .u8 (y2 : Int)] 5)).drew) rfl rfl rfl rfl).trans hb'⟩
          clear ho' hb'
          obtain ⟨vo', vc', hv', _⟩ := R.out.1.has.form
          subst hv'
          refine wpAny_take (i := 17) (v := .slice vo' (X ++ [y2]).length vc') rfl (by kernel_rfl) (by kernel_rfl) (by kernel_rfl) (fun _ _ _ h => h) (Or.inl ⟨by kernel_rfl, ?_⟩) ?_
          · intro wz; go_simp
          refine wpAny_done (by kernel_rfl) ?_ _
          go_simp
          go_wp2
          go_roundw
          case rel => exact ⟨k + 1, vo', vc', by omega, by go_num, by rw [HXE.out, List.length_append]; rfl, by rw [HXE.out]; exact R.out.1, R.out.2⟩
          case measure => simp [intOf]; omega
      · simp only [Act.put, List.getElem_toArray, List.getElem_cons_zero, List.getElem_cons_succ, List.setIfInBounds_toArray, List.set_cons_zero, List.set_cons_succ]
        refine wpAny_ready (rs := [4, 8]) (by kernel_rfl) (by simp) ?_
        refine (ar_load5 rfl rfl (.tmp 30) rfl (a1.add k) rfl (.int .u8 xa) HCa.out ?_ (ar_load5 rfl rfl (.tmp 34) rfl (a2.add k) rfl (.int .u8 xb) HCb.out ?_ AllReady.nil))
        · simp only [Act.put, List.getElem_toArray, List.getElem_cons_zero, List.getElem_cons_succ, List.setIfInBounds_toArray, List.set_cons_zero, List.set_cons_succ]
          refine wpAny_ready (rs := [8]) (by kernel_rfl) (by simp) ?_
          refine (ar_load5 rfl rfl (.tmp 34) rfl (a2.add k) rfl (.int .u8 xb) HCb.out ?_ AllReady.nil)
          simp only [Act.put, List.getElem_toArray, List.getElem_cons_zero, List.getElem_cons_succ, List.setIfInBounds_toArray, List.set_cons_zero, List.set_cons_succ]
          refine wpAny_take (i := 9) (v := .int .u8 y1) rfl (by kernel_rfl) (by kernel_rfl) (by kernel_rfl) (fun _ _ _ h => h) (Or.inl ⟨by kernel_rfl, ?_⟩) ?_
          · intro wz; go_simp
          refine wpAny_take (i := 14) (v := .int .u8 y2) rfl (by kernel_rfl) (by kernel_rfl) (by kernel_rfl) (fun _ _ _ h => h) (Or.inl ⟨by kernel_rfl, ?_⟩) ?_
          · intro wz; go_simp
          simp only [Act.put, List.getElem_toArray, List.getElem_cons_zero, List.getElem_cons_succ, List.setIfInBounds_toArray, List.set_cons_zero, List.set_cons_succ]
          refine wpAny_ready (rs := [15]) (by kernel_rfl) (by simp) ?_
          refine AllReady.cons rfl (fun K' hK' => ?_) AllReady.nil
          go_simp
          refine hK' _ _ ?_
          clear hK' K'
          refine wpAny_ready (rs := [16]) (by kernel_rfl) (by simp) ?_
          refine ar_append rfl rfl (.tmp 27) (.tmp 42) rfl w.heap.size (.slice xo X.length xc0) _ X y2 rfl rfl (HOW.out _ rfl) (HHY.out _ rfl) HXL.out (HSZ.out _ rfl) (fun v' w' ho' hb' => ?_) AllReady.nil
          have R : Hid (Owns w' w.heap.size v' (X ++ [y2]) ∧ Below w.heap.size w w') := ⟨ho', (HBW.out ((wr.alloc (.cells #[.int .u8 (y2 : Int)] 5)).drew) rfl rfl rfl rfl).trans hb'⟩
          clear ho' hb'
          obtain ⟨vo', vc', hv', _⟩ := R.out.1.has.form
          subst hv'
          refine wpAny_take (i := 17) (v := .slice vo' (X ++ [y2]).length vc') rfl (by kernel_rfl) (by kernel_rfl) (by kernel_rfl) (fun _ _ _ h => h) (Or.inl ⟨by kernel_rfl, ?_⟩) ?_
          · intro wz; go_simp
          refine wpAny_done (by kernel_rfl) ?_ _
          go_simp
          go_wp2
          go_roundw
          case rel => exact ⟨k + 1, vo', vc', by omega, by go_num, by rw [HXE.out, List.length_append]; rfl, by rw [HXE.out]; exact R.out.1, R.out.2⟩
          case measure => simp [intOf]; omega
        · simp only [Act.put, List.getElem_toArray, List.getElem_cons_zero, List.getElem_cons_succ, List.setIfInBounds_toArray, List.set_cons_zero, List.set_cons_succ]
          refine wpAny_ready (rs := [4]) (by kernel_rfl) (by simp) ?_
          refine (ar_load5 rfl rfl (.tmp 30) rfl (a1.add k) rfl (.int .u8 xa) HCa.out ?_ AllReady.nil)
          simp only [Act.put, List.getElem_toArray, List.getElem_cons_zero, List.getElem_cons_succ, List.setIfInBounds_toArray, List.set_cons_zero, List.set_cons_succ]
          refine wpAny_take (i := 9) (v := .int .u8 y1) rfl (by kernel_rfl) (by kernel_rfl) (by kernel_rfl) (fun _ _ _ h => h) (Or.inl ⟨by kernel_rfl, ?_⟩) ?_
          · intro wz; go_simp
          refine wpAny_take (i := 14) (v := .int .u8 y2) rfl (by kernel_rfl) (by kernel_rfl) (by kernel_rfl) (fun _ _ _ h => h) (Or.inl ⟨by kernel_rfl, ?_⟩) ?_
          · intro wz; go_simp
          simp only [Act.put, List.getElem_toArray, List.getElem_cons_zero, List.getElem_cons_succ, List.setIfInBounds_toArray, List.set_cons_zero, List.set_cons_succ]
          refine wpAny_ready (rs := [15]) (by kernel_rfl) (by simp) ?_
          refine AllReady.cons rfl (fun K' hK' => ?_) AllReady.nil
          go_simp
          refine hK' _ _ ?_
          clear hK' K'
          refine wpAny_ready (rs := [16]) (by kernel_rfl) (by simp) ?_
          refine ar_append rfl rfl (.tmp 27) (.tmp 42) rfl w.heap.size (.slice xo X.length xc0) _ X y2 rfl rfl (HOW.out _ rfl) (HHY.out _ rfl) HXL.out (HSZ.out _ rfl) (fun v' w' ho' hb' => ?_) AllReady.nil
          have R : Hid (Owns w' w.heap.size v' (X ++ [y2]) ∧ Below w.heap.size w w') := ⟨ho', (HBW.out ((wr.alloc (.cells #[.int .u8 (y2 : Int)] 5)).drew) rfl rfl rfl rfl).trans hb'⟩
          clear ho' hb'
          obtain ⟨vo', vc', hv', _⟩ := R.out.1.has.form
          subst hv'
          refine wpAny_take (i := 17) (v := .slice vo' (X ++ [y2]).length vc') rfl (by kernel_rfl) (by kernel_rfl) (by kernel_rfl) (fun _ _ _ h => h) (Or.inl ⟨by kernel_rfl, ?_⟩) ?_
          · intro wz; go_simp
          refine wpAny_done (by kernel_rfl) ?_ _
          go_simp
          go_wp2
          go_roundw
          case rel => exact ⟨k + 1, vo', vc', by omega, by go_num, by rw [HXE.out, List.length_append]; rfl, by rw [HXE.out]; exact R.out.1, R.out.2⟩
          case measure => simp [intOf]; omega
    · have hkI : ¬ ((k : Int) < (n : Int)) := by omega
      obtain rfl : k = n := by omega
      obtain ⟨X, hX⟩ : ∃ X, X = Crc.xor3 (A.take k) (B.take k) (C.take k) := ⟨_, rfl⟩
      rw [← hX] at HOX ⊢
      have TW : Half wr := HHF.out.up HBR.out
      have bX : Bytes X := by rw [hX]; exact xor3_bytes _ _ _ (fun x hx => HA.out.2 x (List.mem_of_mem_take hx)) (fun x hx => HB.out.2 x (List.mem_of_mem_take hx)) (fun x hx => HC.out.2 x (List.mem_of_mem_take hx))
      have hXl : X.length = k := by
        have := HN.out
        rw [hX, xor3_len _ _ _ (by simp; omega) (by simp; omega)]; simp; omega
      have LA : (A.take k).length = k := by have := HN.out; simp; omega
      have LB : (B.take k).length = k := by have := HN.out; simp; omega
      have LC : (C.take k).length = k := by have := HN.out; simp; omega
      obtain ⟨q0, q1, q2, q3, Q0, Q1, Q2, Q3, h1, h2, h3⟩ : ∃ q0 q1 q2 q3 : Nat, Hid (q0 = Crc.crc X) ∧ Hid (q1 = Crc.crc (A.take k)) ∧ Hid (q2 = Crc.crc (B.take k)) ∧ Hid (q3 = Crc.crc (C.take k)) ∧ q1 < 4294967296 ∧ q2 < 4294967296 ∧ q3 < 4294967296 :=
        ⟨_, _, _, _, rfl, rfl, rfl, rfl, Crc.crc_lt (fun x hx => HA.out.2 x (List.mem_of_mem_take hx)), Crc.crc_lt (fun x hx => HB.out.2 x (List.mem_of_mem_take hx)), Crc.crc_lt (fun x hx => HC.out.2 x (List.mem_of_mem_take hx))⟩
      have K0 : Hid (∀ wz, wz.heap = wr.heap → Calls Tryd.prog 20 #[.slice xo X.length xc0] wz fun e w' => e = .returned (.int .u32 (q0 : Int)) ∧ w' = wz) := fun wz hz => by
        rw [Q0.out]; exact crc_any _ X wz (HOX.out.has.heap hz) bX (TW.heap hz) (by omega)
      have K1 : Hid (∀ wz, wz.heap = wr.heap → Calls Tryd.prog 20 #[.slice ao k ca] wz fun e w' => e = .returned (.int .u32 (q1 : Int)) ∧ w' = wz) := fun wz hz => by
        rw [Q1.out]; exact crc_any _ _ wz (((HA.out.1.below HBR.out).take k HN.out.1).heap hz) (fun x hx => HA.out.2 x (List.mem_of_mem_take hx)) (TW.heap hz) (by omega)
      have K2 : Hid (∀ wz, wz.heap = wr.heap → Calls Tryd.prog 20 #[.slice bo k cb] wz fun e w' => e = .returned (.int .u32 (q2 : Int)) ∧ w' = wz) := fun wz hz => by
        rw [Q2.out]; exact crc_any _ _ wz (((HB.out.1.below HBR.out).take k HN.out.2.1).heap hz) (fun x hx => HB.out.2 x (List.mem_of_mem_take hx)) (TW.heap hz) (by omega)
      have K3 : Hid (∀ wz, wz.heap = wr.heap → Calls Tryd.prog 20 #[.slice co k cc] wz fun e w' => e = .returned (.int .u32 (q3 : Int)) ∧ w' = wz) := fun wz hz => by
        rw [Q3.out]; exact crc_any _ _ wz (((HC.out.1.below HBR.out).take k HN.out.2.2).heap hz) (fun x hx => HC.out.2 x (List.mem_of_mem_take hx)) (TW.heap hz) (by omega)
      have e1 : bits .xor .u32 (bits .xor .u32 (q1 : Int) (q2 : Int)) (q3 : Int) = (q0 : Int) := by
        rw [xor3_bits h1 h2 h3, Q0.out, Q1.out, Q2.out, Q3.out, hX, Crc.crc_xor3 _ _ _ (by rw [LA, LB]) (by rw [LB, LC])]
      obtain ⟨xl, hxl⟩ : ∃ xl, xl = X.length := ⟨_, rfl⟩
      rw [← hxl] at K0 ⊢
      clear hxl
      have tA := sA.out
      have tB := sB.out
      have tC := sC.out
      clear hX TW bX hXl LA LB LC Q0 Q1 Q2 Q3 h1 h2 h3 sA sB sC HOX
      go_wp2
      go_quiet ((first | (go_at_call_of 20 (Value.slice xo xl xc0); exact Calls.quiet_of_same (K0.out _ rfl)) | (go_at_call_of 20 (Value.slice ao k ca); exact Calls.quiet_of_same (K1.out _ rfl)) | (go_at_call_of 20 (Value.slice bo k cb); exact Calls.quiet_of_same (K2.out _ rfl)) | (go_at_call_of 20 (Value.slice co k cc); exact Calls.quiet_of_same (K3.out _ rfl))))
      go_wp2
      go_ret
      exact ⟨rfl, HBR.out.trans ⟨rfl, rfl, rfl, Nat.le_refl _, fun _ _ => rfl⟩⟩
end Go.Proofs.YtmglopfjjbnfiaaDoor
