/-
  The Room's Hold, a new Room; the law's lists (6) by contract.
-/
import Derived.Test.YthioflehpifflaaGreatDoorRoomH
import Derived.Test.YthioflehpifflaaGreatDoorThenW
import Derived.Test.YthioflehpifflaaGreatDoorBkNew
namespace Go.Proofs.YthioflehpifflaaGreatDoor
open Go.RowKit Bk

theorem roomHold_any (lo R : Nat) (E : List En) (B : Nat → Prop) (w : World) (h : RoomOk w lo R E B) (hE : E.length ≤ 5) (hn : ∀ e ∈ E, e.n ≤ 10000) : Calls Tryz.prog 8 #[.pointer (some ⟨R, 0, none⟩)] w fun e w' => e = .returned (.bool true) ∧ Below w.heap.size w w' :=
  room_by R w (fun w' => Below w.heap.size w w') (hold23_any lo R E B w h hE hn) (fun w' hg => by obtain ⟨_, _, _, hi, _⟩ := h.below hg; exact hi) (by obtain ⟨_, _, _, hi, _⟩ := h; exact hi)
def roomCells : Array Value := #[.slice none 0 0, .slice none 0 0, .slice none 0 0, .slice none 0 0, .slice none 0 0, .slice none 0 0, .slice none 0 0, .slice none 0 0, .slice none 0 0, .slice none 0 0, .slice none 0 0, .slice none 0 0, .slice none 0 0, .slice none 0 0, .slice none 0 0, .slice none 0 0, .slice none 0 0, .slice none 0 0, .slice none 0 0, .slice none 0 0, .slice none 0 0, .slice none 0 0, .slice none 0 0, .slice none 0 0, .slice none 0 0, .slice none 0 0]
theorem built40 : Tryz.prog.built 40 [] = some roomCells := by kernel_rfl
theorem room_cell (i : Nat) (h : i < 26) : roomCells[i]? = some (.slice none 0 0) := by
  match i, h with
  | 0, _ | 1, _ | 2, _ | 3, _ | 4, _ | 5, _ | 6, _ | 7, _ | 8, _ | 9, _ | 10, _ | 11, _ | 12, _ | 13, _ | 14, _ | 15, _ | 16, _ | 17, _ | 18, _ | 19, _ | 20, _ | 21, _ | 22, _ | 23, _ | 24, _ | 25, _ => rfl
  | n + 26, h => exact absurd h (by omega)
theorem wpList_new {ops : Array Oper} {rest : List Oper} {o1 o2 : Oper} {a : Act} {w : World} {Q : Exit → Act → World → Prop} (t : TypeId) (cs : Array Value) (hb : Tryz.prog.built t [] = some cs) (h1 : o1.guard = none) (h2 : o2.guard = none) (ho1 : o1.op = .build t #[]) (x : Operand) (ho2 : o2.op = .box t x)
    (hx : (a.put o1.dst (.agg cs)).eval x = .agg cs) (h : wpList Tryz.prog ops Q rest ((a.put o1.dst (.agg cs)).put o2.dst (.pointer (some ⟨w.heap.size, 0, none⟩))) (w.alloc (.cells cs t))) : wpList Tryz.prog ops Q (o1 :: o2 :: rest) a w := by
  have em : (Array.map (fun (p : Nat × Operand) => (p.1, a.eval p.2)) #[]).toList = [] := by simp
  refine wpList_build h1 t #[] ho1 (by rw [em, hb]; simp only [Option.isSome_some]) ?_
  rw [em, hb, Option.getD_some]
  refine wpList_plain h2 fun K hK => ?_
  unfold Oper.wp execOp
  have ec : (Value.agg cs).cells = cs := rfl
  simp only [ho2, hx, Instr.box, newVar, Sem.run_bind, Sem.run_pure, ec]
  have hr : (newRow t cs).run Tryz.prog w = .ok ⟨w.heap.size, 0, none⟩ (w.alloc (.cells cs t)) := by simp [newRow]
  rw [hr]
  exact hK _ _ h
theorem room_new (w : World) (lo : Nat) : RoomOk (w.alloc (.cells roomCells 40)) lo w.heap.size [] (fun b => b = w.heap.size) := by
  have h : (w.alloc (.cells roomCells 40)).heap[w.heap.size]? = some (.cells roomCells 40 (0, 0)) := heap_alloc_new w _
  have hc : ∀ i, i < 26 → (w.alloc (.cells roomCells 40)).cell? ⟨w.heap.size, i, none⟩ = some (.slice none 0 0) := fun i hi => (cell_of_row _ _ i _ _ _ h).trans (room_cell i hi)
  exact ⟨.slice none 0 0, .slice none 0 0, ⟨_, h⟩, fun i h1 _ => hc i h1, hc 6 (by omega), hc 7 (by omega), World.ownsRow_nil _ _ _ _, World.ownsRow_nil _ _ _ _, by simp, fun b => by simp [Value.ownBlock]⟩
theorem thenR_le (A B : List Cd) : (thenR A B).length ≤ A.length + B.length := by
  unfold thenR
  have h1 := mg_len A B 0 0
  have h2 : rem A B 0 0 = A.length + B.length := by simp [rem]
  split
  · have h3 := outs_len A B (mg A B 0 0)
    omega
  · simp
theorem row_low {w : World} {lo lo' e s n : Nat} {v : Value} {xs : List Value} (h : w.ownsRow lo e s v n xs) (hb : lo' ≤ lo) : w.ownsRow lo' e s v n xs := by
  obtain ⟨h1, h2⟩ := h
  exact ⟨h1, h2.imp id fun ⟨g, cap, cur, e, h3, r⟩ => ⟨g, cap, cur, e, by omega, r⟩⟩
theorem same_v {w : World} {va vb : Value} {L : List Cd} (ha : HasA w va L) (hb : HasA w vb L) (hn : L.length ≤ 1000000) : Calls Tryz.prog 7 #[va, vb] w fun e w' => e = .returned (.bool true) ∧ Drew w w' := by
  obtain ⟨ao, ca, e1, _⟩ := ha.form
  obtain ⟨bo, cb, e2, _⟩ := hb.form
  subst e1 e2
  exact same_any ao bo ca cb L w ha hb hn
theorem BookOk.below {w w' : World} {lo K n : Nat} {B : Nat → Prop} (h : BookOk w lo K n B) (hb : Below w.heap.size w w') : BookOk w' lo K n B :=
  h.keep hb.size (fun b hB => hb.block b (h.lt b hB)) hb.os hb.tape hb.output
theorem OwnsR.has {w : World} {lo : Nat} {v : Value} {L : List Cd} (h : OwnsR w lo v L) : HasA w v L := h.hasq.has
set_option maxHeartbeats 4000000 in
set_option maxRecDepth 100000 in
/-- lists -/
theorem lists_any (lo K nb : Nat) (Bk : Nat → Prop) (xo yo po qo : Option Addr) (cx cy cp cq : Nat) (A C : List Cd) (mark : Nat) (w : World) (hx : HasA w (.slice xo A.length cx) A) (hy : HasA w (.slice yo C.length cy) C) (hp : HasA w (.slice po A.length cp) A) (hq : HasA w (.slice qo C.length cq) C)
    (hn : A.length ≤ 10000) (hm : C.length ≤ 10000) (hpa : ∀ c ∈ A, c.path.size ≤ 1048576) (hpb : ∀ c ∈ C, c.path.size ≤ 1048576) (hb : BookOk w lo K nb Bk) (hnb : nb ≤ 1000) (hlo : lo ≤ w.heap.size) (htb : Tb lo w) (hk : mark ≤ 100000) :
    Calls Tryz.prog 6 #[.pointer (some ⟨K, 0, none⟩), .slice xo A.length cx, .slice yo C.length cy, .slice po A.length cp, .slice qo C.length cq, .int .i64 (mark : Int)] w fun e w' => e = .returned (.bool true) ∧ ∃ B', BookOk w' lo K (nb + 2) B' ∧ Below lo w w' ∧ ∀ b, b < w.heap.size → ¬ Bk b → w'.heap[b]? = w.heap[b]? ∧ ¬ B' b := by
  obtain ⟨n, hn'⟩ : ∃ n, A.length = n := ⟨_, rfl⟩
  obtain ⟨m, hm'⟩ : ∃ m, C.length = m := ⟨_, rfl⟩
  have HN := hid hn'
  have HM := hid hm'
  have HH := hid (And.intro hx (And.intro hy (And.intro hp hq)))
  have HP := hid (And.intro hpa hpb)
  have HB := hid hb
  have HT := hid htb
  have C14 := hid (turn_any xo cx A w hx hn)
  have hn0 := hn
  have hm0 := hm
  rw [hn'] at hn C14 ⊢
  rw [hm'] at hm ⊢
  clear hx hy hp hq hpa hpb hb htb hn' hm'
  obtain ⟨S0, hS0⟩ : ∃ S0, w.heap.size = S0 := ⟨_, rfl⟩
  go_enter Tryz.func6, Tryz.ntmps6
  go_upto_region 2 with (go_at_call 14; refine C14.out.mono ?_; rintro e w1 ⟨v1, rfl, h1, b1⟩)
  have H1 := hid (And.intro h1 b1)
  have C15 : Hid (Calls Tryz.prog 15 #[.slice xo n cx, .slice yo m cy] w1 fun e w' => ∃ v, e = .returned (.tuple #[v, .int .i64 (thenE A C)]) ∧ OwnsR w' w1.heap.size v (thenR A C) ∧ Below w1.heap.size w1 w') := by
    have := then_any xo yo cx cy A C w1 (HH.out.1.below b1) (HH.out.2.1.below b1) hn0 hm0 HP.out.1 HP.out.2
    rw [HN.out, HM.out] at this
    exact this
  clear h1 b1 C14
  go_upto_region 3 with (go_at_call 15; refine C15.out.mono ?_; rintro e w2 ⟨v2, rfl, h2, b2⟩)
  have b02 : Below w.heap.size w w2 := Below.up H1.out.2 b2
  have C16 : Hid (Calls Tryz.prog 16 #[.slice po n cp, .slice qo m cq] w2 fun e w' => ∃ v, e = .returned (.tuple #[v, .int .i64 (thenE A C)]) ∧ OwnsR w' w2.heap.size v (thenR A C) ∧ Below w2.heap.size w2 w') := by
    have := refThen_any po qo cp cq A C w2 (HH.out.2.2.1.below b02) (HH.out.2.2.2.below b02) hn0 hm0 HP.out.1 HP.out.2
    rw [HN.out, HM.out] at this
    exact this
  have H2 := hid (And.intro h2 (And.intro b2 b02))
  obtain ⟨er, her⟩ : ∃ er, thenE A C = er := ⟨_, rfl⟩
  rw [her] at C16 ⊢
  clear h2 b2 b02 C15 her
  go_upto_region 4 with (go_at_call 16; refine C16.out.mono ?_; rintro e w3 ⟨v3, rfl, h3, b3⟩)
  have b03 : Below w.heap.size w w3 := Below.up H2.out.2.2 b3
  have C17 : Hid (Calls Tryz.prog 17 #[.slice po n cp] w3 fun e w' => ∃ v, e = .returned v ∧ OwnsR w' w3.heap.size v (A.map turnC) ∧ Below w3.heap.size w3 w') := by
    have := refTurn_any po cp A w3 (HH.out.2.2.1.below b03) hn0
    rw [HN.out] at this
    exact this
  have H3 := hid (And.intro h3 (And.intro b3 b03))
  clear h3 b3 b03 C16
  have hS1 := H1.out.2.size
  have hS2 := H2.out.2.1.size
  have CA : Hid (∀ w4 v4, OwnsR w4 w3.heap.size v4 (A.map turnC) → Below w3.heap.size w3 w4 → Calls Tryz.prog 7 #[v1, v4] w4 fun e w' => e = .returned (.bool true) ∧ Drew w4 w') := fun w4 v4 h4 b4 =>
    same_v ((((H1.out.1.up H2.out.2.1).up H3.out.2.1).up b4).has) h4.has (by simp; omega)
  have CB : Hid (∀ w5, Below w3.heap.size w3 w5 → Calls Tryz.prog 7 #[v2, v3] w5 fun e w' => e = .returned (.bool true) ∧ Drew w5 w') := fun w5 b5 =>
    same_v (((H2.out.1.up H3.out.2.1).up b5).has) ((H3.out.1.up b5).has) (by have := thenR_le A C; omega)
  have C18 := hid (num_any er)
  have nr : (er != er) = false := by simp
  go_upto_region 6 with (first
    | (go_at_call 7; refine (CB.out _ b35).mono ?_; rintro e w6 ⟨rfl, d6⟩)
    | (go_at_call 7; refine (CA.out _ _ h4 b4).mono ?_; rintro e w5 ⟨rfl, d5⟩; have b35 : Below w3.heap.size w3 w5 := Below.up b4 d5.below)
    | (go_at_call 17; refine C17.out.mono ?_; rintro e w4 ⟨v4, rfl, h4, b4⟩)
    | (go_at_call 18; refine (C18.out _).mono ?_; rintro e wq ⟨rfl, hwq⟩; have hwq' := hwq.symm; clear hwq; subst hwq'))
  have b36 : Below w3.heap.size w3 w6 := Below.up b35 d6.below
  have b06 : Below w.heap.size w w6 := Below.up H3.out.2.2 b36
  have b16 : Below w1.heap.size w1 w6 := Below.up (Below.up H2.out.2.1 H3.out.2.1) b36
  have b26 : Below w2.heap.size w2 w6 := Below.up H3.out.2.1 b36
  have o1 : OwnsR w6 S0 v1 (A.map turnC) := by rw [← hS0]; exact H1.out.1.up b16
  have o2 : OwnsR w6 w1.heap.size v2 (thenR A C) := H2.out.1.up b26
  have l1 : ∀ b, v1.ownBlock = some b → S0 ≤ b ∧ b < w1.heap.size := fun b hb => by have := World.ownsRow.lt H1.out.1 b hb; omega
  have l2 : ∀ b, v2.ownBlock = some b → w1.heap.size ≤ b ∧ b < w6.heap.size := fun b hb => World.ownsRow.lt o2 b hb
  have nB : ∀ b, Bk b → b < S0 := fun b hb => by have := HB.out.lt b hb; omega
  have b6 : BookOk w6 lo K nb Bk := HB.out.below b06
  have t6 : Tb lo w6 := HT.out.on (b06.mono hlo)
  have C19 := hid (bookChangesOk w6 lo K nb Bk v1 (A.map turnC) mark b6 (row_low o1 (by omega)) (fun b hb e => by have := nB b e; have := (l1 b hb).1; omega) (by simp; omega) (by omega) (by omega) t6)
  have H6 := hid (And.intro b06 (And.intro o2 (And.intro l1 (And.intro l2 (And.intro nB t6)))))
  clear CA CB C18 C17 H1 H2 H3 b36 b06 b16 b26 o1 o2 l1 l2 nB b6 t6 b35 d6 d5 h4 b4 HH HB HT
  go_upto_region 7 with (go_at_call 19; refine C19.out.mono ?_; rintro e w7 ⟨rfl, B7, h7⟩)
  obtain ⟨k7, bl7, kp7⟩ := h7
  obtain ⟨b06, o2, l1, l2, nB, t6⟩ := H6.out
  have hs6 := b06.size
  have k2 : ∀ b, v2.ownBlock = some b → w7.heap[b]? = w6.heap[b]? ∧ ¬ B7 b := fun b hb => kp7 b (l2 b hb).2 (fun e => by have := nB b e; have := (l2 b hb).1; omega) (fun e => by have := (l1 b e).2; have := (l2 b hb).1; omega)
  have o27 : OwnsR w7 w1.heap.size v2 (thenR A C) := rowB o2 fun b hb => (k2 b hb).1
  have C19b : Hid (Calls Tryz.prog 19 #[.pointer (some ⟨K, 0, none⟩), v2, .int .i64 ((mark : Int) + 500)] w7 fun e w' => e = .returned (.tuple #[]) ∧ ∃ B', BookOk w' lo K (nb + 1 + 1) B' ∧ Below lo w7 w' ∧ ∀ b, b < w7.heap.size → ¬ B7 b → v2.ownBlock ≠ some b → w'.heap[b]? = w7.heap[b]? ∧ ¬ B' b) := by
    have := bookChangesOk w7 lo K (nb + 1) B7 v2 (thenR A C) (mark + 500) k7 (row_low o27 (by omega)) (fun b hb => (k2 b hb).2) (by have := thenR_le A C; omega) (by omega) (by omega) (t6.on bl7)
    rw [show ((mark + 500 : Nat) : Int) = (mark : Int) + 500 by omega] at this
    exact this
  have H7 : Hid (Below lo w w7 ∧ S0 ≤ w7.heap.size ∧ (∀ b, v2.ownBlock = some b → S0 ≤ b) ∧ ∀ b, b < S0 → ¬ Bk b → w7.heap[b]? = w.heap[b]? ∧ ¬ B7 b) := by
    refine ⟨(b06.mono hlo).trans bl7, by have := bl7.size; omega, fun b hb => by have := (l2 b hb).1; omega, fun b hb hB => ?_⟩
    obtain ⟨q1, q2⟩ := kp7 b (by omega) hB (fun e => by have := (l1 b e).1; omega)
    exact ⟨q1.trans (b06.block b (by omega)), q2⟩
  clear k7 bl7 kp7 b06 o2 l1 l2 nB t6 k2 o27 H6 C19
  go_wp2_with (go_at_call 19; refine C19b.out.mono ?_; rintro e w8 ⟨rfl, B8, h8⟩)
  obtain ⟨k8, bl8, kp8⟩ := h8
  go_ret
  refine ⟨rfl, B8, k8, H7.out.1.trans bl8, fun b hb hB => ?_⟩
  obtain ⟨q1, q2⟩ := H7.out.2.2.2 b (by omega) hB
  obtain ⟨q3, q4⟩ := kp8 b (by have := H7.out.2.1; omega) q2 (fun e => by have := H7.out.2.2.1 b e; omega)
  exact ⟨q3.trans q1, q4⟩
end Go.Proofs.YthioflehpifflaaGreatDoor
