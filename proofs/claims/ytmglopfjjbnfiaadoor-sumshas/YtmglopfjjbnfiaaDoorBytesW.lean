/-
  twinelaw2.SumBytes: the walk.
-/
import Derived.Test.YtmglopfjjbnfiaaDoorRoomLay
import Derived.Test.YtmglopfjjbnfiaaDoorDam
namespace Go.Proofs.YtmglopfjjbnfiaaDoor
open Go.RowKit

theorem add_g (g i : Nat) : (⟨g, 0, none⟩ : Addr).add i = ⟨g, i, none⟩ := by
  unfold Addr.add; split
  · rename_i e; rw [e]
  · simp
theorem cellG {w : World} {g n c : Nat} {M : List Nat} (h : Has w (.slice (some ⟨g, 0, none⟩) n c) M) {k : Nat} (hk : k < M.length) : w.cell? ⟨g, k, none⟩ = some (vb (M.getD k 0)) := by
  rcases h with ⟨q, _⟩ | ⟨a, cap, hv, hc, hcell⟩
  · cases q
  · simp only [Value.slice.injEq, Option.some.injEq] at hv
    obtain ⟨rfl, _, _⟩ := hv
    have := hcell k hk
    rw [add_g] at this
    exact this
theorem setG {w : World} {g n c k : Nat} {M : List Nat} {y : Nat} (h : Has w (.slice (some ⟨g, 0, none⟩) n c) M) (hk : k < M.length) : Has (w.setCell ⟨g, k, none⟩ (vb y)) (.slice (some ⟨g, 0, none⟩) n c) (M.set k y) := by
  have hck := cellG h hk
  rcases h with ⟨q, _⟩ | ⟨a, cap, hv, hc, hcell⟩
  · simp at q
  · simp at hv
    obtain ⟨rfl, rfl, rfl⟩ := hv
    refine .inr ⟨⟨g, 0, none⟩, c, by simp, by simpa using hc, fun i hi => ?_⟩
    rw [add_g]
    rw [List.length_set] at hi
    by_cases e : i = k
    · subst e
      rw [World.cell?_setCell_same _ _ _ hck]
      simp [List.getD, hi]
    · have := hcell i hi
      rw [add_g] at this
      rw [World.cell?_setCell_other _ _ _ _ (by simp <;> omega), this]
      have e2 : k ≠ i := fun q => e q.symm
      simp [List.getD, List.getElem?_set_ne e2]

/-- the block of a new Room -/
def roomObj : Obj := .cells #[Value.slice none 0 0, Value.slice none 0 0, Value.slice none 0 0, Value.slice none 0 0, Value.slice none 0 0, Value.slice none 0 0, Value.slice none 0 0, Value.slice none 0 0, Value.slice none 0 0, Value.slice none 0 0, Value.slice none 0 0, Value.slice none 0 0, Value.slice none 0 0, Value.slice none 0 0, Value.slice none 0 0, Value.slice none 0 0, Value.slice none 0 0, Value.slice none 0 0, Value.slice none 0 0, Value.slice none 0 0, Value.slice none 0 0, Value.slice none 0 0, Value.slice none 0 0, Value.slice none 0 0, Value.slice none 0 0, Value.slice none 0 0] 39
theorem room_new (w : World) : (∀ i, i < 26 → (w.alloc roomObj).cell? ⟨w.heap.size, i, none⟩ = some (.slice none 0 0)) ∧ ∀ o, (w.alloc roomObj).frozen? ⟨w.heap.size, o, none⟩ = false := by
  have h := World.alloc_heap_new w roomObj
  constructor
  · intro i hi
    have e : roomObj = .cells (List.replicate 26 (Value.slice none 0 0)).toArray 39 := rfl
    rw [e] at h
    simp only [World.cell?, e, h]
    show (List.replicate 26 (Value.slice none 0 0)).toArray[i]? = _
    rw [List.getElem?_toArray, List.getElem?_replicate, if_pos hi]
  · intro o
    simp only [World.frozen?, h]
    simp [roomObj]

theorem yields_differ41 {ops : Array Oper} {o : Oper} {a : Act} (x y : Operand) (l : List Nat) (hl : l.length = 32) (ho : o.op = .binOp .neq 41 x y 41) (hw : Region.wanted o (yielded ops a.tmps) = true)
    (hx : a.eval x = .agg (l.map vb).toArray) (hy : a.eval y = .agg (l.map vb).toArray) : Yields Tryd.prog ops o (.bool false) a := by
  refine Or.inl ⟨hw, fun w => ?_⟩
  have h := eq41 9998 l hl w
  unfold execOp
  have h' : (Op.equal 41 (.agg (l.map vb).toArray) (.agg (l.map vb).toArray)).run Tryd.prog w = .ok true w := h
  have hg : Tryd.prog.eqGuardType Tryd.prog.depth 41 = false := by kernel_rfl
  simp only [ho, hx, hy, eqGuard, binOp, Sem.run_bind]
  simp [Result.andThen, hg, h']

theorem wpList_neq41 {ops : Array Oper} {rest : List Oper} {o : Oper} {a : Act} {w : World} {Q : Exit → Act → World → Prop} (hgd : o.guard = none) (x y : Operand) (l : List Nat) (hl : l.length = 32) (ho : o.op = .binOp .neq 41 x y 41)
    (hx : a.eval x = .agg (l.map vb).toArray) (hy : a.eval y = .agg (l.map vb).toArray)
    (h : wpList Tryd.prog ops Q rest (a.put o.dst (.bool false)) w) : wpList Tryd.prog ops Q (o :: rest) a w := by
  refine wpList_plain hgd fun K hK => ?_
  rcases yields_differ41 (ops := ops) (o := o) (a := a) x y l hl ho (by simp [Region.wanted, hgd]) hx hy with ⟨_, he⟩ | ⟨he, _⟩
  · unfold Oper.wp
    rw [he w, Oper.upon_value]
    exact hK _ _ h
  · simp [Region.wanted, hgd] at he

set_option maxHeartbeats 8000000 in
set_option maxRecDepth 100000 in
theorem bytes_short (ao : Option Addr) (cap : Nat) (L : List Nat) (w : World) (hL : Has w (.slice ao L.length cap) L) (hB : Bytes L) (hl : L.length ≤ 32768) (hT : Tabs w) (hH : Half w) :
    Calls Tryd.prog 4 #[.slice ao L.length cap] w fun e w' => e = .returned (.bool true) ∧ Below w.heap.size w w' := by
  have HL : Hid (Has w (.slice ao L.length cap) L ∧ Bytes L) := ⟨hL, hB⟩
  have HT : Hid (Tabs w) := hT
  have HHF : Hid (Half w) := hH
  obtain ⟨n, hn⟩ : ∃ n, n = L.length := ⟨_, rfl⟩
  have HN : Hid (n = L.length) := hn
  have hnI : ¬ ((32768 : Int) < (n : Int)) := by omega
  have C17 : Hid (Calls Tryd.prog 17 #[.pointer (some ⟨w.heap.size, 0, none⟩), .slice ao n cap] (w.alloc roomObj) fun e w' => ∃ g, e = .returned (.slice (some ⟨g, 0, none⟩) n (n + 600)) ∧ (w.heap.size ≤ g ∧ Has w' (.slice (some ⟨g, 0, none⟩) n (n + 600)) L ∧ RoomB w' w.heap.size g n ∧ Below w.heap.size w w')) := by
    have hb : Below w.heap.size w (w.alloc roomObj) := (Below.refl _ w).alloc (Nat.le_refl _) _
    rw [hn]
    refine (roomBytes_any w.heap.size w.heap.size (.slice ao L.length cap) L (w.alloc roomObj) (Nat.le_refl _) (by simp) (room_new w).1 (room_new w).2 (hL.below hb) (by omega)).mono fun e w' ⟨g, q1, q2, q3, q4, q5⟩ => ⟨g, q1, q2, q3, q4, hb.trans q5⟩
  rw [← hn]
  rw [← hn] at hl
  clear hL hB hT hH hn
  go_enter Tryd.func4, Tryd.ntmps4
  go_upto_region 5 with (go_at_call 17; refine C17.out.mono ?_; rintro e w1 ⟨g, rfl, h1⟩; have H1 : Hid (w.heap.size ≤ g ∧ Has w1 (.slice (some ⟨g, 0, none⟩) n (n + 600)) L ∧ RoomB w1 w.heap.size g n ∧ Below w.heap.size w w1) := h1; clear h1)
  have hg : w.heap.size ≤ g := H1.out.1
  clear C17
  go_wp2_with fail
  go_loopw [5] (fun i wr => ∃ (j : Nat) (M : List Nat), j ≤ 3 ∧ i = .int .i64 j ∧ Hid (M.length = n ∧ Bytes M) ∧ Hid (Has wr (.slice (some ⟨g, 0, none⟩) n (n + 600)) M) ∧ Hid (RoomB wr w.heap.size g n) ∧ Hid (Below w.heap.size w wr)) (fun i _ => 3 - (intOf i).toNat)
  case atStart => exact ⟨0, L, by omega, rfl, ⟨HN.out.symm, HL.out.2⟩, H1.out.2.1, H1.out.2.2.1, H1.out.2.2.2⟩
  case round =>
    clear H1
    obtain ⟨j, M, hj, rfl, HM, HH, HR, HW⟩ := hrel
    by_cases hj3 : j < 3
    · have hjI : (j : Int) < 3 := by omega
      obtain ⟨dl, hdl⟩ : ∃ dl, dl = digest M := ⟨_, rfl⟩
      have HD : Hid (dl.length = 32) := by show _ = _; rw [hdl]; exact sha_len _
      obtain ⟨cr, hcr⟩ : ∃ cr, cr = Crc.crc M := ⟨_, rfl⟩
      have hMl := HM.out.1
      have K18 : Hid (∀ wz v, Below w.heap.size w wz → Has wz v M → Calls Tryd.prog 18 #[v] wz fun e w' => e = .returned (.agg (dl.map vb).toArray) ∧ Below wz.heap.size wz w') := fun wz v hz hv => by
        rw [hdl]; exact digest_any v M wz hv HM.out.2 (HT.out.up hz) (by omega)
      have K19 : Hid (∀ wz v, Has wz v M → Calls Tryd.prog 19 #[v] wz fun e w' => e = .returned (.agg (dl.map vb).toArray) ∧ Below wz.heap.size wz w') := fun wz v hv => by
        rw [hdl]; exact refDigest_any v M wz hv HM.out.2 (by omega)
      have K20 : Hid (∀ wz v, Below w.heap.size w wz → Has wz v M → Calls Tryd.prog 20 #[v] wz fun e w' => e = .returned (.int .u32 (cr : Int)) ∧ wz = w') := fun wz v hz hv => by
        rw [hcr]; exact (crc_any v M wz hv HM.out.2 (HHF.out.up hz) (by omega)).mono fun _ _ h => ⟨h.1, h.2.symm⟩
      have K21 : Hid (∀ wz v, Has wz v M → Calls Tryd.prog 21 #[v] wz fun e w' => e = .returned (.int .u32 (cr : Int)) ∧ wz = w') := fun wz v hv => by
        rw [hcr]; exact refCrc_any v M wz hv HM.out.2 (by omega)
      have K22 : Hid (∀ wz v u, Has wz v M → Has wz u M → Calls Tryd.prog 22 #[v, u] wz fun e w' => e = .returned (.bool true) ∧ Below wz.heap.size wz w') := fun wz v u hv hu => by
        refine (same_any v u M M wz hv hu (by omega) (by omega)).mono fun e w' ⟨q1, ⟨m, q2⟩⟩ => ⟨by rw [q1, decide_eq_true rfl], by rw [q2]; exact ⟨rfl, rfl, rfl, Nat.le_refl _, fun _ _ => rfl⟩⟩
      have hcc : ((cr : Int) != (cr : Int)) = false := by simp
      clear hdl hcr hMl
      go_upto_region 9 with (at_builtin; refine wpList_append_has rfl (.const (.slice none 0 0)) (.tmp 20) rfl wr.heap.size _ _ [] M rfl rfl (Owns.nil _ _) HH.out (by have := HM.out.1; simp; omega) (Nat.le_refl _) ?_; intro v2 w2 ho2 hb2; rw [List.nil_append] at ho2; obtain ⟨xo, xc, e2, _⟩ := ho2.has.form; rw [HM.out.1] at e2; subst e2; have H2 : Hid (Has w2 (.slice xo n xc) M ∧ Has w2 (.slice (some ⟨g, 0, none⟩) n (n + 600)) M ∧ RoomB w2 w.heap.size g n ∧ Below w.heap.size w w2) := ⟨ho2.has, HH.out.below hb2, HR.out.below hb2, Below.up HW.out hb2⟩; clear ho2 hb2)
      clear HH HR HW
      go_upto_region 11 with (first
        | (go_at_call 18; refine (K18.out _ _ H2.out.2.2.2 H2.out.2.1).mono ?_; rintro e w3 ⟨rfl, h3⟩; have H3 : Hid (Has w3 (.slice xo n xc) M ∧ Has w3 (.slice (some ⟨g, 0, none⟩) n (n + 600)) M ∧ RoomB w3 w.heap.size g n ∧ Below w.heap.size w w3) := ⟨H2.out.1.below h3, H2.out.2.1.below h3, H2.out.2.2.1.below h3, Below.up H2.out.2.2.2 h3⟩; clear h3)
        | (go_at_call 19; refine (K19.out _ _ H3.out.1).mono ?_; rintro e w4 ⟨rfl, h4⟩; have H4 : Hid (Has w4 (.slice xo n xc) M ∧ Has w4 (.slice (some ⟨g, 0, none⟩) n (n + 600)) M ∧ RoomB w4 w.heap.size g n ∧ Below w.heap.size w w4) := ⟨H3.out.1.below h4, H3.out.2.1.below h4, H3.out.2.2.1.below h4, Below.up H3.out.2.2.2 h4⟩; clear h4)
        | (go_at_call 20; refine (K20.out _ _ H4.out.2.2.2 H4.out.2.1).mono ?_; rintro e w' ⟨rfl, rfl⟩)
        | (go_at_call 21; refine (K21.out _ _ H4.out.1).mono ?_; rintro e w' ⟨rfl, rfl⟩)
        | (go_at_call 22; refine (K22.out _ _ _ H4.out.2.1 H4.out.1).mono ?_; rintro e w5 ⟨rfl, h5⟩; have H5 : Hid (Has w5 (.slice (some ⟨g, 0, none⟩) n (n + 600)) M ∧ RoomB w5 w.heap.size g n ∧ Below w.heap.size w w5) := ⟨H4.out.2.1.below h5, H4.out.2.2.1.below h5, Below.up H4.out.2.2.2 h5⟩; clear h5)
        | (refine wpList_neq41 rfl (.tmp 23) (.tmp 25) dl HD.out rfl rfl rfl ?_))
      clear K18 K19 K20 K21 K22 H2 H3 H4
      go_wp2_with fail
      go_loopw [7] (fun i wr => ∃ (k : Nat) (M : List Nat), k ≤ n ∧ i = .int .i64 k ∧ Hid (M.length = n ∧ Bytes M) ∧ Hid (Has wr (.slice (some ⟨g, 0, none⟩) n (n + 600)) M) ∧ Hid (RoomB wr w.heap.size g n) ∧ Hid (Below w.heap.size w wr)) (fun i _ => n - (intOf i).toNat)
      case atStart => exact ⟨0, M, by omega, rfl, HM.out, H5.out.1, H5.out.2.1, H5.out.2.2⟩
      case round =>
        clear H5 HM
        obtain ⟨k, M, hk, rfl, HM, HH, HR, HW⟩ := hrel
        by_cases hgo : k < n ∧ 0 < j
        · obtain ⟨hlt, hj0⟩ := hgo
          have hkI : (k : Int) < (n : Int) := by omega
          have hj0I : (0 : Int) < (j : Int) := by omega
          obtain ⟨x, hx⟩ : ∃ x, x = M.getD k 0 := ⟨_, rfl⟩
          have hkM : k < M.length := by rw [HM.out.1]; exact hlt
          have hxl : x < 256 := by rw [hx]; exact HM.out.2 _ (by simp [List.getD, List.getElem?_eq_getElem hkM])
          have hcx : wr.cell? ⟨g, k, none⟩ = some (.int .u8 (x : Int)) := by rw [cellG HH.out hkM, hx]; rfl
          have hfx : wr.frozen? ⟨g, k, none⟩ = false := HR.out.fz k hlt
          obtain ⟨y, hy⟩ : ∃ y, y = (k + 1) % 256 := ⟨_, rfl⟩
          have hyI : ((k : Int) + 1) % 256 = (y : Int) := by omega
          obtain ⟨z, hz, hzl⟩ : ∃ z : Nat, bits .xor .u8 (x : Int) (y : Int) = (z : Int) ∧ z < 256 := ⟨x ^^^ y, u8_xor_nat _ _ hxl (by omega), Nat.xor_lt_two_pow (n := 8) hxl (by omega)⟩
          have HN2 : Hid ((M.set k z).length = n ∧ Bytes (M.set k z)) := ⟨by rw [List.length_set]; exact HM.out.1, fun u hu => by
            rcases List.mem_or_eq_of_mem_set hu with h | h
            · exact HM.out.2 u h
            · rw [h]; exact hzl⟩
          have HH2 : Hid (Has (wr.setCell ⟨g, k, none⟩ (.int .u8 (z : Int))) (.slice (some ⟨g, 0, none⟩) n (n + 600)) (M.set k z)) := setG HH.out hkM
          have HR2 : Hid (RoomB (wr.setCell ⟨g, k, none⟩ (.int .u8 (z : Int))) w.heap.size g n) := HR.out.set hlt _
          have HW2 : Hid (Below w.heap.size w (wr.setCell ⟨g, k, none⟩ (.int .u8 (z : Int)))) := HW.out.setCell (p := ⟨g, k, none⟩) hg _
          clear hx hy hkM HM HH HR HW
          go_wp2_with fail
          go_roundw
          case rel => exact ⟨k + 1, M.set k z, by omega, by go_num, HN2.out, HH2.out, HR2.out, HW2.out⟩
          case measure => simp [intOf]; omega
        · have hgd : (decide ((k : Int) < (n : Int)) && decide ((0 : Int) < (j : Int))) = false := by
            rw [Bool.and_eq_false_iff]
            by_cases h1 : k < n
            · right; simp; omega
            · left; simp; omega
          go_wp2_with fail
          all_goals
            go_roundw
            case rel => exact ⟨j + 1, M, by omega, by go_num, HM.out, HH.out, HR.out, HW.out⟩
            case measure => simp [intOf]; omega
    · have hjI : ¬ (j : Int) < 3 := by omega
      obtain rfl : j = 3 := by omega
      have C16 : Hid (Calls Tryd.prog 16 #[.pointer (some ⟨w.heap.size, 0, none⟩)] wr fun e w' => e = .returned (.bool true) ∧ w' = wr) := roomHold_any w.heap.size g n wr HR.out (by omega)
      go_wp2_with (go_at_call 16; refine C16.out.mono ?_; rintro e w5 ⟨rfl, e5⟩; subst e5)
      go_ret
      exact ⟨rfl, HW.out⟩
end Go.Proofs.YtmglopfjjbnfiaaDoor
