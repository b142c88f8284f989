/-
  path.pieces, as an iterator.
-/
import Derived.Test.YthioflehpifflaaGreatDoorRefPieces
import Derived.Lib.OthersKept
import Derived.RangeFuncNested
import Derived.RangeFuncBound
import Derived.RangeFuncCalls
import Derived.RangeFuncLeaves
import Derived.OwnWalkIn
import Derived.TacticsInMore
import Derived.LoopNIn
import Derived.LoopIn
import Derived.RegionIn
namespace Go.Proofs.YthioflehpifflaaGreatDoor
open Go.RowKit
attribute [local go_sem] Oper.semAt_some

abbrev Str : Type := { x : ByteArray // x.size ≤ 9223372036854775807 }
abbrev tls (ys : List Str) : List By := ys.map fun x => tl x.1

set_option maxHeartbeats 1000000 in
set_option maxRecDepth 100000 in
theorem piecesF_any (s : ByteArray) (w : World) :
    Calls Tryz.prog 86 #[.string s] w fun e w' => e = .returned (.func (.func 125) #[] #[.pointer (some ⟨w.heap.size, 0, none⟩)]) ∧ w' = w.alloc (.cells #[.string s] 9) := by
  have hmf : ∀ (fn : Fn) (first cap : Array Value) (w : World), (Instr.makeFunc fn first cap).run Tryz.prog w = .ok (.func fn first cap) w := fun _ _ _ _ => rfl
  go_enter Tryz.func86, Tryz.ntmps86
  go_wp2
  go_ret
  exact ⟨rfl, rfl⟩

theorem grownBy_alloc1 (w : World) (o : Obj) : w.grownBy (w.alloc o) none := ⟨rfl, rfl, rfl, by simp, fun k hk _ => Below.heap_alloc w o k hk⟩
theorem iterAt_grown (w : World) (k : Nat) (s : ByteArray) (p : Nat) : w.grownBy (w.iterAt k s p) (some k) := grownBy_putObj' w k (.stringIter s p)

set_option maxRecDepth 100000 in
set_option maxHeartbeats 2000000 in
theorem pieces1_in (F : Fence) (n : Nat) (h62 : F.fn 125) (hro : F.round = none) (hn : 1 ≤ n) (l Bs : Nat) (s : ByteArray) (hs : s.size ≤ 1152921504606846976) (J Jx : List Str → World → Prop) (W : World) (hJ : AbidesFrom W.heap.size J)
    (hY : ∀ pre x W1, J pre W1 → pre.length < (pieces (tl s)).length → YieldAt F (n - 1) Tryz.prog l #[.string x.1] W1 fun e W' =>
      (e = .returned (.bool true) ∧ J (pre ++ [x]) W' ∧ (KeepsWalks W1 W' ∧ W'.heap[Bs]? = W1.heap[Bs]?)) ∨ (e = .returned (.bool false) ∧ Jx (pre ++ [x]) W'))
    (hc1 : W.cell? ⟨Bs, 0, none⟩ = some (.string s)) (h0 : J [] W) :
    CallsIn F n Tryz.prog 125 #[.func (.yield l) #[] #[], .pointer (some ⟨Bs, 0, none⟩)] W fun e W' => (∃ v, e = .returned v) ∧
      ((∃ ys, tls ys = pieces (tl s) ∧ J ys W') ∨ (∃ pre, tls pre <+: pieces (tl s) ∧ Jx pre W')) := by
  have hlen := tl_len s
  by_cases hz : s.toList = []
  · have b0 : s.toList.isEmpty = true := by simpa using hz
    refine callsIn_of_wp Tryz.func125 rfl h62 ?_ hro
    simp only [Tryz.ntmps125, List.size_toArray, List.length_cons, List.length_nil, Nat.reduceAdd, Nat.reduceSub, Array.replicate_succ, Array.replicate_zero, List.push_toArray, List.append_toArray, List.nil_append, List.cons_append]
    gi_wp2
    refine bodyPost_ret (results_none rfl _ _ _) rfl ?_
    exact ⟨⟨_, rfl⟩, .inl ⟨[], by unfold pieces; rw [if_pos hz]; rfl, h0⟩⟩
  · have b0 : s.toList.isEmpty = false := by simpa using hz
    have HP : Hid (pieces (tl s) = cuts (tl s)) := by show _ = _; unfold pieces; rw [if_neg hz]
    rw [HP.out] at hY
    have hBs : Bs < W.heap.size := World.block_lt_of_cell? W _ hc1
    refine callsIn_of_wp Tryz.func125 rfl h62 ?_ hro
    simp only [Tryz.ntmps125, List.size_toArray, List.length_cons, List.length_nil, Nat.reduceAdd, Nat.reduceSub, Array.replicate_succ, Array.replicate_zero, List.push_toArray, List.append_toArray, List.nil_append, List.cons_append]
    gi_wp2
    gi_loopw [3] (fun x wr => ∃ (f pos : Nat) (ys : List Str), x = .int .i64 f ∧ f ≤ pos ∧ pos ≤ s.size ∧ wr.heap[W.heap.size]? = some (.stringIter s pos) ∧ wr.cell? ⟨Bs, 0, none⟩ = some (.string s) ∧ Hid (J ys wr ∧ tls ys ++ cuts ((tl s).drop f) = cuts (tl s) ∧ ∀ j, f ≤ j → j < pos → (tl s)[j]? ≠ some 47))
      (fun _ wr => s.size - wr.iterPos W.heap.size)
    case atStart =>
      refine ⟨0, 0, [], rfl, Nat.le_refl _, Nat.zero_le _, World.iter_heap W s 0, ?_, ?_, by simp, fun j _ h => absurd h (Nat.not_lt_zero _)⟩
      · exact (((Below.refl W.heap.size W).alloc (Nat.le_refl _) _).cell (p := ⟨Bs, 0, none⟩) hBs).trans hc1
      · exact hJ _ _ _ none h0 (grownBy_alloc1 W _) (fun r e => by cases e)
    case round =>
      obtain ⟨f, pos, ys, rfl, hfp, hps, hit, hcb, HI⟩ := hrel
      have hksz : W.heap.size < wr.heap.size := (Array.getElem?_eq_some_iff.1 hit).1
      have hylen : ys.length < (cuts (tl s)).length := by
        rw [← HI.out.2.1]; simp [cuts]
      by_cases hp : pos < s.size
      · have hnx : ∀ ty, (Instr.next (.pointer (some ⟨W.heap.size, 0, none⟩)) true ty).run Tryz.prog wr = _ := fun ty => Lib.run_next_any_at wr W.heap.size s pos ty hit hp
        have hwd := decode_wide s pos hp
        have hin := decode_in s pos hp
        have hd1 := decode_le s pos
        have hit2 := Lib.iterAt_heap wr W.heap.size s pos (pos + (Utf8.decode s pos).2) hit
        have hJ2 : J ys (wr.iterAt W.heap.size s (pos + (Utf8.decode s pos).2)) := hJ _ _ _ _ HI.out.1 (iterAt_grown _ _ _ _) (fun r e => by cases e; exact ⟨Nat.le_refl _, _, hit, rfl⟩)
        have hcb2 : (wr.iterAt W.heap.size s (pos + (Utf8.decode s pos).2)).cell? ⟨Bs, 0, none⟩ = some (.string s) := by
          rw [← hcb]
          exact World.cell?_of_block (Lib.iterAt_other wr W.heap.size Bs s _ (by omega))
        by_cases h47 : (Utf8.decode s pos).1 = 47
        · have h1 : (Utf8.decode s pos).2 = 1 := decode_one s pos hp (by rw [(decode_small s pos hp 47 (by decide)).1 h47]; decide)
          rw [h1] at hnx hit2 hJ2 hcb2
          rw [h47] at hnx
          have hat : (tl s)[pos]? = some 47 := by
            rw [tl_get s pos hp]
            have := (decode_small s pos hp 47 (by decide)).1 h47
            rw [show s.get! pos = 47 from UInt8.toNat_inj.1 this]
          have hxs : (s.extract f pos).size ≤ 9223372036854775807 := by rw [← tl_len, tl_extract, List.length_take, List.length_drop, tl_len]; omega
          obtain ⟨fn, tmps, assign, body, hy, hR⟩ := hY ys ⟨s.extract f pos, hxs⟩ _ hJ2 hylen
          dsimp only at hy
          have HN : Hid (tls (ys ++ [⟨s.extract f pos, hxs⟩]) ++ cuts ((tl s).drop (pos + 1)) = cuts (tl s)) := by
            show _ = _
            rw [← HI.out.2.1, drop_take_cut hfp hat HI.out.2.2]
            simp [tls, tl_extract]
          have i1 : (f : Int) ≤ (pos : Int) := by omega
          have i2 : (pos : Int) ≤ (s.size : Int) := by omega
          have PRE : Hid (tls (ys ++ [⟨s.extract f pos, hxs⟩]) <+: pieces (tl s)) := by rw [HP.out, ← HN.out]; exact List.prefix_append _ _
          clear hJ2 HI hat hd1 hwd hin h47 h1
          gi_wp2
          refine hR.mono ?_
          rintro e W3 (⟨rfl, hJ3, hk3, hb3⟩ | ⟨rfl, hJx3⟩)
          · have it3 := hk3.same _ _ hit2 rfl
            have c3 : W3.cell? ⟨Bs, 0, none⟩ = some (.string s) := (World.cell?_of_block hb3).trans hcb2
            have HJ3 : Hid (J (ys ++ [⟨s.extract f pos, hxs⟩]) W3) := hJ3
            clear hJ3 hk3 hb3 hR hy
            gi_wp2
            go_roundw
            case rel => exact ⟨pos + 1, pos + 1, _, by go_num, Nat.le_refl _, hp, it3, c3, HJ3.out, HN.out, fun j a b => by omega⟩
            case measure => simp only [World.iterPos, it3, hit]; omega
          · have HX3 : Hid (Jx (ys ++ [⟨s.extract f pos, hxs⟩]) W3) := hJx3
            clear hJx3 hR hy
            gi_wp2
            refine bodyPost_ret (results_none rfl _ _ _) rfl ?_
            exact ⟨⟨_, rfl⟩, .inr ⟨_, PRE.out, HX3.out⟩⟩
        · have q1 : (((Utf8.decode s pos).1 : Int) != 47) = true := by simp; omega
          have HN : Hid (∀ j, f ≤ j → j < pos + (Utf8.decode s pos).2 → (tl s)[j]? ≠ some 47) := by
            intro j a b
            by_cases e : j < pos
            · exact HI.out.2.2 j a e
            · have n1 := decode_none s pos 47 hp (by decide) h47 j (by omega) b
              rw [tl_get s j (by omega)]
              intro q
              rw [Option.some.inj q] at n1
              exact n1 rfl
          have HI2 : Hid (tls ys ++ cuts ((tl s).drop f) = cuts (tl s)) := HI.out.2.1
          have HJ2 : Hid (J ys (wr.iterAt W.heap.size s (pos + (Utf8.decode s pos).2))) := hJ2
          clear hJ2 HI h47
          gi_wp2
          go_roundw
          case rel => exact ⟨f, _, ys, rfl, by omega, hin, hit2, hcb2, HJ2.out, HI2.out, HN.out⟩
          case measure => simp only [World.iterPos, hit2, hit]; omega
      · have hnx : ∀ ty, (Instr.next (.pointer (some ⟨W.heap.size, 0, none⟩)) true ty).run Tryz.prog wr = _ := fun ty => Lib.run_next_end_at wr W.heap.size s pos ty hit hp
        have hxs : (s.extract f s.size).size ≤ 9223372036854775807 := by rw [← tl_len, tl_extract, List.length_take, List.length_drop, tl_len]; omega
        obtain ⟨fn, tmps, assign, body, hy, hR⟩ := hY ys ⟨s.extract f s.size, hxs⟩ _ HI.out.1 hylen
        dsimp only at hy
        have HN : Hid (tls (ys ++ [⟨s.extract f s.size, hxs⟩]) = pieces (tl s)) := by
          show _ = _
          rw [HP.out, ← HI.out.2.1, drop_no_cut (fun j a b => HI.out.2.2 j a (by omega))]
          simp only [tls, List.map_append, List.map_cons, List.map_nil]
          rw [tl_extract, List.take_of_length_le (by rw [List.length_drop]; omega)]
        have i1 : (f : Int) ≤ (s.size : Int) := by omega
        clear HI
        gi_wp2
        refine hR.mono ?_
        rintro e W3 (⟨rfl, hJ3, hk3, hb3⟩ | ⟨rfl, hJx3⟩)
        · have HJ3 : Hid (J (ys ++ [⟨s.extract f s.size, hxs⟩]) W3) := hJ3
          clear hJ3 hk3 hb3 hR hy
          gi_wp2
          go_end0
          exact ⟨⟨_, rfl⟩, .inl ⟨_, HN.out, HJ3.out⟩⟩
        · have HX3 : Hid (Jx (ys ++ [⟨s.extract f s.size, hxs⟩]) W3) := hJx3
          clear hJx3 hR hy
          gi_wp2
          go_end0
          exact ⟨⟨_, rfl⟩, .inr ⟨_, by rw [HN.out]; exact List.prefix_rfl, HX3.out⟩⟩
end Go.Proofs.YthioflehpifflaaGreatDoor
