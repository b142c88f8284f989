import Derived.Test.YtjkbhfkeagfhbaaPRefPieces
import Derived.Lib.OthersKept
import Derived.RangeFuncNested
import Derived.RangeFuncBound
import Derived.RangeFuncCalls
import Derived.RangeFuncLeaves
import Derived.OwnWalkIn
import Derived.TacticsInMore
import Derived.LoopNIn
import Derived.LoopIn
import Derived.RegionIn
import Derived.Maps.OwnIn
import Derived.Maps.AppendAt
import Derived.RangeFuncBox
import Derived.Shelf.Abstract
import Derived.Shelf.RegionOpen
import Derived.Test.YtjkbhfkeagfhbaaData
import Derived.Lib.Bytealg
import Derived.Deep.RegionWith
namespace Go.Proofs.Ytjkbhfkeagfhbaa
open Go.RowKit
attribute [local go_sem] Oper.semAt_some

abbrev Str : Type := { x : ByteArray // x.size ≤ 9223372036854775807 }
abbrev tls (ys : List Str) : List By := ys.map fun x => tl x.1

set_option maxHeartbeats 1000000 in
set_option maxRecDepth 100000 in
theorem piecesF_any (s : ByteArray) (w : World) :
    Calls Try.prog 86 #[.string s] w fun e w' => e = .returned (.func (.func 108) #[] #[.pointer (some ⟨w.heap.size, 0, none⟩)]) ∧ w' = w.alloc (.cells #[.string s] 9) := by
  have hmf : ∀ (fn : Fn) (first cap : Array Value) (w : World), (Instr.makeFunc fn first cap).run Try.prog w = .ok (.func fn first cap) w := fun _ _ _ _ => rfl
  go_enter Try.func86, Try.ntmps86
  go_wp2
  go_ret
  exact ⟨rfl, rfl⟩

theorem grownBy_alloc1 (w : World) (o : Obj) : w.grownBy (w.alloc o) none := ⟨rfl, rfl, rfl, by simp, fun k hk _ => Below.heap_alloc w o k hk⟩
theorem iterAt_grown (w : World) (k : Nat) (s : ByteArray) (p : Nat) : w.grownBy (w.iterAt k s p) (some k) := grownBy_putObj' w k (.stringIter s p)

set_option maxRecDepth 100000 in
set_option maxHeartbeats 2000000 in
theorem pieces1_in (F : Fence) (n : Nat) (h62 : F.fn 108) (hro : F.round = none) (hn : 1 ≤ n) (l Bs : Nat) (s : ByteArray) (hs : s.size ≤ 1152921504606846976) (J Jx : List Str → World → Prop) (W : World) (hJ : AbidesFrom W.heap.size J)
    (hY : ∀ pre x W1, J pre W1 → pre.length < (pieces (tl s)).length → YieldAt F (n - 1) Try.prog l #[.string x.1] W1 fun e W' =>
      (e = .returned (.bool true) ∧ J (pre ++ [x]) W' ∧ (KeepsWalks W1 W' ∧ W'.heap[Bs]? = W1.heap[Bs]?)) ∨ (e = .returned (.bool false) ∧ Jx (pre ++ [x]) W'))
    (hc1 : W.cell? ⟨Bs, 0, none⟩ = some (.string s)) (h0 : J [] W) :
    CallsIn F n Try.prog 108 #[.func (.yield l) #[] #[], .pointer (some ⟨Bs, 0, none⟩)] W fun e W' => (∃ v, e = .returned v) ∧
      ((∃ ys, tls ys = pieces (tl s) ∧ J ys W') ∨ (∃ pre, tls pre <+: pieces (tl s) ∧ Jx pre W')) := by
  have hlen := tl_len s
  by_cases hz : s.toList = []
  · have b0 : s.toList.isEmpty = true := by simpa using hz
    refine callsIn_of_wp Try.func108 rfl h62 ?_ hro
    simp only [Try.ntmps108, List.size_toArray, List.length_cons, List.length_nil, Nat.reduceAdd, Nat.reduceSub, Array.replicate_succ, Array.replicate_zero, List.push_toArray, List.append_toArray, List.nil_append, List.cons_append]
    gi_wp2
    refine bodyPost_ret (results_none rfl _ _ _) rfl ?_
    exact ⟨⟨_, rfl⟩, .inl ⟨[], by unfold pieces; rw [if_pos hz]; rfl, h0⟩⟩
  · have b0 : s.toList.isEmpty = false := by simpa using hz
    have HP : Hid (pieces (tl s) = cuts (tl s)) := by show _ = _; unfold pieces; rw [if_neg hz]
    rw [HP.out] at hY
    have hBs : Bs < W.heap.size := World.block_lt_of_cell? W _ hc1
    refine callsIn_of_wp Try.func108 rfl h62 ?_ hro
    simp only [Try.ntmps108, List.size_toArray, List.length_cons, List.length_nil, Nat.reduceAdd, Nat.reduceSub, Array.replicate_succ, Array.replicate_zero, List.push_toArray, List.append_toArray, List.nil_append, List.cons_append]
    gi_wp2
    gi_loopw [3] (fun x wr => ∃ (f pos : Nat) (ys : List Str), x = .int .i64 f ∧ f ≤ pos ∧ pos ≤ s.size ∧ wr.heap[W.heap.size]? = some (.stringIter s pos) ∧ wr.cell? ⟨Bs, 0, none⟩ = some (.string s) ∧ Hid (J ys wr ∧ tls ys ++ cuts ((tl s).drop f) = cuts (tl s) ∧ ∀ j, f ≤ j → j < pos → (tl s)[j]? ≠ some 47))
      (fun _ wr => s.size - wr.iterPos W.heap.size)
    case atStart =>
      refine ⟨0, 0, [], rfl, Nat.le_refl _, Nat.zero_le _, World.iter_heap W s 0, ?_, ?_, by simp, fun j _ h => absurd h (Nat.not_lt_zero _)⟩
      · exact (((Below.refl W.heap.size W).alloc (Nat.le_refl _) _).cell (p := ⟨Bs, 0, none⟩) hBs).trans hc1
      · exact hJ _ _ _ none h0 (grownBy_alloc1 W _) (fun r e => by cases e)
    case round =>
      obtain ⟨f, pos, ys, rfl, hfp, hps, hit, hcb, HI⟩ := hrel
      have hksz : W.heap.size < wr.heap.size := (Array.getElem?_eq_some_iff.1 hit).1
      have hylen : ys.length < (cuts (tl s)).length := by
        rw [← HI.out.2.1]; simp [cuts]
      by_cases hp : pos < s.size
      · have hnx : ∀ ty, (Instr.next (.pointer (some ⟨W.heap.size, 0, none⟩)) true ty).run Try.prog wr = _ := fun ty => Lib.run_next_any_at wr W.heap.size s pos ty hit hp
        have hwd := decode_wide s pos hp
        have hin := decode_in s pos hp
        have hd1 := decode_le s pos
        have hit2 := Lib.iterAt_heap wr W.heap.size s pos (pos + (Utf8.decode s pos).2) hit
        have hJ2 : J ys (wr.iterAt W.heap.size s (pos + (Utf8.decode s pos).2)) := hJ _ _ _ _ HI.out.1 (iterAt_grown _ _ _ _) (fun r e => by cases e; exact ⟨Nat.le_refl _, _, hit, rfl⟩)
        have hcb2 : (wr.iterAt W.heap.size s (pos + (Utf8.decode s pos).2)).cell? ⟨Bs, 0, none⟩ = some (.string s) := by
          rw [← hcb]
          exact World.cell?_of_block (Lib.iterAt_other wr W.heap.size Bs s _ (by omega))
        by_cases h47 : (Utf8.decode s pos).1 = 47
        · have h1 : (Utf8.decode s pos).2 = 1 := decode_one s pos hp (by rw [(decode_small s pos hp 47 (by decide)).1 h47]; decide)
          rw [h1] at hnx hit2 hJ2 hcb2
          rw [h47] at hnx
          have hat : (tl s)[pos]? = some 47 := by
            rw [tl_get s pos hp]
            have := (decode_small s pos hp 47 (by decide)).1 h47
            rw [show s.get! pos = 47 from UInt8.toNat_inj.1 this]
          have hxs : (s.extract f pos).size ≤ 9223372036854775807 := by rw [← tl_len, tl_extract, List.length_take, List.length_drop, tl_len]; omega
          obtain ⟨fn, tmps, assign, body, hy, hR⟩ := hY ys ⟨s.extract f pos, hxs⟩ _ hJ2 hylen
          dsimp only at hy
          have HN : Hid (tls (ys ++ [⟨s.extract f pos, hxs⟩]) ++ cuts ((tl s).drop (pos + 1)) = cuts (tl s)) := by
            show _ = _
            rw [← HI.out.2.1, drop_take_cut hfp hat HI.out.2.2]
            simp [tls, tl_extract]
          have i1 : (f : Int) ≤ (pos : Int) := by omega
          have i2 : (pos : Int) ≤ (s.size : Int) := by omega
          have PRE : Hid (tls (ys ++ [⟨s.extract f pos, hxs⟩]) <+: pieces (tl s)) := by rw [HP.out, ← HN.out]; exact List.prefix_append _ _
          clear hJ2 HI hat hd1 hwd hin h47 h1
          gi_wp2
          refine hR.mono ?_
          rintro e W3 (⟨rfl, hJ3, hk3, hb3⟩ | ⟨rfl, hJx3⟩)
          · have it3 := hk3.same _ _ hit2 rfl
            have c3 : W3.cell? ⟨Bs, 0, none⟩ = some (.string s) := (World.cell?_of_block hb3).trans hcb2
            have HJ3 : Hid (J (ys ++ [⟨s.extract f pos, hxs⟩]) W3) := hJ3
            clear hJ3 hk3 hb3 hR hy
            gi_wp2
            go_roundw
            case rel => exact ⟨pos + 1, pos + 1, _, by go_num, Nat.le_refl _, hp, it3, c3, HJ3.out, HN.out, fun j a b => by omega⟩
            case measure => simp only [World.iterPos, it3, hit]; omega
          · have HX3 : Hid (Jx (ys ++ [⟨s.extract f pos, hxs⟩]) W3) := hJx3
            clear hJx3 hR hy
            gi_wp2
            refine bodyPost_ret (results_none rfl _ _ _) rfl ?_
            exact ⟨⟨_, rfl⟩, .inr ⟨_, PRE.out, HX3.out⟩⟩
        · have q1 : (((Utf8.decode s pos).1 : Int) != 47) = true := by simp; omega
          have HN : Hid (∀ j, f ≤ j → j < pos + (Utf8.decode s pos).2 → (tl s)[j]? ≠ some 47) := by
            intro j a b
            by_cases e : j < pos
            · exact HI.out.2.2 j a e
            · have n1 := decode_none s pos 47 hp (by decide) h47 j (by omega) b
              rw [tl_get s j (by omega)]
              intro q
              rw [Option.some.inj q] at n1
              exact n1 rfl
          have HI2 : Hid (tls ys ++ cuts ((tl s).drop f) = cuts (tl s)) := HI.out.2.1
          have HJ2 : Hid (J ys (wr.iterAt W.heap.size s (pos + (Utf8.decode s pos).2))) := hJ2
          clear hJ2 HI h47
          gi_wp2
          go_roundw
          case rel => exact ⟨f, _, ys, rfl, by omega, hin, hit2, hcb2, HJ2.out, HI2.out, HN.out⟩
          case measure => simp only [World.iterPos, hit2, hit]; omega
      · have hnx : ∀ ty, (Instr.next (.pointer (some ⟨W.heap.size, 0, none⟩)) true ty).run Try.prog wr = _ := fun ty => Lib.run_next_end_at wr W.heap.size s pos ty hit hp
        have hxs : (s.extract f s.size).size ≤ 9223372036854775807 := by rw [← tl_len, tl_extract, List.length_take, List.length_drop, tl_len]; omega
        obtain ⟨fn, tmps, assign, body, hy, hR⟩ := hY ys ⟨s.extract f s.size, hxs⟩ _ HI.out.1 hylen
        dsimp only at hy
        have HN : Hid (tls (ys ++ [⟨s.extract f s.size, hxs⟩]) = pieces (tl s)) := by
          show _ = _
          rw [HP.out, ← HI.out.2.1, drop_no_cut (fun j a b => HI.out.2.2 j a (by omega))]
          simp only [tls, List.map_append, List.map_cons, List.map_nil]
          rw [tl_extract, List.take_of_length_le (by rw [List.length_drop]; omega)]
        have i1 : (f : Int) ≤ (s.size : Int) := by omega
        clear HI
        gi_wp2
        refine hR.mono ?_
        rintro e W3 (⟨rfl, hJ3, hk3, hb3⟩ | ⟨rfl, hJx3⟩)
        · have HJ3 : Hid (J (ys ++ [⟨s.extract f s.size, hxs⟩]) W3) := hJ3
          clear hJ3 hk3 hb3 hR hy
          gi_wp2
          go_end0
          exact ⟨⟨_, rfl⟩, .inl ⟨_, HN.out, HJ3.out⟩⟩
        · have HX3 : Hid (Jx (ys ++ [⟨s.extract f s.size, hxs⟩]) W3) := hJx3
          clear hJx3 hR hy
          gi_wp2
          go_end0
          exact ⟨⟨_, rfl⟩, .inr ⟨_, by rw [HN.out]; exact List.prefix_rfl, HX3.out⟩⟩
end Go.Proofs.Ytjkbhfkeagfhbaa
namespace Go.Proofs.Ytjkbhfkeagfhbaa
open Go.RowKit Go.Shelf
attribute [local go_sem] Oper.semAt_some

/-- what a round must keep for path.pieces -/
def KeepP (Bs : Nat) (W W' : World) : Prop := KeepsWalks W W' ∧ W'.heap[Bs]? = W.heap[Bs]?
theorem keepP_t {Bs : Nat} {A B C : World} (h : KeepP Bs A B) (k : KeepP Bs B C) : KeepP Bs A C := ⟨h.1.trans k.1, k.2.trans h.2⟩
theorem keepP_b {Bs : Nat} {w : World} (hB : Bs < w.heap.size) (W : World) (l : Nat) (o o' : Obj) (hl : w.heap.size ≤ l) (h : W.heap[l]? = some o) (_ : o.isCells = false) (hw : o.isWalk = false) : KeepP Bs W (W.putObj l o') :=
  ⟨KeepsWalks.putObj _ h hw, World.putObj_heap_other (by omega)⟩

theorem pieces_stops (n : Nat) (hn : 1 ≤ n) (Bs : Nat) (s : ByteArray) (hs : s.size ≤ 1152921504606846976) (w : World) (hB : w.heap[Bs]? = some (.cells #[.string s] 9)) :
    SeqStopsK Fence.wide n Try.prog 108 #[.pointer (some ⟨Bs, 0, none⟩)] (fun x : Str => #[Value.string x.1]) (KeepP Bs) (fun ys => tls ys = pieces (tl s)) (fun pre => tls pre <+: pieces (tl s)) (pieces (tl s)).length w := fun l J Jx W hW hJ _ hY h0 => by
  have hlt : Bs < w.heap.size := (Array.getElem?_eq_some_iff.1 hB).1
  refine pieces1_in Fence.wide n trivial rfl hn l Bs s hs J Jx W hJ hY ?_ h0
  have hc : w.cell? ⟨Bs, 0, none⟩ = some (.string s) := by simp [World.cell?, hB]
  exact (hW.cell (p := ⟨Bs, 0, none⟩) hlt).trans hc

set_option maxRecDepth 100000 in
set_option maxHeartbeats 2000000 in
theorem appendSeq_any (lo Bs : Nat) (v0 : Value) (s : ByteArray) (w : World) (hs : s.size ≤ 1048576) (hrow0 : w.ownsRow lo 9 1 v0 0 []) (hlo : lo ≤ w.heap.size) (hB : w.heap[Bs]? = some (.cells #[.string s] 9)) (hne : v0.ownBlock ≠ some Bs) :
    Calls Try.prog 109 #[v0, .func (.func 108) #[] #[.pointer (some ⟨Bs, 0, none⟩)]] w fun e w' => ∃ v L, e = .returned v ∧ OwnsT w' lo v L ∧ L.map tl = pieces (tl s) ∧ Below lo w w' := by
  obtain ⟨i0, hi, hz0, hz1, hz2⟩ := info_parts Try.info9
  obtain ⟨ao, cap, rfl⟩ : ∃ ao cap, v0 = .slice ao 0 cap := by
    obtain ⟨_, h | ⟨g, cap, cur, hv, _⟩⟩ := hrow0
    · exact ⟨none, 0, h.1⟩
    · exact ⟨_, cap, hv⟩
  have hlt : Bs < w.heap.size := (Array.getElem?_eq_some_iff.1 hB).1
  have hpl : (pieces (tl s)).length ≤ s.size + 1 := by
    unfold pieces
    split
    · simp
    · rw [cuts_len, ← tl_len]; have := List.count_le_length (a := (47 : UInt8)) (l := tl s); omega
  refine (callsIn_wide (n := 3)).1 ?_
  refine callsIn_of_wp_marks Try.func109 rfl trivial ?_ rfl
  simp only [Try.ntmps109, List.size_toArray, List.length_cons, List.length_nil, Nat.reduceAdd, Nat.reduceSub, Array.replicate_succ, Array.replicate_zero, List.push_toArray, List.append_toArray, List.nil_append, List.cons_append]
  gi_wp2
  have bO := Boxed.new w 80 (.slice ao 0 cap)
  have hB1 : (w.alloc (.cells #[(.slice ao 0 cap)] 80)).heap[Bs]? = some (.cells #[.string s] 9) := (Below.heap_alloc w _ Bs hlt).trans hB
  refine wpIn_rangeFunc_ownF rfl (by omega) (gf := 108) (lb := #[.pointer (some ⟨Bs, 0, none⟩)]) rfl trivial (enters_of Try.func108 (by kernel_rfl) rfl)
    (pieces_stops 2 (by omega) Bs s (by omega) _ hB1) (fun h k => keepP_t h k) (keepP_b (by simp; omega)) (Below.refl _ _) (fun _ => rfl)
    (fun pre W => (∃ v, Boxed W w.heap.size 80 v ∧ W.ownsRow lo 9 1 v pre.length (pre.map fun x => Value.string x.1) ∧ v.ownBlock ≠ some Bs) ∧ (W.heap[Bs]? = some (.cells #[.string s] 9) ∧ Below lo w W))
    (fun _ _ _ => False)
    (OwnFrom.and (Own.from (holdsRow_own lo w.heap.size 80 9 1 (fun pre : List Str => pre.length) (fun pre => pre.map fun x => Value.string x.1) (fun _ v => v.ownBlock ≠ some Bs)) _) (OwnFrom.and ?own (ownFrom_below hlo (by simp; omega))))
    (fun _ _ _ _ _ hs _ _ => hs)
    ⟨⟨_, bO, World.ownsRow.alloc hrow0 _, hne⟩, hB1, (Below.refl lo w).alloc hlo _⟩
    (fun x => { tmps := #[(.slice ao 0 cap), .func (.func 108) #[] #[.pointer (some ⟨Bs, 0, none⟩)], .pointer (some ⟨w.heap.size, 0, none⟩), undef, .slice none 0 0, .string x.1, .func (.func 108) #[] #[.pointer (some ⟨Bs, 0, none⟩)], .string x.1, undef, undef, undef, undef, undef], defers := [] }) ?assign ?body ?done ?stop
  case own =>
    intro _ X Y row h hg hr
    refine (hg.block Bs (Array.getElem?_eq_some_iff.1 h).1 (fun e => ?_)).trans h
    obtain ⟨_, o, ho, hc⟩ := hr Bs e.symm
    rw [h] at ho; cases ho; cases hc
  case assign =>
    intro l x W K hK
    gi_wp2
    exact hK
  case body =>
    rintro l pre x W ⟨⟨v, hv, hrow, hvn⟩, hBs, hb⟩ hpre
    have hc := hv.cell
    have hBsl := (Array.getElem?_eq_some_iff.1 hBs).1
    have hszW := hb.size
    gi_wp2_with (gi_at_builtin; refine wpListIn_append_own_at _ rfl _ _ 80 rfl lo 9 i0 (.string ⟨#[]⟩) 1 16 Try.underlying80 hi hz0 hz1 hz2 rfl (by decide) _ _ _ rfl (World.ownsRow.alloc hrow _) ⟨W.heap.size, 0, none⟩ 1 1 [.string x.1] rfl rfl one_new (by simp [Value.oneCell']) (by unfold maxLen; omega) (by omega) (by simp; omega) ?_; intro v' w1 hown' hgrow _ hat; obtain ⟨g', cap', rfl⟩ := ownsRow_succ hown'; obtain ⟨hv1, hv2, hr2, hk2, hb2⟩ := hv.appended (by decide) hrow (by omega) hlo hown' hgrow; have hc1 := hv1.cell; have hf1 := hv1.frozen)
    have hg2 : (W.alloc (.cells #[.string x.1] 9)).grownBy w1 v.ownBlock := hgrow
    have hat2 : (Value.slice (some ⟨g', 0, none⟩) (pre.length + 1) cap').ownBlock = v.ownBlock ∨ (Value.slice (some ⟨g', 0, none⟩) (pre.length + 1) cap').ownBlock = some (W.alloc (.cells #[.string x.1] 9)).heap.size := hat
    have hkb : (w1.setCell ⟨w.heap.size, 0, none⟩ (.slice (some ⟨g', 0, none⟩) (pre.length + 1) cap')).heap[Bs]? = W.heap[Bs]? := by
      rw [Below.heap_setCell _ _ _ _ (by show Bs ≠ w.heap.size; omega), hg2.block Bs (by simp; omega) (fun e => hvn e.symm)]
      exact Below.heap_alloc W _ Bs hBsl
    refine ⟨hk2, ⟨hk2.walks, hkb⟩, ⟨_, hv2, by simpa using hr2, ?_⟩, hkb.trans hBs, hb.trans hb2⟩
    rcases hat2 with q | q
    · rw [q]; exact hvn
    · rw [q]; simp; omega
  case done =>
    rintro D ys W hD hys ⟨⟨v, hv, hrow, _⟩, _, hb⟩ hK
    have hc := hv.cell
    gi_wp2
    refine ⟨by simp, .inl ⟨_, _, rfl, run_takeDeferred hK, ?_⟩⟩
    refine ⟨_, results_tmp rfl _ _ _, v, ys.map (fun x => x.1), rfl, ?_, by rw [← hys, List.map_map]; rfl, hb.trans (belowK_b (w := w) hlo W D _ _ (by simp at hD; omega) hK rfl rfl)⟩
    have := ownsRow_putObj hrow (.deferred none) hK rfl
    unfold OwnsT
    rw [List.length_map, List.map_map]
    exact this
  case stop =>
    rintro D c pre W _ _ h _
    exact h.elim
end Go.Proofs.Ytjkbhfkeagfhbaa
namespace Go.Proofs.Ytjkbhfkeagfhbaa
open Go.RowKit

/-- is p root, or below it? -/
noncomputable def underB (p root : By) : Bool := @decide (underL p root) (Classical.propDecidable _)
theorem underB_iff {p root : By} : underB p root = true ↔ underL p root := by unfold underB; simp

theorem hasPrefix_yes (a p : ByteArray) (r : By) (w : World) (_ha : a.size ≤ 1152921504606846976) (h : tl a = tl p ++ r) :
    Calls Try.prog 111 #[.string a, .string p] w fun e w' => e = .returned (.bool true) ∧ w' = w := by
  have h1 := congrArg List.length h
  rw [List.length_append, tl_len, tl_len] at h1
  have i1 : (p.size : Int) ≤ (a.size : Int) := by omega
  have e1 : (a.extract 0 p.size).toList = p.toList := by
    have := tl_extract a 0 p.size
    rw [h] at this
    simp only [tl] at this
    rw [this]
    have hl := tl_len p
    simp only [tl] at hl
    simp [List.drop_zero, ← hl]
  have e2 : ((a.extract 0 p.size).toList == p.toList) = true := by simpa using e1
  go_enter Try.func111, Try.ntmps111
  go_wp2
  go_ret
  exact ⟨rfl, rfl⟩
theorem hasPrefix_no (a p : ByteArray) (w : World) (_ha : a.size ≤ 1152921504606846976) (_hp : p.size ≤ 1152921504606846976) (h : ∀ r, tl a ≠ tl p ++ r) :
    Calls Try.prog 111 #[.string a, .string p] w fun e w' => e = .returned (.bool false) ∧ w' = w := by
  by_cases hl : p.size ≤ a.size
  · have i1 : (p.size : Int) ≤ (a.size : Int) := by omega
    have e1 : (a.extract 0 p.size).toList ≠ p.toList := by
      intro e
      have h2 := tl_extract a 0 p.size
      simp only [tl] at h2
      rw [e] at h2
      refine h ((tl a).drop p.size) ?_
      have : tl p = (tl a).take p.size := by simp only [tl]; rw [h2]; simp
      rw [this, List.take_append_drop]
    have e2 : ((a.extract 0 p.size).toList == p.toList) = false := by simpa using e1
    go_enter Try.func111, Try.ntmps111
    go_wp2
    go_ret
    exact ⟨rfl, rfl⟩
  · have i1 : ¬ ((p.size : Int) ≤ (a.size : Int)) := by omega
    go_enter Try.func111, Try.ntmps111
    go_wp2
    go_ret
    exact ⟨rfl, rfl⟩
set_option maxHeartbeats 400000 in
theorem cutPrefix_yes (a p : ByteArray) (r : By) (w : World) (ha : a.size ≤ 1152921504606846976) (h : tl a = tl p ++ r) :
    Calls Try.prog 63 #[.string a, .string p] w fun e w' => e = .returned (.tuple #[.string (a.extract p.size a.size), .bool true]) ∧ w' = w := by
  have C := fun W => hasPrefix_yes a p r W ha h
  have h1 := congrArg List.length h
  rw [List.length_append, tl_len, tl_len] at h1
  have i1 : (p.size : Int) ≤ (a.size : Int) := by omega
  clear h h1
  go_enter Try.func63, Try.ntmps63
  go_wp2_with (first
    | (go_at_call 111; refine (C _).mono ?_; rintro e w1 ⟨rfl, rfl⟩)
    | go_in)
  go_ret2
  exact ⟨rfl, rfl⟩
set_option maxHeartbeats 400000 in
theorem cutPrefix_no (a p : ByteArray) (w : World) (ha : a.size ≤ 1152921504606846976) (hp : p.size ≤ 1152921504606846976) (h : ∀ r, tl a ≠ tl p ++ r) :
    Calls Try.prog 63 #[.string a, .string p] w fun e w' => e = .returned (.tuple #[.string a, .bool false]) ∧ w' = w := by
  have C := fun W => hasPrefix_no a p W ha hp h
  clear h
  go_enter Try.func63, Try.ntmps63
  go_wp2_with (first
    | (go_at_call 111; refine (C _).mono ?_; rintro e w1 ⟨rfl, rfl⟩)
    | go_in)
  go_ret2
  exact ⟨rfl, rfl⟩
set_option maxHeartbeats 400000 in
set_option maxRecDepth 100000 in
theorem under_any (a p : ByteArray) (w : World) (ha : a.size ≤ 1152921504606846976) (hp : p.size ≤ 1152921504606846976) :
    Calls Try.prog 23 #[.string a, .string p] w fun e w' => e = .returned (.bool (underB (tl a) (tl p))) ∧ w' = w := by
  by_cases h1 : p.toList = []
  · rw [underB_iff.2 (.inl h1)]
    have b1 : p.toList.isEmpty = true := by simpa using h1
    go_enter Try.func23, Try.ntmps23
    go_wp2
    go_ret
    exact ⟨rfl, rfl⟩
  · have b1 : p.toList.isEmpty = false := by simpa using h1
    by_cases h2 : a.toList = p.toList
    · rw [underB_iff.2 (.inr (.inl h2))]
      have b2 : (a.toList == p.toList) = true := by simpa using h2
      go_enter Try.func23, Try.ntmps23
      go_wp2
      go_ret
      exact ⟨rfl, rfl⟩
    · have b2 : (a.toList == p.toList) = false := by simpa using h2
      by_cases h3 : ∃ r, tl a = tl p ++ r
      · obtain ⟨r, hr⟩ := h3
        have C := cutPrefix_yes a p r w ha hr
        have hx : tl (a.extract p.size a.size) = r := by
          rw [tl_extract, hr, ← tl_len p, List.drop_left]
          have := congrArg List.length hr
          rw [List.length_append, tl_len, tl_len] at this
          apply List.take_of_length_le
          rw [tl_len]; omega
        have hsz : (a.extract p.size a.size).size = r.length := by rw [← tl_len, hx]
        cases r with
        | nil => exact absurd (by rw [List.append_nil] at hr; exact hr) h2
        | cons x r =>
          have hlt : 0 < (a.extract p.size a.size).size := by rw [hsz]; simp
          have e0 := tl_at _ 0 hlt
          rw [hx] at e0
          simp at e0
          have hU : underB (tl a) (tl p) = decide ((x.toNat : Int) = 47) := by
            by_cases hxx : x = 47
            · subst hxx
              rw [underB_iff.2 (.inr (.inr ⟨r, hr⟩))]; rfl
            · have : underB (tl a) (tl p) = false := by
                rw [Bool.eq_false_iff]
                intro q
                rcases underB_iff.1 q with q | q | ⟨r', q⟩
                · exact h1 q
                · exact h2 q
                · rw [hr] at q; simp at q; exact hxx q.1
              rw [this, eq_comm]
              simp only [decide_eq_false_iff_not]
              intro q; exact hxx (UInt8.toNat_inj.1 (by show x.toNat = 47; omega))
          rw [hU]
          have hltI : (0 : Int) < ((a.extract p.size a.size).size : Int) := by omega
          clear hU hr hx hsz h2
          generalize a.extract p.size a.size = c at *
          go_enter Try.func23, Try.ntmps23
          go_wp2_with (go_at_call 63; refine C.mono ?_; rintro e w1 ⟨rfl, rfl⟩)
          go_ret
          refine ⟨?_, rfl⟩
          show Ending.returned (Value.bool _) = _
          simp [← e0]
          rfl
      · have C := cutPrefix_no a p w ha hp (fun r q => h3 ⟨r, q⟩)
        have : underB (tl a) (tl p) = false := by
          rw [Bool.eq_false_iff]
          intro q
          rcases underB_iff.1 q with q | q | ⟨r', q⟩
          · exact h1 q
          · exact h2 q
          · exact h3 ⟨_, q⟩
        rw [this]
        go_enter Try.func23, Try.ntmps23
        go_wp2_with (go_at_call 63; refine C.mono ?_; rintro e w1 ⟨rfl, rfl⟩)
        go_ret
        exact ⟨rfl, rfl⟩
end Go.Proofs.Ytjkbhfkeagfhbaa
namespace Go.Proofs.Ytjkbhfkeagfhbaa
open Go.RowKit

set_option maxHeartbeats 1000000 in
set_option maxRecDepth 100000 in
theorem pcount_any (s : ByteArray) (w : World) :
    Calls Try.prog 107 #[.string s, .string ⟨#[47]⟩] w fun e w' => e = .returned (.int .i64 ((tl s).count 47 : Nat)) ∧ w' = w := by
  rw [show (tl s).count 47 = Lib.countByte s.data.toList (47 : Int).toNat.toUInt8 by rw [tl, ByteArray.toList_eq]; rfl]
  go_enter Try.func107, Try.ntmps107
  go_wp2
  rw [run_callFunc_extern Try.func123 (by kernel_rfl) (by kernel_rfl) (by kernel_rfl) (e := Extern.BytealgCount.count) (by kernel_rfl), Lib.run_countString]
  simp only [Result.andThen]
  rw [Oper.upon_value]
  go_wp2
  go_ret
  exact ⟨rfl, rfl⟩

set_option maxHeartbeats 1000000 in
set_option maxRecDepth 100000 in
theorem countPieces_any (s : ByteArray) (w : World) (hs : s.size ≤ 1152921504606846976) :
    Calls Try.prog 85 #[.string s] w fun e w' => e = .returned (.int .i64 ((pieces (tl s)).length : Nat)) ∧ w' = w := by
  have C := fun W => pcount_any s W
  have hc : (tl s).count 47 ≤ s.size := by rw [← tl_len]; exact List.count_le_length
  by_cases h0 : s.toList = []
  · have b0 : s.toList.isEmpty = true := by simpa using h0
    rw [show pieces (tl s) = [] by unfold pieces; rw [if_pos h0]]
    go_enter Try.func85, Try.ntmps85
    go_wp2
    go_ret
    exact ⟨rfl, rfl⟩
  · have b0 : s.toList.isEmpty = false := by simpa using h0
    rw [show (pieces (tl s)).length = (tl s).count 47 + 1 by unfold pieces; rw [if_neg h0, cuts_len]]
    generalize (tl s).count 47 = z at *
    go_enter Try.func85, Try.ntmps85
    go_wp2_with (go_at_call 107; refine (C _).mono ?_; rintro e w' ⟨rfl, rfl⟩)
    go_ret
    exact ⟨rfl, rfl⟩
end Go.Proofs.Ytjkbhfkeagfhbaa
namespace Go.Proofs.Ytjkbhfkeagfhbaa
open Go.RowKit

theorem madeRow (lo : Nat) (w : World) (k : Nat) (hlo : lo ≤ w.heap.size) (hk : k ≤ 2000000) : (w.alloc (.cells (madeCells #[.string ⟨#[]⟩] k) 9)).ownsRow lo 9 1 (.slice (some ⟨w.heap.size, 0, none⟩) 0 k) 0 [] :=
  World.ownsRow_made w _ k hlo (by unfold maxLen; omega) (by rw [size_madeCells, Nat.mul_one])

theorem seqA (s : ByteArray) (w : World) (k : Nat) (hs : s.size ≤ 1048576) (hk : k ≤ 2000000) :
    Calls Try.prog 109 #[.slice (some ⟨w.heap.size, 0, none⟩) 0 k, .func (.func 108) #[] #[.pointer (some ⟨w.heap.size + 1, 0, none⟩)]] ((w.alloc (.cells (madeCells #[.string ⟨#[]⟩] k) 9)).alloc (.cells #[.string s] 9)).drew
      fun e w' => ∃ v L, e = .returned v ∧ OwnsT w' w.heap.size v L ∧ L.map tl = pieces (tl s) ∧ Below w.heap.size w w' := by
  refine (appendSeq_any w.heap.size (w.heap.size + 1) _ s ((w.alloc (.cells (madeCells #[.string ⟨#[]⟩] k) 9)).alloc (.cells #[.string s] 9)).drew hs (World.ownsRow.drew (World.ownsRow.alloc (madeRow w.heap.size w k (Nat.le_refl _) hk) _)) (by simp; omega) ?_ (by simp [Value.ownBlock])).mono ?_
  · show ((w.alloc (.cells (madeCells #[.string ⟨#[]⟩] k) 9)).alloc (.cells #[.string s] 9)).heap[w.heap.size + 1]? = _
    have := World.alloc_heap_new (w.alloc (.cells (madeCells #[.string ⟨#[]⟩] k) 9)) (.cells #[.string s] 9)
    rw [World.size_alloc] at this
    exact this
  · rintro e w' ⟨v, L, rfl, h1, h2, h3⟩
    refine ⟨v, L, rfl, h1, h2, Below.trans ?_ h3⟩
    exact (((Below.refl _ w).alloc (Nat.le_refl _) _).alloc (by simp) _).trans ⟨rfl, rfl, rfl, Nat.le_refl _, fun _ _ => rfl⟩
theorem seqB (s : ByteArray) (w : World) (k : Nat) (hs : s.size ≤ 1048576) (hk : k ≤ 2000000) :
    Calls Try.prog 109 #[.slice (some ⟨w.heap.size + 1, 0, none⟩) 0 k, .func (.func 108) #[] #[.pointer (some ⟨w.heap.size, 0, none⟩)]] ((w.alloc (.cells #[.string s] 9)).alloc (.cells (madeCells #[.string ⟨#[]⟩] k) 9)).drew
      fun e w' => ∃ v L, e = .returned v ∧ OwnsT w' w.heap.size v L ∧ L.map tl = pieces (tl s) ∧ Below w.heap.size w w' := by
  have hr := madeRow w.heap.size (w.alloc (.cells #[.string s] 9)) k (by simp) hk
  rw [World.size_alloc] at hr
  refine (appendSeq_any w.heap.size w.heap.size _ s ((w.alloc (.cells #[.string s] 9)).alloc (.cells (madeCells #[.string ⟨#[]⟩] k) 9)).drew hs (World.ownsRow.drew hr) (by simp; omega) ?_ (by simp [Value.ownBlock])).mono ?_
  · show ((w.alloc (.cells #[.string s] 9)).alloc (.cells (madeCells #[.string ⟨#[]⟩] k) 9)).heap[w.heap.size]? = _
    rw [Below.heap_alloc _ _ _ (by simp)]
    exact World.alloc_heap_new w _
  · rintro e w' ⟨v, L, rfl, h1, h2, h3⟩
    refine ⟨v, L, rfl, h1, h2, Below.trans ?_ h3⟩
    exact (((Below.refl _ w).alloc (Nat.le_refl _) _).alloc (by simp) _).trans ⟨rfl, rfl, rfl, Nat.le_refl _, fun _ _ => rfl⟩

set_option maxHeartbeats 2000000 in
set_option maxRecDepth 100000 in
theorem listPieces_any (s : ByteArray) (w : World) (hs : s.size ≤ 1048576) :
    Calls Try.prog 88 #[.string s] w fun e w' => ∃ v L, e = .returned v ∧ OwnsT w' w.heap.size v L ∧ L.map tl = pieces (tl s) ∧ Below w.heap.size w w' := by
  have C43 := fun W => countPieces_any s W (by omega)
  have C44 := fun W => piecesF_any s W
  have hk2 : (pieces (tl s)).length ≤ 2000000 := by
    unfold pieces
    split
    · simp
    · rw [cuts_len]; have := List.count_le_length (a := (47 : UInt8)) (l := tl s); rw [tl_len] at this; omega
  obtain ⟨i0, hi, hz0, hz1, hz2⟩ := info_parts Try.info9
  generalize hk : (pieces (tl s)).length = k at *
  have hM : ∀ W : World, (Instr.makeSlice 80 (.int .i64 0) (.int .i64 (k : Int))).run Try.prog W = .ok (.slice (some ⟨W.heap.size, 0, none⟩) 0 k) (W.alloc (.cells (madeCells #[.string ⟨#[]⟩] k) 9)) := by
    intro W
    have := run_make (P := Try.prog) W 80 9 i0 (.string ⟨#[]⟩) Try.underlying80 hi hz0 .i64 .i64 0 k (Int.le_refl _) (by omega) (by rw [hz2]; omega) (by omega)
    rw [hz1] at this
    simpa [Value.cells] using this
  have CA := seqA s w k hs hk2
  have CB := seqB s w k hs hk2
  go_enter Try.func88, Try.ntmps88
  go_wp2_with fail
  go_region_with (first
    | (go_at_call 85; refine (C43 _).mono ?_; rintro e w' ⟨rfl, rfl⟩)
    | (go_at_call 86; refine (C44 _).mono ?_; rintro e w' ⟨rfl, rfl⟩)
    | (go_at_call_of 109 (Value.slice (some ⟨w.heap.size, 0, none⟩) 0 k); refine CA.mono ?_; rintro e w' ⟨v, L, rfl, hL⟩)
    | (go_at_call 109; refine CB.mono ?_; rintro e w' ⟨v, L, rfl, hL⟩))
  all_goals
    have HL : Hid (OwnsT w' w.heap.size v L ∧ L.map tl = pieces (tl s) ∧ Below w.heap.size w w') := hL
    clear hL CA CB C43 C44 hM
    obtain ⟨ao, cap, hv, _⟩ := HL.out.1.has.form
    subst hv
    go_wp2
    go_ret
    exact ⟨_, L, rfl, HL.out.1, HL.out.2.1, HL.out.2.2⟩
end Go.Proofs.Ytjkbhfkeagfhbaa
