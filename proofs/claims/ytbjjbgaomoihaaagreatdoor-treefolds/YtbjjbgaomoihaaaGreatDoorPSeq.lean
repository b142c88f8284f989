import Derived.Test.YtbjjbgaomoihaaaGreatDoorBDue
import Derived.RangeFuncNested
import Derived.RangeFuncBound
import Derived.LoopNIn
import Derived.LoopIn
import Derived.Maps.OwnIn
import Derived.Shelf.RegionOpen
set_option maxRecDepth 100000
set_option maxHeartbeats 2000000
namespace Go.Proofs.YtbjjbgaomoihaaaGreatDoor
open Go.RowKit
theorem drop_take_cut {l : By} {f k : Nat} (hf : f ≤ k) (hx : l[k]? = some 47) (hno : ∀ j, f ≤ j → j < k → l[j]? ≠ some 47) : cuts (l.drop f) = (l.drop f).take (k - f) :: cuts (l.drop (k + 1)) := by
  obtain ⟨hk, hx'⟩ := List.getElem?_eq_some_iff.1 hx
  have e : l.drop f = (l.drop f).take (k - f) ++ 47 :: l.drop (k + 1) := by
    conv => lhs; rw [← List.take_append_drop (k - f) (l.drop f)]
    rw [List.drop_drop, show f + (k - f) = k from by omega, List.drop_eq_getElem_cons hk, hx']
  rw [cuts]
  conv => lhs; rw [e]
  rw [cut_at]
  intro x hx1 e2
  subst e2
  obtain ⟨j, hj, ej⟩ := List.mem_iff_getElem.1 hx1
  rw [List.getElem_take, List.getElem_drop] at ej
  simp at hj
  exact hno (f + j) (by omega) (by omega) (by rw [List.getElem?_eq_getElem (by omega), ej])
theorem drop_no_cut {l : By} {f : Nat} (hno : ∀ j, f ≤ j → j < l.length → l[j]? ≠ some 47) : cuts (l.drop f) = [l.drop f] := by
  rw [cuts, cuts_none]
  intro x hx1 e2
  subst e2
  obtain ⟨j, hj, ej⟩ := List.mem_iff_getElem.1 hx1
  rw [List.getElem_drop] at ej
  simp at hj
  exact hno (f + j) (by omega) (by omega) (by rw [List.getElem?_eq_getElem (by omega), ej])
attribute [local go_sem] Oper.semAt_some
abbrev Str : Type := { x : ByteArray // x.size ≤ 9223372036854775807 }
abbrev tls (ys : List Str) : List By := ys.map fun x => tl x.1
theorem piecesF_any (s : ByteArray) (w : World) :
    Calls Tryz.prog 95 #[.string s] w fun e w' => e = .returned (.func (.func 139) #[] #[.pointer (some ⟨w.heap.size, 0, none⟩)]) ∧ w' = w.alloc (.cells #[.string s] 9) := by
  have hmf : ∀ (fn : Fn) (first cap : Array Value) (w : World), (Instr.makeFunc fn first cap).run Tryz.prog w = .ok (.func fn first cap) w := fun _ _ _ _ => rfl
  go_enter Tryz.func95, Tryz.ntmps95
  go_wp2
  go_ret
  exact ⟨rfl, rfl⟩
theorem grownBy_alloc1 (w : World) (o : Obj) : w.grownBy (w.alloc o) none := ⟨rfl, rfl, rfl, by simp, fun k hk _ => Below.heap_alloc w o k hk⟩
theorem iterAt_grown (w : World) (k : Nat) (s : ByteArray) (p : Nat) : w.grownBy (w.iterAt k s p) (some k) := grownBy_putObj' w k (.stringIter s p)
theorem pieces1_in (F : Fence) (n : Nat) (h62 : F.fn 139) (hro : F.round = none) (hn : 1 ≤ n) (l Bs : Nat) (s : ByteArray) (hs : s.size ≤ 1152921504606846976) (J Jx : List Str → World → Prop) (W : World) (hJ : AbidesFrom W.heap.size J)
    (hY : ∀ pre x W1, J pre W1 → pre.length < (pieces (tl s)).length → YieldAt F (n - 1) Tryz.prog l #[.string x.1] W1 fun e W' =>
      (e = .returned (.bool true) ∧ J (pre ++ [x]) W' ∧ (KeepsWalks W1 W' ∧ W'.heap[Bs]? = W1.heap[Bs]?)) ∨ (e = .returned (.bool false) ∧ Jx (pre ++ [x]) W'))
    (hc1 : W.cell? ⟨Bs, 0, none⟩ = some (.string s)) (h0 : J [] W) :
    CallsIn F n Tryz.prog 139 #[.func (.yield l) #[] #[], .pointer (some ⟨Bs, 0, none⟩)] W fun e W' => (∃ v, e = .returned v) ∧
      ((∃ ys, tls ys = pieces (tl s) ∧ J ys W') ∨ (∃ pre, tls pre <+: pieces (tl s) ∧ Jx pre W')) := by
  have hlen := tl_len s
  by_cases hz : s.toList = []
  · have b0 : s.toList.isEmpty = true := by simpa using hz
    refine callsIn_of_wp Tryz.func139 rfl h62 ?_ hro
    simp only [Tryz.ntmps139, List.size_toArray, List.length_cons, List.length_nil, Nat.reduceAdd, Nat.reduceSub, Array.replicate_succ, Array.replicate_zero, List.push_toArray, List.append_toArray, List.nil_append, List.cons_append]
    gi_wp2
    refine bodyPost_ret (results_none rfl _ _ _) rfl ?_
    exact ⟨⟨_, rfl⟩, .inl ⟨[], by unfold pieces; rw [if_pos hz]; rfl, h0⟩⟩
  · have b0 : s.toList.isEmpty = false := by simpa using hz
    have HP : Hid (pieces (tl s) = cuts (tl s)) := by show _ = _; unfold pieces; rw [if_neg hz]
    rw [HP.out] at hY
    have hBs : Bs < W.heap.size := World.block_lt_of_cell? W _ hc1
    refine callsIn_of_wp Tryz.func139 rfl h62 ?_ hro
    simp only [Tryz.ntmps139, List.size_toArray, List.length_cons, List.length_nil, Nat.reduceAdd, Nat.reduceSub, Array.replicate_succ, Array.replicate_zero, List.push_toArray, List.append_toArray, List.nil_append, List.cons_append]
    gi_wp2
    gi_loopw [3] (fun x wr => ∃ (f pos : Nat) (ys : List Str), x = .int .i64 f ∧ f ≤ pos ∧ pos ≤ s.size ∧ wr.heap[W.heap.size]? = some (.stringIter s pos) ∧ wr.cell? ⟨Bs, 0, none⟩ = some (.string s) ∧ Hid (J ys wr ∧ tls ys ++ cuts ((tl s).drop f) = cuts (tl s) ∧ ∀ j, f ≤ j → j < pos → (tl s)[j]? ≠ some 47))
      (fun _ wr => s.size - wr.iterPos W.heap.size)
    case atStart =>
      refine ⟨0, 0, [], rfl, Nat.le_refl _, Nat.zero_le _, World.iter_heap W s 0, ?_, ?_, by simp, fun j _ h => absurd h (Nat.not_lt_zero _)⟩
      · exact (((Below.refl W.heap.size W).alloc (Nat.le_refl _) _).cell (p := ⟨Bs, 0, none⟩) hBs).trans hc1
      · exact hJ _ _ _ none h0 (grownBy_alloc1 W _) (fun r e => by cases e)
    case round =>
      obtain ⟨f, pos, ys, rfl, hfp, hps, hit, hcb, HI⟩ := hrel
      have hksz : W.heap.size < wr.heap.size := (Array.getElem?_eq_some_iff.1 hit).1
      have hylen : ys.length < (cuts (tl s)).length := by
        rw [← HI.out.2.1]; simp [cuts]
      by_cases hp : pos < s.size
      · have hnx : ∀ ty, (Instr.next (.pointer (some ⟨W.heap.size, 0, none⟩)) true ty).run Tryz.prog wr = _ := fun ty => Lib.run_next_any_at wr W.heap.size s pos ty hit hp
        have hwd := decode_wide s pos hp
        have hin := decode_in s pos hp
        have hd1 := decode_le s pos
        have hit2 := Lib.iterAt_heap wr W.heap.size s pos (pos + (Utf8.decode s pos).2) hit
        have hJ2 : J ys (wr.iterAt W.heap.size s (pos + (Utf8.decode s pos).2)) := hJ _ _ _ _ HI.out.1 (iterAt_grown _ _ _ _) (fun r e => by cases e; exact ⟨Nat.le_refl _, _, hit, rfl⟩)
        have hcb2 : (wr.iterAt W.heap.size s (pos + (Utf8.decode s pos).2)).cell? ⟨Bs, 0, none⟩ = some (.string s) := by
          rw [← hcb]
          exact World.cell?_of_block (Lib.iterAt_other wr W.heap.size Bs s _ (by omega))
        by_cases h47 : (Utf8.decode s pos).1 = 47
        · have h1 : (Utf8.decode s pos).2 = 1 := decode_one s pos hp (by rw [(decode_small s pos hp 47 (by decide)).1 h47]; decide)
          rw [h1] at hnx hit2 hJ2 hcb2
          rw [h47] at hnx
          have hat : (tl s)[pos]? = some 47 := by
            rw [tl_get s pos hp]
            have := (decode_small s pos hp 47 (by decide)).1 h47
            rw [show s.get! pos = 47 from UInt8.toNat_inj.1 this]
          have hxs : (s.extract f pos).size ≤ 9223372036854775807 := by rw [← tl_len, tl_extract, List.length_take, List.length_drop, tl_len]; omega
          obtain ⟨fn, tmps, assign, body, hy, hR⟩ := hY ys ⟨s.extract f pos, hxs⟩ _ hJ2 hylen
          dsimp only at hy
          have HN : Hid (tls (ys ++ [⟨s.extract f pos, hxs⟩]) ++ cuts ((tl s).drop (pos + 1)) = cuts (tl s)) := by
            show _ = _
            rw [← HI.out.2.1, drop_take_cut hfp hat HI.out.2.2]
            simp [tls, tl_extract]
          have i1 : (f : Int) ≤ (pos : Int) := by omega
          have i2 : (pos : Int) ≤ (s.size : Int) := by omega
          have PRE : Hid (tls (ys ++ [⟨s.extract f pos, hxs⟩]) <+: pieces (tl s)) := by rw [HP.out, ← HN.out]; exact List.prefix_append _ _
          clear hJ2 HI hat hd1 hwd hin h47 h1
          gi_wp2
          refine hR.mono ?_
          rintro e W3 (⟨rfl, hJ3, hk3, hb3⟩ | ⟨rfl, hJx3⟩)
          · have it3 := hk3.same _ _ hit2 rfl
            have c3 : W3.cell? ⟨Bs, 0, none⟩ = some (.string s) := (World.cell?_of_block hb3).trans hcb2
            have HJ3 : Hid (J (ys ++ [⟨s.extract f pos, hxs⟩]) W3) := hJ3
            clear hJ3 hk3 hb3 hR hy
            gi_wp2
            go_roundw
            case rel => exact ⟨pos + 1, pos + 1, _, by go_num, Nat.le_refl _, hp, it3, c3, HJ3.out, HN.out, fun j a b => by omega⟩
            case measure => simp only [World.iterPos, it3, hit]; omega
          · have HX3 : Hid (Jx (ys ++ [⟨s.extract f pos, hxs⟩]) W3) := hJx3
            clear hJx3 hR hy
            gi_wp2
            refine bodyPost_ret (results_none rfl _ _ _) rfl ?_
            exact ⟨⟨_, rfl⟩, .inr ⟨_, PRE.out, HX3.out⟩⟩
        · have q1 : (((Utf8.decode s pos).1 : Int) != 47) = true := by simp; omega
          have HN : Hid (∀ j, f ≤ j → j < pos + (Utf8.decode s pos).2 → (tl s)[j]? ≠ some 47) := by
            intro j a b
            by_cases e : j < pos
            · exact HI.out.2.2 j a e
            · have n1 := decode_none s pos 47 hp (by decide) h47 j (by omega) b
              rw [tl_get s j (by omega)]
              intro q
              rw [Option.some.inj q] at n1
              exact n1 rfl
          have HI2 : Hid (tls ys ++ cuts ((tl s).drop f) = cuts (tl s)) := HI.out.2.1
          have HJ2 : Hid (J ys (wr.iterAt W.heap.size s (pos + (Utf8.decode s pos).2))) := hJ2
          clear hJ2 HI h47
          gi_wp2
          go_roundw
          case rel => exact ⟨f, _, ys, rfl, by omega, hin, hit2, hcb2, HJ2.out, HI2.out, HN.out⟩
          case measure => simp only [World.iterPos, hit2, hit]; omega
      · have hnx : ∀ ty, (Instr.next (.pointer (some ⟨W.heap.size, 0, none⟩)) true ty).run Tryz.prog wr = _ := fun ty => Lib.run_next_end_at wr W.heap.size s pos ty hit hp
        have hxs : (s.extract f s.size).size ≤ 9223372036854775807 := by rw [← tl_len, tl_extract, List.length_take, List.length_drop, tl_len]; omega
        obtain ⟨fn, tmps, assign, body, hy, hR⟩ := hY ys ⟨s.extract f s.size, hxs⟩ _ HI.out.1 hylen
        dsimp only at hy
        have HN : Hid (tls (ys ++ [⟨s.extract f s.size, hxs⟩]) = pieces (tl s)) := by
          show _ = _
          rw [HP.out, ← HI.out.2.1, drop_no_cut (fun j a b => HI.out.2.2 j a (by omega))]
          simp only [tls, List.map_append, List.map_cons, List.map_nil]
          rw [tl_extract, List.take_of_length_le (by rw [List.length_drop]; omega)]
        have i1 : (f : Int) ≤ (s.size : Int) := by omega
        clear HI
        gi_wp2
        refine hR.mono ?_
        rintro e W3 (⟨rfl, hJ3, hk3, hb3⟩ | ⟨rfl, hJx3⟩)
        · have HJ3 : Hid (J (ys ++ [⟨s.extract f s.size, hxs⟩]) W3) := hJ3
          clear hJ3 hk3 hb3 hR hy
          gi_wp2
          go_end0
          exact ⟨⟨_, rfl⟩, .inl ⟨_, HN.out, HJ3.out⟩⟩
        · have HX3 : Hid (Jx (ys ++ [⟨s.extract f s.size, hxs⟩]) W3) := hJx3
          clear hJx3 hR hy
          gi_wp2
          go_end0
          exact ⟨⟨_, rfl⟩, .inr ⟨_, by rw [HN.out]; exact List.prefix_rfl, HX3.out⟩⟩
open Go.Shelf
def KeepP (Bs : Nat) (W W' : World) : Prop := KeepsWalks W W' ∧ W'.heap[Bs]? = W.heap[Bs]?
theorem keepP_t {Bs : Nat} {A B C : World} (h : KeepP Bs A B) (k : KeepP Bs B C) : KeepP Bs A C := ⟨h.1.trans k.1, k.2.trans h.2⟩
theorem keepP_b {Bs : Nat} {w : World} (hB : Bs < w.heap.size) (W : World) (l : Nat) (o o' : Obj) (hl : w.heap.size ≤ l) (h : W.heap[l]? = some o) (_ : o.isCells = false) (hw : o.isWalk = false) : KeepP Bs W (W.putObj l o') :=
  ⟨KeepsWalks.putObj _ h hw, World.putObj_heap_other (by omega)⟩
theorem pieces_stops (n : Nat) (hn : 1 ≤ n) (Bs : Nat) (s : ByteArray) (hs : s.size ≤ 1152921504606846976) (w : World) (hB : w.heap[Bs]? = some (.cells #[.string s] 9)) :
    SeqStopsK Fence.wide n Tryz.prog 139 #[.pointer (some ⟨Bs, 0, none⟩)] (fun x : Str => #[Value.string x.1]) (KeepP Bs) (fun ys => tls ys = pieces (tl s)) (fun pre => tls pre <+: pieces (tl s)) (pieces (tl s)).length w := fun l J Jx W hW hJ _ hY h0 => by
  have hlt : Bs < w.heap.size := (Array.getElem?_eq_some_iff.1 hB).1
  refine pieces1_in Fence.wide n trivial rfl hn l Bs s hs J Jx W hJ hY ?_ h0
  have hc : w.cell? ⟨Bs, 0, none⟩ = some (.string s) := by simp [World.cell?, hB]
  exact (hW.cell (p := ⟨Bs, 0, none⟩) hlt).trans hc
theorem appendSeq_any (lo Bs : Nat) (v0 : Value) (s : ByteArray) (w : World) (hs : s.size ≤ 1048576) (hrow0 : w.ownsRow lo 9 1 v0 0 []) (hlo : lo ≤ w.heap.size) (hB : w.heap[Bs]? = some (.cells #[.string s] 9)) (hne : v0.ownBlock ≠ some Bs) :
    Calls Tryz.prog 140 #[v0, .func (.func 139) #[] #[.pointer (some ⟨Bs, 0, none⟩)]] w fun e w' => ∃ v L, e = .returned v ∧ OwnsT w' lo v L ∧ L.map tl = pieces (tl s) ∧ Below lo w w' := by
  obtain ⟨i0, hi, hz0, hz1, hz2⟩ := info_parts Tryz.info9
  obtain ⟨ao, cap, rfl⟩ : ∃ ao cap, v0 = .slice ao 0 cap := by
    obtain ⟨_, h | ⟨g, cap, cur, hv, _⟩⟩ := hrow0
    · exact ⟨none, 0, h.1⟩
    · exact ⟨_, cap, hv⟩
  have hlt : Bs < w.heap.size := (Array.getElem?_eq_some_iff.1 hB).1
  have hpl : (pieces (tl s)).length ≤ s.size + 1 := by
    unfold pieces
    split
    · simp
    · rw [cuts_len, ← tl_len]; have := List.count_le_length (a := (47 : UInt8)) (l := tl s); omega
  refine (callsIn_wide (n := 3)).1 ?_
  refine callsIn_of_wp_marks Tryz.func140 rfl trivial ?_ rfl
  simp only [Tryz.ntmps140, List.size_toArray, List.length_cons, List.length_nil, Nat.reduceAdd, Nat.reduceSub, Array.replicate_succ, Array.replicate_zero, List.push_toArray, List.append_toArray, List.nil_append, List.cons_append]
  gi_wp2
  have bO := Boxed.new w 56 (.slice ao 0 cap)
  have hB1 : (w.alloc (.cells #[(.slice ao 0 cap)] 56)).heap[Bs]? = some (.cells #[.string s] 9) := (Below.heap_alloc w _ Bs hlt).trans hB
  refine wpIn_rangeFunc_ownF rfl (by omega) (gf := 139) (lb := #[.pointer (some ⟨Bs, 0, none⟩)]) rfl trivial (enters_of Tryz.func139 (by kernel_rfl) rfl)
    (pieces_stops 2 (by omega) Bs s (by omega) _ hB1) (fun h k => keepP_t h k) (keepP_b (by simp; omega)) (Below.refl _ _) (fun _ => rfl)
    (fun pre W => (∃ v, Boxed W w.heap.size 56 v ∧ W.ownsRow lo 9 1 v pre.length (pre.map fun x => Value.string x.1) ∧ v.ownBlock ≠ some Bs) ∧ (W.heap[Bs]? = some (.cells #[.string s] 9) ∧ Below lo w W))
    (fun _ _ _ => False)
    (OwnFrom.and (Own.from (holdsRow_own lo w.heap.size 56 9 1 (fun pre : List Str => pre.length) (fun pre => pre.map fun x => Value.string x.1) (fun _ v => v.ownBlock ≠ some Bs)) _) (OwnFrom.and ?own (ownFrom_below hlo (by simp; omega))))
    (fun _ _ _ _ _ hs _ _ => hs)
    ⟨⟨_, bO, World.ownsRow.alloc hrow0 _, hne⟩, hB1, (Below.refl lo w).alloc hlo _⟩
    (fun x => { tmps := #[(.slice ao 0 cap), .func (.func 139) #[] #[.pointer (some ⟨Bs, 0, none⟩)], .pointer (some ⟨w.heap.size, 0, none⟩), undef, .slice none 0 0, .string x.1, .func (.func 139) #[] #[.pointer (some ⟨Bs, 0, none⟩)], .string x.1, undef, undef, undef, undef, undef], defers := [] }) ?assign ?body ?done ?stop
  case own =>
    intro _ X Y row h hg hr
    refine (hg.block Bs (Array.getElem?_eq_some_iff.1 h).1 (fun e => ?_)).trans h
    obtain ⟨_, o, ho, hc⟩ := hr Bs e.symm
    rw [h] at ho; cases ho; cases hc
  case assign =>
    intro l x W K hK
    gi_wp2
    exact hK
  case body =>
    rintro l pre x W ⟨⟨v, hv, hrow, hvn⟩, hBs, hb⟩ hpre
    have hc := hv.cell
    have hBsl := (Array.getElem?_eq_some_iff.1 hBs).1
    have hszW := hb.size
    gi_wp2_with (gi_at_builtin; refine wpListIn_append_own_at _ rfl _ _ 56 rfl lo 9 i0 (.string ⟨#[]⟩) 1 16 Tryz.underlying56 hi hz0 hz1 hz2 rfl (by decide) _ _ _ rfl (World.ownsRow.alloc hrow _) ⟨W.heap.size, 0, none⟩ 1 1 [.string x.1] rfl rfl one_new (by simp [Value.oneCell']) (by unfold maxLen; omega) (by omega) (by simp; omega) ?_; intro v' w1 hown' hgrow _ hat; obtain ⟨g', cap', rfl⟩ := ownsRow_succ hown'; obtain ⟨hv1, hv2, hr2, hk2, hb2⟩ := hv.appended (by decide) hrow (by omega) hlo hown' hgrow; have hc1 := hv1.cell; have hf1 := hv1.frozen)
    have hg2 : (W.alloc (.cells #[.string x.1] 9)).grownBy w1 v.ownBlock := hgrow
    have hat2 : (Value.slice (some ⟨g', 0, none⟩) (pre.length + 1) cap').ownBlock = v.ownBlock ∨ (Value.slice (some ⟨g', 0, none⟩) (pre.length + 1) cap').ownBlock = some (W.alloc (.cells #[.string x.1] 9)).heap.size := hat
    have hkb : (w1.setCell ⟨w.heap.size, 0, none⟩ (.slice (some ⟨g', 0, none⟩) (pre.length + 1) cap')).heap[Bs]? = W.heap[Bs]? := by
      rw [Below.heap_setCell _ _ _ _ (by show Bs ≠ w.heap.size; omega), hg2.block Bs (by simp; omega) (fun e => hvn e.symm)]
      exact Below.heap_alloc W _ Bs hBsl
    refine ⟨hk2, ⟨hk2.walks, hkb⟩, ⟨_, hv2, by simpa using hr2, ?_⟩, hkb.trans hBs, hb.trans hb2⟩
    rcases hat2 with q | q
    · rw [q]; exact hvn
    · rw [q]; simp; omega
  case done =>
    rintro D ys W hD hys ⟨⟨v, hv, hrow, _⟩, _, hb⟩ hK
    have hc := hv.cell
    gi_wp2
    refine ⟨by simp, .inl ⟨_, _, rfl, run_takeDeferred hK, ?_⟩⟩
    refine ⟨_, results_tmp rfl _ _ _, v, ys.map (fun x => x.1), rfl, ?_, by rw [← hys, List.map_map]; rfl, hb.trans (belowK_b (w := w) hlo W D _ _ (by simp at hD; omega) hK rfl rfl)⟩
    have := ownsRow_putObj hrow (.deferred none) hK rfl
    unfold OwnsT
    rw [List.length_map, List.map_map]
    exact this
  case stop =>
    rintro D c pre W _ _ h _
    exact h.elim
end Go.Proofs.YtbjjbgaomoihaaaGreatDoor
