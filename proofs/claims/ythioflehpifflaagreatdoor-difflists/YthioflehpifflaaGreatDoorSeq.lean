/-
  slices.AppendSeq of path.pieces.
-/
import Derived.Test.YthioflehpifflaaGreatDoorIter
import Derived.Maps.OwnIn
import Derived.Maps.AppendAt
import Derived.RangeFuncBox
import Derived.Shelf.Abstract
import Derived.Shelf.RegionOpen
namespace Go.Proofs.YthioflehpifflaaGreatDoor
open Go.RowKit Go.Shelf
attribute [local go_sem] Oper.semAt_some

/-- what a round must keep for path.pieces -/
def KeepP (Bs : Nat) (W W' : World) : Prop := KeepsWalks W W' ∧ W'.heap[Bs]? = W.heap[Bs]?
theorem keepP_t {Bs : Nat} {A B C : World} (h : KeepP Bs A B) (k : KeepP Bs B C) : KeepP Bs A C := ⟨h.1.trans k.1, k.2.trans h.2⟩
theorem keepP_b {Bs : Nat} {w : World} (hB : Bs < w.heap.size) (W : World) (l : Nat) (o o' : Obj) (hl : w.heap.size ≤ l) (h : W.heap[l]? = some o) (_ : o.isCells = false) (hw : o.isWalk = false) : KeepP Bs W (W.putObj l o') :=
  ⟨KeepsWalks.putObj _ h hw, World.putObj_heap_other (by omega)⟩

theorem pieces_stops (n : Nat) (hn : 1 ≤ n) (Bs : Nat) (s : ByteArray) (hs : s.size ≤ 1152921504606846976) (w : World) (hB : w.heap[Bs]? = some (.cells #[.string s] 9)) :
    SeqStopsK Fence.wide n Tryz.prog 125 #[.pointer (some ⟨Bs, 0, none⟩)] (fun x : Str => #[Value.string x.1]) (KeepP Bs) (fun ys => tls ys = pieces (tl s)) (fun pre => tls pre <+: pieces (tl s)) (pieces (tl s)).length w := fun l J Jx W hW hJ _ hY h0 => by
  have hlt : Bs < w.heap.size := (Array.getElem?_eq_some_iff.1 hB).1
  refine pieces1_in Fence.wide n trivial rfl hn l Bs s hs J Jx W hJ hY ?_ h0
  have hc : w.cell? ⟨Bs, 0, none⟩ = some (.string s) := by simp [World.cell?, hB]
  exact (hW.cell (p := ⟨Bs, 0, none⟩) hlt).trans hc

set_option maxRecDepth 100000 in
set_option maxHeartbeats 2000000 in
theorem appendSeq_any (lo Bs : Nat) (v0 : Value) (s : ByteArray) (w : World) (hs : s.size ≤ 1048576) (hrow0 : w.ownsRow lo 9 1 v0 0 []) (hlo : lo ≤ w.heap.size) (hB : w.heap[Bs]? = some (.cells #[.string s] 9)) (hne : v0.ownBlock ≠ some Bs) :
    Calls Tryz.prog 126 #[v0, .func (.func 125) #[] #[.pointer (some ⟨Bs, 0, none⟩)]] w fun e w' => ∃ v L, e = .returned v ∧ OwnsT w' lo v L ∧ L.map tl = pieces (tl s) ∧ Below lo w w' := by
  obtain ⟨i0, hi, hz0, hz1, hz2⟩ := info_parts Tryz.info9
  obtain ⟨ao, cap, rfl⟩ : ∃ ao cap, v0 = .slice ao 0 cap := by
    obtain ⟨_, h | ⟨g, cap, cur, hv, _⟩⟩ := hrow0
    · exact ⟨none, 0, h.1⟩
    · exact ⟨_, cap, hv⟩
  have hlt : Bs < w.heap.size := (Array.getElem?_eq_some_iff.1 hB).1
  have hpl : (pieces (tl s)).length ≤ s.size + 1 := by
    unfold pieces
    split
    · simp
    · rw [cuts_len, ← tl_len]; have := List.count_le_length (a := (47 : UInt8)) (l := tl s); omega
  refine (callsIn_wide (n := 3)).1 ?_
  refine callsIn_of_wp_marks Tryz.func126 rfl trivial ?_ rfl
  simp only [Tryz.ntmps126, List.size_toArray, List.length_cons, List.length_nil, Nat.reduceAdd, Nat.reduceSub, Array.replicate_succ, Array.replicate_zero, List.push_toArray, List.append_toArray, List.nil_append, List.cons_append]
  gi_wp2
  have bO := Boxed.new w 79 (.slice ao 0 cap)
  have hB1 : (w.alloc (.cells #[(.slice ao 0 cap)] 79)).heap[Bs]? = some (.cells #[.string s] 9) := (Below.heap_alloc w _ Bs hlt).trans hB
  refine wpIn_rangeFunc_ownF rfl (by omega) (gf := 125) (lb := #[.pointer (some ⟨Bs, 0, none⟩)]) rfl trivial (enters_of Tryz.func125 (by kernel_rfl) rfl)
    (pieces_stops 2 (by omega) Bs s (by omega) _ hB1) (fun h k => keepP_t h k) (keepP_b (by simp; omega)) (Below.refl _ _) (fun _ => rfl)
    (fun pre W => (∃ v, Boxed W w.heap.size 79 v ∧ W.ownsRow lo 9 1 v pre.length (pre.map fun x => Value.string x.1) ∧ v.ownBlock ≠ some Bs) ∧ (W.heap[Bs]? = some (.cells #[.string s] 9) ∧ Below lo w W))
    (fun _ _ _ => False)
    (OwnFrom.and (Own.from (holdsRow_own lo w.heap.size 79 9 1 (fun pre : List Str => pre.length) (fun pre => pre.map fun x => Value.string x.1) (fun _ v => v.ownBlock ≠ some Bs)) _) (OwnFrom.and ?own (ownFrom_below hlo (by simp; omega))))
    (fun _ _ _ _ _ hs _ _ => hs)
    ⟨⟨_, bO, World.ownsRow.alloc hrow0 _, hne⟩, hB1, (Below.refl lo w).alloc hlo _⟩
    (fun x => { tmps := #[(.slice ao 0 cap), .func (.func 125) #[] #[.pointer (some ⟨Bs, 0, none⟩)], .pointer (some ⟨w.heap.size, 0, none⟩), undef, .slice none 0 0, .string x.1, .func (.func 125) #[] #[.pointer (some ⟨Bs, 0, none⟩)], .string x.1, undef, undef, undef, undef, undef], defers := [] }) ?assign ?body ?done ?stop
  case own =>
    intro _ X Y row h hg hr
    refine (hg.block Bs (Array.getElem?_eq_some_iff.1 h).1 (fun e => ?_)).trans h
    obtain ⟨_, o, ho, hc⟩ := hr Bs e.symm
    rw [h] at ho; cases ho; cases hc
  case assign =>
    intro l x W K hK
    gi_wp2
    exact hK
  case body =>
    rintro l pre x W ⟨⟨v, hv, hrow, hvn⟩, hBs, hb⟩ hpre
    have hc := hv.cell
    have hBsl := (Array.getElem?_eq_some_iff.1 hBs).1
    have hszW := hb.size
    gi_wp2_with (gi_at_builtin; refine wpListIn_append_own_at _ rfl _ _ 79 rfl lo 9 i0 (.string ⟨#[]⟩) 1 16 Tryz.underlying79 hi hz0 hz1 hz2 rfl (by decide) _ _ _ rfl (World.ownsRow.alloc hrow _) ⟨W.heap.size, 0, none⟩ 1 1 [.string x.1] rfl rfl one_new (by simp [Value.oneCell']) (by unfold maxLen; omega) (by omega) (by simp; omega) ?_; intro v' w1 hown' hgrow _ hat; obtain ⟨g', cap', rfl⟩ := ownsRow_succ hown'; obtain ⟨hv1, hv2, hr2, hk2, hb2⟩ := hv.appended (by decide) hrow (by omega) hlo hown' hgrow; have hc1 := hv1.cell; have hf1 := hv1.frozen)
    have hg2 : (W.alloc (.cells #[.string x.1] 9)).grownBy w1 v.ownBlock := hgrow
    have hat2 : (Value.slice (some ⟨g', 0, none⟩) (pre.length + 1) cap').ownBlock = v.ownBlock ∨ (Value.slice (some ⟨g', 0, none⟩) (pre.length + 1) cap').ownBlock = some (W.alloc (.cells #[.string x.1] 9)).heap.size := hat
    have hkb : (w1.setCell ⟨w.heap.size, 0, none⟩ (.slice (some ⟨g', 0, none⟩) (pre.length + 1) cap')).heap[Bs]? = W.heap[Bs]? := by
      rw [Below.heap_setCell _ _ _ _ (by show Bs ≠ w.heap.size; omega), hg2.block Bs (by simp; omega) (fun e => hvn e.symm)]
      exact Below.heap_alloc W _ Bs hBsl
    refine ⟨hk2, ⟨hk2.walks, hkb⟩, ⟨_, hv2, by simpa using hr2, ?_⟩, hkb.trans hBs, hb.trans hb2⟩
    rcases hat2 with q | q
    · rw [q]; exact hvn
    · rw [q]; simp; omega
  case done =>
    rintro D ys W hD hys ⟨⟨v, hv, hrow, _⟩, _, hb⟩ hK
    have hc := hv.cell
    gi_wp2
    refine ⟨by simp, .inl ⟨_, _, rfl, run_takeDeferred hK, ?_⟩⟩
    refine ⟨_, results_tmp rfl _ _ _, v, ys.map (fun x => x.1), rfl, ?_, by rw [← hys, List.map_map]; rfl, hb.trans (belowK_b (w := w) hlo W D _ _ (by simp at hD; omega) hK rfl rfl)⟩
    have := ownsRow_putObj hrow (.deferred none) hK rfl
    unfold OwnsT
    rw [List.length_map, List.map_map]
    exact this
  case stop =>
    rintro D c pre W _ _ h _
    exact h.elim
end Go.Proofs.YthioflehpifflaaGreatDoor
