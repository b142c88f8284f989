/-
  A LINE'S CUTTER: what lies in memory; words are laid, bytes are said.
-/
import Derived.Test.YtfigneaaeakbcaaDoorHMc
import Derived.Test.YtfigneaaeakbcaaDoorPr
import Derived.Deep.DeepCutAuto
import Derived.Deep.CutBlock
import Derived.Deep.LoopGhost
import Derived.StillTailTactics
namespace Go.Proofs.YtfigneaaeakbcaaDoor
open Go.RowKit Hm
attribute [local go_sem] Oper.semAt_some

theorem hid {p : Prop} (h : p) : Hid p := h
abbrev G (w w' : World) : Prop := Below w.heap.size w w'
theorem G.drew (w : World) : G w w.drew := below_drewN (Below.refl _ w) 1
theorem Tryd.mixed : Tryd.prog.follows .mixedOrders = true := by kernel_rfl
def wc (x : W) : Array Value := #[.int .i64 x.pl, .int .i64 x.kind, .string ⟨x.text.toArray⟩]
def bc (c : UInt8) : Array Value := #[.int .u8 c.toNat]
theorem ek50 : Ek 50 90 3 := ⟨Tryd.underlying50, by decide, by decide, .agg #[.int .i64 0, .int .i64 0, .string ⟨#[]⟩], 32, by rfl, by decide, by kernel_rfl⟩
theorem ek73 : Ek 73 5 1 := ⟨Tryd.underlying73, by decide, by decide, .int .u8 0, 1, by rfl, by decide, by kernel_rfl⟩
theorem wc_size (x : W) : (wc x).size = 3 := rfl
theorem txt (t : ByteArray) : (⟨(tl t).toArray⟩ : ByteArray) = t := by
  cases t with
  | mk d => simp [tl, ByteArray.toList_eq]
/-- a cutter -/
structure CutS (b : Nat) (line : ByteArray) (a : Nat) (x : Cs) (wv sv : Value) (w : World) : Prop where
  blk : w.heap[b]? = some (.cells #[.string line, .int .i64 a, wv, .int .i64 x.k, .int .i64 x.f, sv] 75 (0, 0))
  ws : OwL 90 3 w (b + 1) wv (x.ws.map wc)
  sy : OwL 5 1 w (b + 1) sv (x.s.map bc)
def Ct (b : Nat) (line : ByteArray) (a : Nat) (x : Cs) (w : World) : Prop := ∃ wv sv, CutS b line a x wv sv w
/-- what lies below is as it was, and walks through texts stand where they stood -/
structure Fr (b : Nat) (w w' : World) : Prop where
  bel : Below b w w'
  it : ∀ (g : Nat) (s : ByteArray) (p : Nat), w.heap[g]? = some (.stringIter s p) → w'.heap[g]? = some (.stringIter s p)
theorem Fr.refl (b : Nat) (w : World) : Fr b w w := ⟨Below.refl _ _, fun _ _ _ h => h⟩
theorem Fr.trans {b : Nat} {w w1 w2 : World} (h : Fr b w w1) (k : Fr b w1 w2) : Fr b w w2 := ⟨h.bel.trans k.bel, fun g s p e => k.it g s p (h.it g s p e)⟩
theorem Fr.of_g {b : Nat} {w w1 : World} (h : G w w1) (hb : b ≤ w.heap.size) : Fr b w w1 := ⟨h.mono hb, fun g _ _ e => (h.block g (Array.getElem?_eq_some_iff.1 e).1).trans e⟩
theorem own_cells {eT s : Nat} {w : World} {lo : Nat} {v : Value} {L : List (Array Value)} (h : OwL eT s w lo v L) {g : Nat} (hg : v.ownBlock = some g) : lo ≤ g ∧ ∃ cur, w.heap[g]? = some (.cells cur eT (0, 0)) := by
  obtain ⟨_, ⟨rfl, _⟩ | ⟨g', cap, cur, rfl, hl, hh, _⟩⟩ := h.own
  · cases hg
  · cases hg
    exact ⟨hl, cur, hh⟩
theorem own_apart {eT s eT' s' : Nat} {w : World} {lo lo' : Nat} {v u : Value} {L M : List (Array Value)} (h : OwL eT s w lo v L) (k : OwL eT' s' w lo' u M) (hne : eT ≠ eT') {g : Nat} (hg : v.ownBlock = some g) : u.ownBlock ≠ some g := fun e => by
  obtain ⟨_, c1, h1⟩ := own_cells h hg
  obtain ⟨_, c2, h2⟩ := own_cells k e
  rw [h1] at h2
  injection h2 with h2
  injection h2 with _ h2 _
  exact hne h2
theorem Kp.fr {S : Nat → Prop} {b : Nat} {w w1 : World} (h : Kp S w w1) (hb : b ≤ w.heap.size) (hS : ∀ g, S g → b ≤ g ∧ (g < w.heap.size → ∃ c t f, w.heap[g]? = some (.cells c t f))) : Fr b w w1 := by
  refine ⟨h.below hb fun g e => (hS g e).1, fun g s p e => ?_⟩
  have hl := (Array.getElem?_eq_some_iff.1 e).1
  rw [h.block g hl fun q => ?_]
  · exact e
  · obtain ⟨c, t, f, hc⟩ := (hS g q).2 hl
    rw [e] at hc
    cases hc
theorem CutS.lt {b : Nat} {line : ByteArray} {a : Nat} {x : Cs} {wv sv : Value} {w : World} (h : CutS b line a x wv sv w) : b < w.heap.size := (Array.getElem?_eq_some_iff.1 h.blk).1
theorem CutS.up {b : Nat} {line : ByteArray} {a : Nat} {x : Cs} {wv sv : Value} {w w' : World} (h : CutS b line a x wv sv w) (k : G w w') : CutS b line a x wv sv w' := ⟨(k.block b h.lt).trans h.blk, h.ws.up k, h.sy.up k⟩
theorem Ct.up {b : Nat} {line : ByteArray} {a : Nat} {x : Cs} {w w' : World} (h : Ct b line a x w) (k : G w w') : Ct b line a x w' := by
  obtain ⟨wv, sv, h⟩ := h
  exact ⟨wv, sv, h.up k⟩
/-- a cell of the cutter is written -/
theorem CutS.set {b : Nat} {line : ByteArray} {a : Nat} {x y : Cs} {wv sv : Value} {w w' : World} (h : CutS b line a x wv sv w) (k : Kp (fun g => g = b) w w') (hw : y.ws = x.ws) (hs : y.s = x.s) (hb : w'.heap[b]? = some (.cells #[.string line, .int .i64 a, wv, .int .i64 y.k, .int .i64 y.f, sv] 75 (0, 0))) : CutS b line a y wv sv w' := by
  refine ⟨hb, hw ▸ h.ws.block fun g e => ?_, hs ▸ h.sy.block fun g e => ?_⟩
  · have := (h.ws.lt g e)
    exact k.block g this.2 (by omega)
  · have := (h.sy.lt g e)
    exact k.block g this.2 (by omega)
theorem CutS.frb {b : Nat} {line : ByteArray} {a : Nat} {x : Cs} {wv sv : Value} {w w' : World} (h : CutS b line a x wv sv w) (k : Kp (fun g => g = b) w w') : Fr b w w' :=
  Kp.fr k (by have := h.lt; omega) fun g e => by
    have e : g = b := e
    subst e
    exact ⟨Nat.le_refl _, fun _ => ⟨_, _, _, h.blk⟩⟩
theorem backy0 : backB (opsAt Tryd.f43 0) = true := by kernel_rfl
theorem dsty0 : dstB (opsAt Tryd.f43 0) 33 = true := by kernel_rfl
theorem sizey0 : (opsAt Tryd.f43 0).size = 22 := by kernel_rfl
theorem freey00 : freeB (opsAt Tryd.f43 0) 0 = true := by kernel_rfl
theorem freey01 : freeB (opsAt Tryd.f43 0) 1 = true := by kernel_rfl
theorem freey02 : freeB (opsAt Tryd.f43 0) 2 = true := by kernel_rfl
theorem sy0_0 : say (opsAt Tryd.f43 0) 0 = some (some 8, .move (.tmp 0), none) := by kernel_rfl
theorem dy0_0 : slotB (opsAt Tryd.f43 0) 0 = some 8 := by kernel_rfl
theorem sy0_1 : say (opsAt Tryd.f43 0) 1 = some (some 9, .move (.tmp 0), none) := by kernel_rfl
theorem dy0_1 : slotB (opsAt Tryd.f43 0) 1 = some 9 := by kernel_rfl
theorem sy0_2 : say (opsAt Tryd.f43 0) 2 = some (some 10, .nilCheck (.tmp 9), none) := by kernel_rfl
theorem dy0_2 : slotB (opsAt Tryd.f43 0) 2 = some 10 := by kernel_rfl
theorem sy0_3 : say (opsAt Tryd.f43 0) 3 = some (some 11, .fieldAddr 75 (.tmp 10) 2, none) := by kernel_rfl
theorem dy0_3 : slotB (opsAt Tryd.f43 0) 3 = some 11 := by kernel_rfl
theorem sy0_4 : say (opsAt Tryd.f43 0) 4 = some (some 12, .load 50 (.tmp 11), none) := by kernel_rfl
theorem dy0_4 : slotB (opsAt Tryd.f43 0) 4 = some 12 := by kernel_rfl
theorem sy0_5 : say (opsAt Tryd.f43 0) 5 = some (some 13, .move (.tmp 0), none) := by kernel_rfl
theorem dy0_5 : slotB (opsAt Tryd.f43 0) 5 = some 13 := by kernel_rfl
theorem sy0_6 : say (opsAt Tryd.f43 0) 6 = some (some 14, .nilCheck (.tmp 13), none) := by kernel_rfl
theorem dy0_6 : slotB (opsAt Tryd.f43 0) 6 = some 14 := by kernel_rfl
theorem sy0_7 : say (opsAt Tryd.f43 0) 7 = some (some 15, .fieldAddr 75 (.tmp 14) 1, none) := by kernel_rfl
theorem dy0_7 : slotB (opsAt Tryd.f43 0) 7 = some 15 := by kernel_rfl
theorem sy0_8 : say (opsAt Tryd.f43 0) 8 = some (some 16, .load 3 (.tmp 15), none) := by kernel_rfl
theorem dy0_8 : slotB (opsAt Tryd.f43 0) 8 = some 16 := by kernel_rfl
theorem sy0_9 : say (opsAt Tryd.f43 0) 9 = some (some 17, .move (.tmp 0), none) := by kernel_rfl
theorem dy0_9 : slotB (opsAt Tryd.f43 0) 9 = some 17 := by kernel_rfl
theorem sy0_10 : say (opsAt Tryd.f43 0) 10 = some (some 18, .nilCheck (.tmp 17), none) := by kernel_rfl
theorem dy0_10 : slotB (opsAt Tryd.f43 0) 10 = some 18 := by kernel_rfl
theorem sy0_11 : say (opsAt Tryd.f43 0) 11 = some (some 19, .fieldAddr 75 (.tmp 18) 4, none) := by kernel_rfl
theorem dy0_11 : slotB (opsAt Tryd.f43 0) 11 = some 19 := by kernel_rfl
theorem sy0_12 : say (opsAt Tryd.f43 0) 12 = some (some 20, .load 3 (.tmp 19), none) := by kernel_rfl
theorem dy0_12 : slotB (opsAt Tryd.f43 0) 12 = some 20 := by kernel_rfl
theorem sy0_13 : say (opsAt Tryd.f43 0) 13 = some (some 21, .binOp .add 3 (.tmp 16) (.tmp 20) 3, none) := by kernel_rfl
theorem dy0_13 : slotB (opsAt Tryd.f43 0) 13 = some 21 := by kernel_rfl
theorem sy0_14 : say (opsAt Tryd.f43 0) 14 = some (some 22, .move (.tmp 1), none) := by kernel_rfl
theorem dy0_14 : slotB (opsAt Tryd.f43 0) 14 = some 22 := by kernel_rfl
theorem sy0_15 : say (opsAt Tryd.f43 0) 15 = some (some 23, .move (.tmp 2), none) := by kernel_rfl
theorem dy0_15 : slotB (opsAt Tryd.f43 0) 15 = some 23 := by kernel_rfl
theorem sy0_16 : say (opsAt Tryd.f43 0) 16 = some (some 24, .build 90 #[(0, .tmp 21), (1, .tmp 22), (2, .tmp 23)], none) := by kernel_rfl
theorem dy0_16 : slotB (opsAt Tryd.f43 0) 16 = some 24 := by kernel_rfl
theorem sy0_17 : say (opsAt Tryd.f43 0) 17 = some (some 25, .buildSlice 50 1 #[(0, .tmp 24)], none) := by kernel_rfl
theorem dy0_17 : slotB (opsAt Tryd.f43 0) 17 = some 25 := by kernel_rfl
theorem sy0_18 : say (opsAt Tryd.f43 0) 18 = some (some 26, .call { callee := .builtin .append, args := #[.tmp 12, .tmp 25], argTypes := #[50, 50] }, none) := by kernel_rfl
theorem dy0_18 : slotB (opsAt Tryd.f43 0) 18 = some 26 := by kernel_rfl
theorem sy0_19 : say (opsAt Tryd.f43 0) 19 = some (some 27, .nilCheck (.tmp 8), none) := by kernel_rfl
theorem dy0_19 : slotB (opsAt Tryd.f43 0) 19 = some 27 := by kernel_rfl
theorem sy0_20 : say (opsAt Tryd.f43 0) 20 = some (some 28, .fieldAddr 75 (.tmp 27) 2, none) := by kernel_rfl
theorem dy0_20 : slotB (opsAt Tryd.f43 0) 20 = some 28 := by kernel_rfl
theorem sy0_21 : say (opsAt Tryd.f43 0) 21 = some (none, .store 50 (.tmp 28) (.tmp 26), none) := by kernel_rfl
def Vy0 (b wn wk : Nat) (wa : Option Addr) (a f kd pq : Int) (tx : ByteArray) (r : Nat → Value) : Nat → Value
  | 0 => .pointer (some ⟨b, 0, none⟩)
  | 1 => .pointer (some ⟨b, 0, none⟩)
  | 2 => .pointer (some ⟨b, 0, none⟩)
  | 3 => .pointer (some ⟨b, 2, none⟩)
  | 4 => .slice wa wn wk
  | 5 => .pointer (some ⟨b, 0, none⟩)
  | 6 => .pointer (some ⟨b, 0, none⟩)
  | 7 => .pointer (some ⟨b, 1, none⟩)
  | 8 => .int .i64 a
  | 9 => .pointer (some ⟨b, 0, none⟩)
  | 10 => .pointer (some ⟨b, 0, none⟩)
  | 11 => .pointer (some ⟨b, 4, none⟩)
  | 12 => .int .i64 f
  | 13 => .int .i64 pq
  | 14 => .int .i64 kd
  | 15 => .string tx
  | 16 => .agg (#[.int .i64 pq, .int .i64 kd, .string tx] : Array Value)
  | 17 => (r 1)
  | 18 => (r 2)
  | 19 => .pointer (some ⟨b, 0, none⟩)
  | 20 => .pointer (some ⟨b, 2, none⟩)
  | 21 => undef
  | _ => undef
set_option maxHeartbeats 8000000 in
set_option maxRecDepth 100000 in
theorem regy0 (b wn wk : Nat) (wa : Option Addr) (a f kd pq : Int) (tx : ByteArray) (F0 F1 F2 F3 : (Nat → Value) → World → Prop) (B : World → Prop)  (t0 : Array Value) (wr : World) {Q : Exit → Act → World → Prop} (ht : t0.size = 33) (h0 : t0.getD 0 undef = .pointer (some ⟨b, 0, none⟩)) (h1 : t0.getD 1 undef = .int .i64 kd) (h2 : t0.getD 2 undef = .string tx)
    (hpq : IntKind.i64.wrap (a + f) = pq)
    (hb0 : ∀ r w, F0 r w → B w) (hb1 : ∀ r w, F1 r w → B w)
    (hs1 : ∀ r w, F0 r w → (#[.int .i64 pq, .int .i64 kd, .string tx] : Array Value).size = 3 ∧ F1 (ups r 1 (.slice (some ⟨w.heap.size, 0, none⟩) 1 1)) (w.alloc (.cells (#[.int .i64 pq, .int .i64 kd, .string tx] : Array Value) 90)))
    (ha2 : ∀ r w, F1 r w → ∃ u w', (Builtin.append_ #[50, 50] 50 #[.slice wa wn wk, r 1]).run Tryd.prog w = .ok u w' ∧ F2 (ups r 2 u) w')
    (hw3 : ∀ r w, F2 r w → (∃ o, w.cell? ⟨b, 2, none⟩ = some o) ∧ w.frozen? ⟨b, 2, none⟩ = false ∧ (∃ a n k, (r 2) = .slice a n k) ∧ F3 r (w.setCell ⟨b, 2, none⟩ (r 2)))
    (hl4 : ∀ w, B w → w.cell? ⟨b, 2, none⟩ = some (.slice wa wn wk))
    (hl8 : ∀ w, B w → w.cell? ⟨b, 1, none⟩ = some (.int .i64 a))
    (hl12 : ∀ w, B w → w.cell? ⟨b, 4, none⟩ = some (.int .i64 f))
    (hst0 : ∀ r, F0 r wr.drew)
    (hQ : ∀ r w, F3 r w → Q .normal ⟨fold (opsAt Tryd.f43 0) (Vy0 b wn wk wa a f kd pq tx r) t0 22, []⟩ w) : (Code.region 0 (opsAt Tryd.f43 0) true).wp Tryd.prog Q ⟨t0, []⟩ wr := by
  have hB : dstB (opsAt Tryd.f43 0) t0.size = true := by rw [ht]; exact dsty0
  have hBB : ∀ r done w, MC F0 [(17, F1)] r done w → B w := fun r done w h => MC.base hb0 (by simp only [List.mem_cons, List.not_mem_nil, or_false]; rintro x rfl; assumption) h
  refine inv_region (by kernel_rfl) (IE (opsAt Tryd.f43 0) (Vy0 b wn wk wa a f kd pq tx) t0 (MC F0 [(21, F3), (18, F2), (17, F1)] )) backy0 ⟨(fun _ => undef), t0, rfl, ⟨rfl, fun _ _ => rfl, fun _ _ _ _ _ h => by cases h⟩, MC.start (hst0 _)⟩ ?_ ?_
  rotate_left 1
  · rintro done a w ⟨r, t, rfl, hS, hM⟩ hall
    rw [hS.end hB hall, sizey0]
    exact hQ r w (MC.get (hall 21 (by rw [sizey0]; decide)) [] (by simp) hM)
  · rintro jz op done a w ho ⟨r, t, rfl, hS, hM⟩ hnd hdep hcl
    have e0 : t[0]?.getD undef = .pointer (some ⟨b, 0, none⟩) := (hS.old freey00).trans h0
    have e1 : t[1]?.getD undef = .int .i64 kd := (hS.old freey01).trans h1
    have e2 : t[2]?.getD undef = .string tx := (hS.old freey02).trans h2
    have hlt : jz < 22 := by rw [← sizey0]; exact (Array.getElem?_eq_some_iff.1 ho).1
    match jz, hlt, ho, hnd, hdep with
    | 0, _, ho, hnd, hdep =>
      obtain ⟨hd, hop, hgd⟩ := say_of sy0_0 ho
      refine ie_val r hB ho (wanted_none hgd) hd hS (hM.step (by rfl)) ?_
      unfold execOp
      simp only [hop]
      simp [e0, Vy0, go_sem]
    | 1, _, ho, hnd, hdep =>
      obtain ⟨hd, hop, hgd⟩ := say_of sy0_1 ho
      refine ie_val r hB ho (wanted_none hgd) hd hS (hM.step (by rfl)) ?_
      unfold execOp
      simp only [hop]
      simp [e0, Vy0, go_sem]
    | 2, _, ho, hnd, hdep =>
      obtain ⟨hd, hop, hgd⟩ := say_of sy0_2 ho
      have x9 : t[9]?.getD undef = _ := hS.at dy0_1 (waits (j := 1) (by kernel_rfl) ho hdep)
      simp only [Vy0] at x9
      refine ie_val r hB ho (wanted_none hgd) hd hS (hM.step (by rfl)) ?_
      unfold execOp
      simp only [hop]
      simp [x9, Vy0, go_sem]
    | 3, _, ho, hnd, hdep =>
      obtain ⟨hd, hop, hgd⟩ := say_of sy0_3 ho
      have x10 : t[10]?.getD undef = _ := hS.at dy0_2 (waits (j := 2) (by kernel_rfl) ho hdep)
      simp only [Vy0] at x10
      refine ie_val r hB ho (wanted_none hgd) hd hS (hM.step (by rfl)) ?_
      unfold execOp
      simp only [hop]
      simp [x10, Vy0, go_sem]
    | 4, _, ho, hnd, hdep =>
      obtain ⟨hd, hop, hgd⟩ := say_of sy0_4 ho
      have x11 : t[11]?.getD undef = _ := hS.at dy0_3 (waits (j := 3) (by kernel_rfl) ho hdep)
      simp only [Vy0] at x11
      have ny18 : done 18 = false := not_yet (k := 4) (j := 18) (by kernel_rfl) hcl hnd
      have ny21 : done 21 = false := not_yet (k := 4) (j := 21) (by kernel_rfl) hcl hnd
      have cz := hl4 w (hBB _ _ _ (MC.cut [(21, F3), (18, F2)] (by simp [ny18, ny21]) hM))
      refine ie_val r hB ho (wanted_none hgd) hd hS (hM.step (by rfl)) ?_
      unfold execOp
      simp only [hop]
      simp [x11, Vy0, cz, go_sem]
    | 5, _, ho, hnd, hdep =>
      obtain ⟨hd, hop, hgd⟩ := say_of sy0_5 ho
      refine ie_val r hB ho (wanted_none hgd) hd hS (hM.step (by rfl)) ?_
      unfold execOp
      simp only [hop]
      simp [e0, Vy0, go_sem]
    | 6, _, ho, hnd, hdep =>
      obtain ⟨hd, hop, hgd⟩ := say_of sy0_6 ho
      have x13 : t[13]?.getD undef = _ := hS.at dy0_5 (waits (j := 5) (by kernel_rfl) ho hdep)
      simp only [Vy0] at x13
      refine ie_val r hB ho (wanted_none hgd) hd hS (hM.step (by rfl)) ?_
      unfold execOp
      simp only [hop]
      simp [x13, Vy0, go_sem]
    | 7, _, ho, hnd, hdep =>
      obtain ⟨hd, hop, hgd⟩ := say_of sy0_7 ho
      have x14 : t[14]?.getD undef = _ := hS.at dy0_6 (waits (j := 6) (by kernel_rfl) ho hdep)
      simp only [Vy0] at x14
      refine ie_val r hB ho (wanted_none hgd) hd hS (hM.step (by rfl)) ?_
      unfold execOp
      simp only [hop]
      simp [x14, Vy0, go_sem]
    | 8, _, ho, hnd, hdep =>
      obtain ⟨hd, hop, hgd⟩ := say_of sy0_8 ho
      have x15 : t[15]?.getD undef = _ := hS.at dy0_7 (waits (j := 7) (by kernel_rfl) ho hdep)
      simp only [Vy0] at x15
      have ny13 : done 13 = false := not_yet (k := 8) (j := 13) (by kernel_rfl) hcl hnd
      have ny16 : done 16 = false := not_yet (k := 13) (j := 16) (by kernel_rfl) hcl ny13
      have ny17 : done 17 = false := not_yet (k := 16) (j := 17) (by kernel_rfl) hcl ny16
      have ny18 : done 18 = false := not_yet (k := 17) (j := 18) (by kernel_rfl) hcl ny17
      have ny21 : done 21 = false := not_yet (k := 8) (j := 21) (by kernel_rfl) hcl hnd
      have cz := hl8 w (hBB _ _ _ (MC.cut [(21, F3), (18, F2)] (by simp [ny18, ny21]) hM))
      refine ie_val r hB ho (wanted_none hgd) hd hS (hM.step (by rfl)) ?_
      unfold execOp
      simp only [hop]
      simp [x15, Vy0, cz, go_sem]
    | 9, _, ho, hnd, hdep =>
      obtain ⟨hd, hop, hgd⟩ := say_of sy0_9 ho
      refine ie_val r hB ho (wanted_none hgd) hd hS (hM.step (by rfl)) ?_
      unfold execOp
      simp only [hop]
      simp [e0, Vy0, go_sem]
    | 10, _, ho, hnd, hdep =>
      obtain ⟨hd, hop, hgd⟩ := say_of sy0_10 ho
      have x17 : t[17]?.getD undef = _ := hS.at dy0_9 (waits (j := 9) (by kernel_rfl) ho hdep)
      simp only [Vy0] at x17
      refine ie_val r hB ho (wanted_none hgd) hd hS (hM.step (by rfl)) ?_
      unfold execOp
      simp only [hop]
      simp [x17, Vy0, go_sem]
    | 11, _, ho, hnd, hdep =>
      obtain ⟨hd, hop, hgd⟩ := say_of sy0_11 ho
      have x18 : t[18]?.getD undef = _ := hS.at dy0_10 (waits (j := 10) (by kernel_rfl) ho hdep)
      simp only [Vy0] at x18
      refine ie_val r hB ho (wanted_none hgd) hd hS (hM.step (by rfl)) ?_
      unfold execOp
      simp only [hop]
      simp [x18, Vy0, go_sem]
    | 12, _, ho, hnd, hdep =>
      obtain ⟨hd, hop, hgd⟩ := say_of sy0_12 ho
      have x19 : t[19]?.getD undef = _ := hS.at dy0_11 (waits (j := 11) (by kernel_rfl) ho hdep)
      simp only [Vy0] at x19
      have ny13 : done 13 = false := not_yet (k := 12) (j := 13) (by kernel_rfl) hcl hnd
      have ny16 : done 16 = false := not_yet (k := 13) (j := 16) (by kernel_rfl) hcl ny13
      have ny17 : done 17 = false := not_yet (k := 16) (j := 17) (by kernel_rfl) hcl ny16
      have ny18 : done 18 = false := not_yet (k := 17) (j := 18) (by kernel_rfl) hcl ny17
      have ny21 : done 21 = false := not_yet (k := 12) (j := 21) (by kernel_rfl) hcl hnd
      have cz := hl12 w (hBB _ _ _ (MC.cut [(21, F3), (18, F2)] (by simp [ny18, ny21]) hM))
      refine ie_val r hB ho (wanted_none hgd) hd hS (hM.step (by rfl)) ?_
      unfold execOp
      simp only [hop]
      simp [x19, Vy0, cz, go_sem]
    | 13, _, ho, hnd, hdep =>
      obtain ⟨hd, hop, hgd⟩ := say_of sy0_13 ho
      have x16 : t[16]?.getD undef = _ := hS.at dy0_8 (waits (j := 8) (by kernel_rfl) ho hdep)
      simp only [Vy0] at x16
      have x20 : t[20]?.getD undef = _ := hS.at dy0_12 (waits (j := 12) (by kernel_rfl) ho hdep)
      simp only [Vy0] at x20
      refine ie_val r hB ho (wanted_none hgd) hd hS (hM.step (by rfl)) ?_
      unfold execOp
      simp only [hop]
      simp [x16, x20, Vy0, hpq, go_sem]
    | 14, _, ho, hnd, hdep =>
      obtain ⟨hd, hop, hgd⟩ := say_of sy0_14 ho
      refine ie_val r hB ho (wanted_none hgd) hd hS (hM.step (by rfl)) ?_
      unfold execOp
      simp only [hop]
      simp [e1, Vy0, go_sem]
    | 15, _, ho, hnd, hdep =>
      obtain ⟨hd, hop, hgd⟩ := say_of sy0_15 ho
      refine ie_val r hB ho (wanted_none hgd) hd hS (hM.step (by rfl)) ?_
      unfold execOp
      simp only [hop]
      simp [e2, Vy0, go_sem]
    | 16, _, ho, hnd, hdep =>
      obtain ⟨hd, hop, hgd⟩ := say_of sy0_16 ho
      have x21 : t[21]?.getD undef = _ := hS.at dy0_13 (waits (j := 13) (by kernel_rfl) ho hdep)
      simp only [Vy0] at x21
      have x22 : t[22]?.getD undef = _ := hS.at dy0_14 (waits (j := 14) (by kernel_rfl) ho hdep)
      simp only [Vy0] at x22
      have x23 : t[23]?.getD undef = _ := hS.at dy0_15 (waits (j := 15) (by kernel_rfl) ho hdep)
      simp only [Vy0] at x23
      refine ie_val r hB ho (wanted_none hgd) hd hS (hM.step (by rfl)) ?_
      unfold execOp
      simp only [hop]
      simp [x21, x22, x23, Vy0, go_sem]
    | 17, _, ho, hnd, hdep =>
      obtain ⟨hd, hop, hgd⟩ := say_of sy0_17 ho
      have x24 : t[24]?.getD undef = _ := hS.at dy0_16 (waits (j := 16) (by kernel_rfl) ho hdep)
      simp only [Vy0] at x24
      have ny18 : done 18 = false := not_yet (k := 17) (j := 18) (by kernel_rfl) hcl hnd
      have ny21 : done 21 = false := not_yet (k := 17) (j := 21) (by kernel_rfl) hcl hnd
      have hF := MC.get0 [(21, F3), (18, F2), (17, F1)] (by simp [hnd, ny18, ny21]) hM
      refine ie_valL r (ups r 1 (.slice (some ⟨w.heap.size, 0, none⟩) 1 1)) (w.alloc (.cells (#[.int .i64 pq, .int .i64 kd, .string tx] : Array Value) 90)) hB ho (wanted_none hgd) hd hS (fun k hk => ?_) (MC.put (hs1 r w hF).2 [(21, F3), (18, F2)] (by simp [ny18, ny21])) ?_
      · skip
        have q17 : k ≠ 17 := fun e => by rw [e, hnd] at hk; cases hk
        unfold Vy0
        split <;> first | rfl | exact absurd rfl q17
      · show _ = Result.ok (Next.value (Vy0 b wn wk wa a f kd pq tx (ups r 1 (.slice (some ⟨w.heap.size, 0, none⟩) 1 1)) 17)) _
        simp only [Vy0, ups_same]
        exact exec_slice1 ek50 _ hop (.agg (#[.int .i64 pq, .int .i64 kd, .string tx] : Array Value)) (#[.int .i64 pq, .int .i64 kd, .string tx] : Array Value) (by show t.getD 24 undef = _; rw [Array.getD_eq_getD_getElem?]; exact x24) rfl (hs1 r w hF).1 w _ rfl
    | 18, _, ho, hnd, hdep =>
      obtain ⟨hd, hop, hgd⟩ := say_of sy0_18 ho
      have x12 : t[12]?.getD undef = _ := hS.at dy0_4 (waits (j := 4) (by kernel_rfl) ho hdep)
      simp only [Vy0] at x12
      have x25 : t[25]?.getD undef = _ := hS.at dy0_17 (waits (j := 17) (by kernel_rfl) ho hdep)
      simp only [Vy0] at x25
      have ny21 : done 21 = false := not_yet (k := 18) (j := 21) (by kernel_rfl) hcl hnd
      have a17 : done 17 = true := waits (j := 17) (by kernel_rfl) ho hdep
      have hF := MC.get a17 [(21, F3), (18, F2)] (by simp [hnd, ny21]) hM
      obtain ⟨u9, w9, hr9, hF9⟩ := ha2 r w hF
      have ht9 : op.type = 50 := by have := congrArg (·.map (·.type)) ho; simpa using this.symm.trans (show _ = some 50 from by kernel_rfl)
      refine ie_valL r (ups r 2 u9) w9 hB ho (wanted_none hgd) hd hS (fun k hk => ?_) (MC.put hF9 [(21, F3)] (by simp [ny21])) ?_
      · skip
        have q18 : k ≠ 18 := fun e => by rw [e, hnd] at hk; cases hk
        unfold Vy0
        split <;> first | rfl | exact absurd rfl q18
      · show _ = Result.ok (Next.value (Vy0 b wn wk wa a f kd pq tx (ups r 2 u9) 18)) _
        simp only [Vy0, ups_same]
        exact exec_app (a := ⟨t, []⟩) (v := .slice wa wn wk) (src := r 1) (v' := u9) hop (by show t.getD 12 undef = _; rw [Array.getD_eq_getD_getElem?]; exact x12) (by show t.getD 25 undef = _; rw [Array.getD_eq_getD_getElem?]; exact x25) (by rw [ht9]; exact hr9)
    | 19, _, ho, hnd, hdep =>
      obtain ⟨hd, hop, hgd⟩ := say_of sy0_19 ho
      have x8 : t[8]?.getD undef = _ := hS.at dy0_0 (waits (j := 0) (by kernel_rfl) ho hdep)
      simp only [Vy0] at x8
      refine ie_val r hB ho (wanted_none hgd) hd hS (hM.step (by rfl)) ?_
      unfold execOp
      simp only [hop]
      simp [x8, Vy0, go_sem]
    | 20, _, ho, hnd, hdep =>
      obtain ⟨hd, hop, hgd⟩ := say_of sy0_20 ho
      have x27 : t[27]?.getD undef = _ := hS.at dy0_19 (waits (j := 19) (by kernel_rfl) ho hdep)
      simp only [Vy0] at x27
      refine ie_val r hB ho (wanted_none hgd) hd hS (hM.step (by rfl)) ?_
      unfold execOp
      simp only [hop]
      simp [x27, Vy0, go_sem]
    | 21, _, ho, hnd, hdep =>
      obtain ⟨hd, hop, hgd⟩ := say_of sy0_21 ho
      have x28 : t[28]?.getD undef = _ := hS.at dy0_20 (waits (j := 20) (by kernel_rfl) ho hdep)
      simp only [Vy0] at x28
      have x26 : t[26]?.getD undef = _ := hS.at dy0_18 (waits (j := 18) (by kernel_rfl) ho hdep)
      simp only [Vy0] at x26
      have a18 : done 18 = true := waits (j := 18) (by kernel_rfl) ho hdep
      have hF := MC.get a18 [(21, F3)] (by simp [hnd]) hM
      obtain ⟨⟨o9, ho9⟩, hf9, ⟨a9, n9, k9, e9⟩, hF9⟩ := hw3 r w hF
      refine ie_store (w' := w.setCell ⟨b, 2, none⟩ (r 2)) r ho (wanted_none hgd) hd hS (MC.put hF9 [] (by simp)) ?_
      unfold execOp
      simp only [hop]
      simp [x28, x26, ho9, hf9, e9, go_sem]
theorem foldy0 (b wn wk : Nat) (wa : Option Addr) (a f kd pq : Int) (tx : ByteArray) (r : Nat → Value) (t0 : Array Value) : fold (opsAt Tryd.f43 0) (Vy0 b wn wk wa a f kd pq tx r) t0 22 = (((((((((((((((((((((t0.setIfInBounds 8 (.pointer (some ⟨b, 0, none⟩))).setIfInBounds 9 (.pointer (some ⟨b, 0, none⟩))).setIfInBounds 10 (.pointer (some ⟨b, 0, none⟩))).setIfInBounds 11 (.pointer (some ⟨b, 2, none⟩))).setIfInBounds 12 (.slice wa wn wk)).setIfInBounds 13 (.pointer (some ⟨b, 0, none⟩))).setIfInBounds 14 (.pointer (some ⟨b, 0, none⟩))).setIfInBounds 15 (.pointer (some ⟨b, 1, none⟩))).setIfInBounds 16 (.int .i64 a)).setIfInBounds 17 (.pointer (some ⟨b, 0, none⟩))).setIfInBounds 18 (.pointer (some ⟨b, 0, none⟩))).setIfInBounds 19 (.pointer (some ⟨b, 4, none⟩))).setIfInBounds 20 (.int .i64 f)).setIfInBounds 21 (.int .i64 pq)).setIfInBounds 22 (.int .i64 kd)).setIfInBounds 23 (.string tx)).setIfInBounds 24 (.agg (#[.int .i64 pq, .int .i64 kd, .string tx] : Array Value))).setIfInBounds 25 ((r 1))).setIfInBounds 26 ((r 2))).setIfInBounds 27 (.pointer (some ⟨b, 0, none⟩))).setIfInBounds 28 (.pointer (some ⟨b, 2, none⟩))) := by kernel_rfl

set_option maxRecDepth 100000 in
set_option maxHeartbeats 4000000 in
theorem lay_any {b : Nat} {line : ByteArray} {a : Nat} {x : Cs} {w : World} (h : Ct b line a x w) (kd st : Nat) (t : ByteArray) (ha : a + x.f < 1000000000) (hn : x.ws.length < 1000000) :
    Calls Tryd.prog 43 #[.pointer (some ⟨b, 0, none⟩), .int .i64 (kd : Int), .string t, .int .i64 (st : Int)] w fun e w' => e = .returned (.tuple #[]) ∧ Ct b line a (layC x a kd (tl t) st) w' ∧ Fr b w w' := by
  obtain ⟨wv, sv, h⟩ := h
  obtain ⟨wa, wk, rfl⟩ := h.ws.form
  have hpq : IntKind.i64.wrap ((a : Int) + x.f) = ((a + x.f : Nat) : Int) := by rw [IntKind.wrap_i64]; omega
  obtain ⟨wn, hwn⟩ : ∃ wn, (x.ws.map wc).length = wn := ⟨_, rfl⟩
  rw [hwn] at h
  have H := hid h
  have HW := hid hwn
  have hbl := h.lt
  clear h hwn
  go_enter Tryd.func43, Tryd.ntmps43
  go_upto_region 0 with fail
  refine regy0 b wn wk wa (a : Int) (x.f : Int) (kd : Int) ((a + x.f : Nat) : Int) t
    (fun _ W => G w W)
    (fun r W => ∃ W0, G w W0 ∧ W = W0.alloc (.cells #[.int .i64 ((a + x.f : Nat) : Int), .int .i64 (kd : Int), .string t] 90) ∧ r 1 = .slice (some ⟨W0.heap.size, 0, none⟩) 1 1)
    (fun r W => ∃ W0, G w W0 ∧ OwL 90 3 W (b + 1) (r 2) ((layC x a kd (tl t) st).ws.map wc) ∧ W0.grownBy W (Value.slice wa wn wk).ownBlock)
    (fun _ W => ∃ wv, CutS b line a { layC x a kd (tl t) st with k := x.k } wv sv W ∧ Fr b w W)
    (fun W => W.cell? ⟨b, 2, none⟩ = some (.slice wa wn wk) ∧ W.cell? ⟨b, 1, none⟩ = some (.int .i64 (a : Int)) ∧ W.cell? ⟨b, 4, none⟩ = some (.int .i64 (x.f : Int))) _ w rfl rfl rfl rfl hpq ?b0 ?b1 ?c1 ?c2 ?c3 (fun _ q => q.1) (fun _ q => q.2.1) (fun _ q => q.2.2) ?st ?fin
  case b0 =>
    intro _ W q
    have e := (q.block b hbl).trans H.out.blk
    exact ⟨by rw [cell_heap e]; rfl, by rw [cell_heap e]; rfl, by rw [cell_heap e]; rfl⟩
  case b1 =>
    rintro _ W ⟨W0, q, rfl, _⟩
    have e := ((q.alloc q.size (.cells #[.int .i64 ((a + x.f : Nat) : Int), .int .i64 (kd : Int), .string t] 90)).block b hbl).trans H.out.blk
    exact ⟨by rw [cell_heap e]; rfl, by rw [cell_heap e]; rfl, by rw [cell_heap e]; rfl⟩
  case c1 =>
    intro r W q
    exact ⟨rfl, W, q, rfl, ups_same _ _ _⟩
  case c2 =>
    rintro r W ⟨W0, q, rfl, hr⟩
    have h0 := H.out.up q
    have hz : (#[.int .i64 ((a + x.f : Nat) : Int), .int .i64 (kd : Int), .string t] : Array Value) = wc ⟨a + x.f, kd, tl t⟩ := by unfold wc; rw [txt]
    obtain ⟨v', w', r1, r2, r3, _⟩ := app_one ek50 50 (wc ⟨a + x.f, kd, tl t⟩) rfl (by simp [wc, Value.oneCell']) h0.ws (by have := h0.lt; omega) (by simp; omega) W0.heap.size rfl
    rw [hr, hz]
    refine ⟨v', w', r1, W0, q, ?_, r3⟩
    rw [ups_same]
    simpa [layC] using r2
  case c3 =>
    rintro r W ⟨W0, q, h2, h3⟩
    have h0 := H.out.up q
    have hne : (Value.slice wa wn wk).ownBlock ≠ some b := fun e => by have := (h0.ws.lt b e).1; omega
    have e := (h3.block b h0.lt (fun e => hne e.symm)).trans h0.blk
    obtain ⟨pa, pc, hp⟩ := h2.form
    have hk : Kp (fun g => (Value.slice wa wn wk).ownBlock = some g) W0 W := Kp.grown h3
    have hsy : OwL 5 1 W (b + 1) sv (x.s.map bc) := h0.sy.block fun g eg => hk.block g (h0.sy.lt g eg).2 fun q => own_apart h0.ws h0.sy (by decide) q eg
    have hset := Kp.set W b 2 (r 2)
    refine ⟨⟨_, by rw [cell_heap e]; rfl⟩, by simp [World.frozen?, e], ⟨_, _, _, hp⟩, r 2, ⟨?_, ?_, ?_⟩, ?_⟩
    · rw [heap_setCell_at _ e]; rfl
    · refine h2.block fun g eg => hset.block g (h2.lt g eg).2 ?_
      have := (h2.lt g eg).1; omega
    · refine hsy.block fun g eg => hset.block g (hsy.lt g eg).2 ?_
      have := (hsy.lt g eg).1; omega
    · refine (Fr.of_g q (by omega)).trans (Fr.trans (Kp.fr hk (by have := h0.lt; omega) fun g eg => ?_) (Kp.fr hset (by have := h0.lt; have := h3.size; omega) fun g eg => ?_))
      · obtain ⟨p1, cur, p2⟩ := own_cells h0.ws eg
        exact ⟨by omega, fun _ => ⟨_, _, _, p2⟩⟩
      · have eg : g = b := eg
        subst eg
        exact ⟨Nat.le_refl _, fun _ => ⟨_, _, _, e⟩⟩
  case st => exact fun _ => G.drew w
  case fin =>
    rintro r W ⟨wv, h1, h2⟩
    rw [foldy0]
    generalize r 1 = u1
    generalize r 2 = u2
    go_simp
    have hc3 : W.cell? ⟨b, 3, none⟩ = some (.int .i64 (x.k : Int)) := by rw [cell_heap h1.blk]; rfl
    have hf3 : W.frozen? ⟨b, 3, none⟩ = false := by simp [World.frozen?, h1.blk]
    have HF := hid (⟨h1, h2⟩ : _ ∧ _)
    clear h1 h2
    go_wp2
    go_end0
    obtain ⟨h1, h2⟩ := HF.out
    have hk := Kp.set W b 3 (.int .i64 (st : Int))
    exact ⟨rfl, ⟨_, _, h1.set hk rfl rfl (by rw [heap_setCell_at _ h1.blk]; rfl)⟩, h2.trans (h1.frb hk)⟩
end Go.Proofs.YtfigneaaeakbcaaDoor
