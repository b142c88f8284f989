import Derived.Test.YtbjjbgaomoihaaaGreatDoorNode
import Derived.Test.YtbjjbgaomoihaaaGreatDoorGe
set_option maxRecDepth 100000
set_option maxHeartbeats 8000000
namespace Go.Proofs.YtbjjbgaomoihaaaGreatDoor
open Go.RowKit
def F.nameL : F → List ByteArray
  | .nil => []
  | .cons n _ _ _ r => n :: r.nameL
def F.blank : F → F
  | .nil => .nil
  | .cons _ v m k r => .cons ⟨#[]⟩ v m k r.blank
def F.pair : F → List ByteArray → F
  | .cons _ v m k r, x :: L => .cons x v m k (r.pair L)
  | _, _ => .nil
theorem F.pair_blank : ∀ f : F, f.blank.pair f.nameL = f
  | .nil => rfl
  | .cons n v m k r => by rw [F.blank, F.nameL, F.pair, F.pair_blank r]
theorem F.blank_len : ∀ f : F, f.blank.len = f.len
  | .nil => rfl
  | .cons _ _ _ _ r => by rw [F.blank, F.len, F.len, F.blank_len r]
theorem F.nameL_len : ∀ f : F, f.nameL.length = f.len
  | .nil => rfl
  | .cons _ _ _ _ r => by rw [F.nameL, F.len, List.length_cons, F.nameL_len r]
theorem F.pair_len : ∀ (f : F) (L : List ByteArray), L.length = f.len → (f.pair L).len = f.len
  | .nil, [], _ => rfl
  | .nil, _ :: _, h => by simp [F.len] at h
  | .cons .., [], h => by simp [F.len] at h
  | .cons n v m k r, x :: L, h => by rw [F.pair, F.len, F.len, F.pair_len r L (by simpa [F.len] using h)]
theorem F.pair_drop : ∀ {f : F} {L : List ByteArray} {k : Nat} {n x : ByteArray} {v : Vd} {m : Md} {ks r : F}, f.drop k = .cons n v m ks r → L[k]? = some x → ∃ r', (f.pair L).drop k = .cons x v m ks r'
  | .nil, _, k, _, _, _, _, _, _, h, _ => by rw [F.drop_nil] at h; cases h
  | .cons .., [], _, _, _, _, _, _, _, _, h => by simp at h
  | .cons n v m k r, y :: L, 0, _, _, _, _, _, _, h, hx => by
    rw [F.drop_zero] at h
    injection h with h1 h2 h3 h4 h5
    subst h2; subst h3; subst h4
    simp at hx
    subst hx
    exact ⟨_, by rw [F.drop_zero, F.pair]⟩
  | .cons n v m k r, y :: L, i + 1, _, _, _, _, _, _, h, hx => F.pair_drop (f := r) (L := L) (k := i) h (by simpa using hx)
theorem RCells.nth {w : World} {T : Nat → Prop} : ∀ {f : F} {xs : List Value} {k : Nat} {nm : ByteArray} {v : Vd} {m : Md} {ks r : F}, RCells w T f xs → f.drop k = .cons nm v m ks r → ∃ kv, HasSP w T kv ks ∧ ∀ j u, (nc nm v m kv)[j]? = some u → xs[k * 41 + j]? = some u
  | .nil, _, k, _, _, _, _, _, _, h => by rw [F.drop_nil] at h; cases h
  | .cons n v m ks r, xs, 0, _, _, _, _, _, ⟨kv, xs', h1, h2, h3⟩, h => by
    rw [F.drop_zero] at h
    injection h with e1 e2 e3 e4 e5
    subst e1; subst e2; subst e3; subst e4
    refine ⟨kv, h2, fun j u hj => ?_⟩
    rw [h1, List.getElem?_append_left (by simpa using (Array.getElem?_eq_some_iff.1 hj).1)]
    simpa using hj
  | .cons n v m ks r, xs, k + 1, _, _, _, _, _, ⟨kv, xs', h1, h2, h3⟩, h => by
    obtain ⟨kv', h4, h5⟩ := RCells.nth (k := k) h3 h
    refine ⟨kv', h4, fun j u hj => ?_⟩
    rw [h1, List.getElem?_append_right (by simp [nc_size]; omega)]
    have := h5 j u hj
    simp only [Array.length_toList, nc_size]
    rw [show (k + 1) * 41 + j - 41 = k * 41 + j by omega]
    exact this
structure FS (w wr : World) (lo Mb K nb R0 N : Nat) (pre : List ByteArray) (M M1 T : Nat → Prop) (pv : Value) (Bp : Nat → Prop) (v : Vd) (m : Md) (F0 : F) (k : Nat) (kv : Value) (ys : List Value) : Prop where
  g : Kw M w wr
  st : Mt lo Mb K nb pre M1 wr pv Bp
  z : Var wr R0 z30
  n : Var wr N (nc ⟨#[]⟩ v m kv)
  o : wr.ownsRow lo 30 41 kv k ys
  r : RCells wr T (F0.take k) ys
  kb : ∀ b, kv.ownBlock = some b → w.heap.size ≤ b ∧ ¬ M1 b ∧ b ≠ N ∧ b ≠ R0
  m1 : ∀ b, M1 b → M b ∨ w.heap.size ≤ b
  nN : ¬ M1 N ∧ ¬ M1 R0 ∧ w.heap.size ≤ R0 ∧ R0 < N ∧ lo ≤ w.heap.size
  tt : ∀ b, T b → b < w.heap.size ∧ ¬ M b
section
variable {w wr : World} {lo Mb K nb R0 N : Nat} {pre : List ByteArray} {M M1 T : Nat → Prop} {pv : Value} {Bp : Nat → Prop} {v : Vd} {m : Md} {F0 : F} {k : Nat} {kv : Value} {ys : List Value}
theorem FS.start (hg : Kw M w wr) (hst : Mt lo Mb K nb pre M1 wr pv Bp) (hz : Var wr R0 z30) (hn : Var wr N (nc ⟨#[]⟩ v m (.slice none 0 0))) (h1 : ∀ b, M1 b → M b ∨ w.heap.size ≤ b) (h2 : ¬ M1 N ∧ ¬ M1 R0 ∧ w.heap.size ≤ R0 ∧ R0 < N ∧ lo ≤ w.heap.size) (h3 : ∀ b, T b → b < w.heap.size ∧ ¬ M b) :
    FS w wr lo Mb K nb R0 N pre M M1 T pv Bp v m F0 0 (.slice none 0 0) [] := ⟨hg, hst, hz, hn, World.ownsRow_nil _ _ _ _, by rw [F.take_zero]; exact rfl, fun b hb => (by cases hb), h1, h2, h3⟩
theorem FS.up {w' : World} (h : FS w wr lo Mb K nb R0 N pre M M1 T pv Bp v m F0 k kv ys) (hg : G wr w') : FS w w' lo Mb K nb R0 N pre M M1 T pv Bp v m F0 k kv ys := by
  refine ⟨h.g.trans (Kw.of (S := M) hg) (fun _ _ e => e), h.st.up hg, h.z.grow hg, h.n.grow hg, owns_growR h.o hg, RCells.keep (fun b hb => ⟨Below.block hg b ?_, hb⟩) h.r, h.kb, h.m1, h.nN, h.tt⟩
  have := (h.tt b hb).1
  have := h.g.size
  omega
theorem FS.put {Wa : World} {g cap : Nat} {x : ByteArray} {v1 : Vd} {m1 : Md} {kv1 : Value} {ks r : F} (h : FS w wr lo Mb K nb R0 N pre M M1 T pv Bp v m F0 k kv ys) (hd : F0.drop k = .cons x v1 m1 ks r) (hk : HasSP wr T kv1 ks)
    (ho : Wa.ownsRow lo 30 41 (.slice (some ⟨g, 0, none⟩) (k + 1) cap) (k + 1) (ys ++ (nc x v1 m1 kv1).toList)) (hgr : wr.grownBy Wa kv.ownBlock) (hat : kv.ownBlock = some g ∨ g = wr.heap.size) :
    FS w (Wa.setCell ⟨N, 40, none⟩ (.slice (some ⟨g, 0, none⟩) (k + 1) cap)) lo Mb K nb R0 N pre M M1 T pv Bp v m F0 (k + 1) (.slice (some ⟨g, 0, none⟩) (k + 1) cap) (ys ++ (nc x v1 m1 kv1).toList) := by
  have hN := h.n.lt
  have hR := h.z.lt
  have hnN : kv.ownBlock ≠ some N := fun e => (h.kb N e).2.2.1 rfl
  have hnR : kv.ownBlock ≠ some R0 := fun e => (h.kb R0 e).2.2.2 rfl
  have hsz := h.g.size
  have hkw : Kw (fun b => kv.ownBlock = some b ∨ b = N) wr (Wa.setCell ⟨N, 40, none⟩ (.slice (some ⟨g, 0, none⟩) (k + 1) cap)) :=
    ((Kw.grown hgr).mono fun b _ e => .inl e).trans (Kw.set Wa N 40 _) fun b _ e => .inr e
  have hgN : g ≠ N := by rcases hat with e | e; exact fun q => hnN (by rw [e, q]); omega
  have hT : ∀ b, T b → (Wa.setCell ⟨N, 40, none⟩ (.slice (some ⟨g, 0, none⟩) (k + 1) cap)).heap[b]? = wr.heap[b]? := fun b hb => hkw.block b (by have := (h.tt b hb).1; omega) (by
    have h1 := (h.tt b hb).1
    rintro (e | e)
    · have := (h.kb b e).1; omega
    · have := h.nN.2.2.1; have := h.nN.2.2.2.1; omega)
  refine ⟨h.g.trans hkw (fun b hb e => ?_), h.st.keep hkw (fun b e => ?_) (fun b e => ?_), ?_, ?_, ?_, ?_, fun b hb => ?_, h.m1, h.nN, h.tt⟩
  · exfalso
    rcases e with e | e
    · have := (h.kb b e).1; omega
    · have := h.nN.2.2.1; have := h.nN.2.2.2.1; omega
  · rcases e with e | e
    · exact (h.kb b e).2.1
    · rw [e]; exact h.nN.1
  · rcases e with e | e
    · exact (row_cls h.o e).2
    · have h1 := h.nN.2.2.1; have h2 := h.nN.2.2.2.1
      have h3 := h.nN.2.2.2.2
      omega
  · exact (hkw.block R0 hR (by rintro (e | e); exact hnR e; exact absurd e (by have := h.nN.2.2.2.1; omega))).trans h.z
  · have h1 : Var Wa N (nc ⟨#[]⟩ v m kv) := (hgr.block N hN (fun e => hnN e.symm)).trans h.n
    have h2 := h1.setCell 40 (.slice (some ⟨g, 0, none⟩) (k + 1) cap)
    rwa [nc_kset] at h2
  · exact owns_other ho (Below.heap_setCell _ _ _ _ hgN)
  · rw [F.take_more F0 k x v1 m1 ks r hd]
    exact RCells.snoc (hk.keep fun b hb => ⟨hT b hb, hb⟩) (RCells.keep (fun b hb => ⟨hT b hb, hb⟩) h.r)
  · obtain rfl : g = b := by simpa [Value.ownBlock] using hb
    rcases hat with e | e
    · exact h.kb g e
    · exact ⟨by omega, fun q => by have := h.st.lt q; omega, hgN, by omega⟩
end
open Ch
theorem exec_store28 {o : Oper} {a : Act} (x y : Operand) (ho : o.op = .store 28 x y) (b n c : Nat) (ad : Option Addr) (u : Value) (hx : a.eval x = .pointer (some ⟨b, 0, none⟩)) (hy : a.eval y = .slice ad n c) (w : World) (hc : w.cell? ⟨b, 0, none⟩ = some u) (hf : w.frozen? ⟨b, 0, none⟩ = false) : (execOp a.eval o).run Tryz.prog w = .ok .skip (w.setCell ⟨b, 0, none⟩ (.slice ad n c)) := by
  obtain ⟨d, op, ty, ps, af, gd⟩ := o
  obtain rfl : op = _ := ho
  generalize a.eval = ev at *
  go_simp
theorem exec_index30 {o : Oper} {a : Act} (x y : Operand) (ho : o.op = .indexAddr 28 x y) (g k cap : Nat) (hx : a.eval x = .slice (some ⟨g, 0, none⟩) (k + 1) cap) (hy : a.eval y = .int .i64 (k : Int)) (w : World) : (execOp a.eval o).run Tryz.prog w = .ok (.value (.pointer (some ⟨g, k * 41, none⟩))) w := by
  obtain ⟨d, op, ty, ps, af, gd⟩ := o
  obtain rfl : op = _ := ho
  generalize a.eval = ev at *
  go_simp
  intro h
  omega
theorem was {ops : Array Oper} {k j : Nat} {done : Nat → Bool} (h : waitB ops k j = true) (hc : Closed ops done) (hk : done k = true) : done j = true := by
  cases hj : done j with
  | true => rfl
  | false => rw [not_yet h hc hj] at hk; cases hk
structure Lt where
  D : Nat
  g : Nat
  cap : Nat
  c : Array Value
  Wa : World
def ClG (B : Nat) (q : ByteArray) (FC : Array Value) (bo : Option Addr) (nf vc : Nat) (w : World) : Prop := w.cell? ⟨B + 5, 0, none⟩ = some (.slice bo nf vc) ∧ w.cell? ⟨B + 1, 0, none⟩ = some (.func (.func 21) #[.agg FC] #[]) ∧ w.cell? ⟨B, 0, none⟩ = some (.string q)
structure MG (B nf : Nat) (q : ByteArray) (FC : Array Value) (bo : Option Addr) (vc : Nat) (W : World) (F6 : Array Value → World → Prop) (F8 : Nat → Array Value → World → Prop) (F9 : Nat → Nat → Array Value → World → Prop) (r : Lt) (done : Nat → Bool) (w : World) : Prop where
  cl : done 9 = false → ClG B q FC bo nf vc w
  w0 : done 9 = false → done 6 = false → done 8 = false → w = W
  w8 : done 9 = false → done 6 = false → done 8 = true → w = W.alloc (.cells z30 30) ∧ r.D = W.heap.size
  w6 : done 9 = false → done 6 = true → done 8 = false → F6 r.c w
  w68 : done 9 = false → done 6 = true → done 8 = true → F8 r.D r.c w
  w9 : done 9 = true → F9 r.g r.cap r.c r.Wa ∧ (done 11 = false → done 12 = false → w = r.Wa) ∧ (done 11 = true → done 12 = false → w = r.Wa.setCells r.g (nf * 41) r.c.toList) ∧ (done 11 = false → done 12 = true → w = r.Wa.setCell ⟨B + 5, 0, none⟩ (.slice (some ⟨r.g, 0, none⟩) (nf + 1) r.cap)) ∧
    (done 11 = true → done 12 = true → w = (r.Wa.setCells r.g (nf * 41) r.c.toList).setCell ⟨B + 5, 0, none⟩ (.slice (some ⟨r.g, 0, none⟩) (nf + 1) r.cap) ∨ w = (r.Wa.setCell ⟨B + 5, 0, none⟩ (.slice (some ⟨r.g, 0, none⟩) (nf + 1) r.cap)).setCells r.g (nf * 41) r.c.toList)
  cs : ClG B q FC bo nf vc W ∧ ClG B q FC bo nf vc (W.alloc (.cells z30 30)) ∧ (∀ c w, F6 c w → ClG B q FC bo nf vc w) ∧ ∀ D c w, F8 D c w → ClG B q FC bo nf vc w
section
variable {B nf : Nat} {q : ByteArray} {FC : Array Value} {bo : Option Addr} {vc : Nat} {W : World} {F6 : Array Value → World → Prop} {F8 : Nat → Array Value → World → Prop} {F9 : Nat → Nat → Array Value → World → Prop} {r : Lt} {done : Nat → Bool} {w : World}
theorem MG.step (h : MG B nf q FC bo vc W F6 F8 F9 r done w) {j : Nat} (hj : j ≠ 6 ∧ j ≠ 8 ∧ j ≠ 9 ∧ j ≠ 11 ∧ j ≠ 12) : MG B nf q FC bo vc W F6 F8 F9 r (upd done j) w := by
  obtain ⟨h6, h8, h9, h11, h12⟩ := hj
  obtain ⟨a1, a2, a3, a4, a5, a6, a7⟩ := h
  have e6 := upd_ne done (Ne.symm h6)
  have e8 := upd_ne done (Ne.symm h8)
  have e9 := upd_ne done (Ne.symm h9)
  have e11 := upd_ne done (Ne.symm h11)
  have e12 := upd_ne done (Ne.symm h12)
  refine ⟨?_, ?_, ?_, ?_, ?_, ?_, a7⟩ <;> (try rw [e6]) <;> (try rw [e8]) <;> (try rw [e9]) <;> (try rw [e11]) <;> (try rw [e12]) <;> assumption
theorem MG.mk0 {W : World} (h1 : ClG B q FC bo nf vc W) (h2 : ClG B q FC bo nf vc (W.alloc (.cells z30 30))) (h3 : ∀ c w, F6 c w → ClG B q FC bo nf vc w) (h4 : ∀ D c w, F8 D c w → ClG B q FC bo nf vc w) : MG B nf q FC bo vc W F6 F8 F9 r (fun _ => false) W :=
  ⟨fun _ => h1, fun _ _ _ => rfl, fun _ _ h => (by cases h), fun _ h => (by cases h), fun _ h => (by cases h), fun h => (by cases h), h1, h2, h3, h4⟩
end
section
variable {B nf : Nat} {q : ByteArray} {FC : Array Value} {bo : Option Addr} {vc : Nat} {W : World} {F6 : Array Value → World → Prop} {F8 : Nat → Array Value → World → Prop} {F9 : Nat → Nat → Array Value → World → Prop} {r r' : Lt} {done : Nat → Bool} {w w' : World}
theorem MG.mk6 (hM : MG B nf q FC bo vc W F6 F8 F9 r done w) (_h6 : done 6 = false) (h9 : done 9 = false) (h8 : done 8 = false) (hF : F6 r'.c w') : MG B nf q FC bo vc W F6 F8 F9 r' (upd done 6) w' := by
  have ei : upd done 6 6 = true := upd_same done 6
  have e8 : upd done 6 8 = done 8 := upd_ne done (by decide)
  have e9 : upd done 6 9 = done 9 := upd_ne done (by decide)
  have e11 : upd done 6 11 = done 11 := upd_ne done (by decide)
  have e12 : upd done 6 12 = done 12 := upd_ne done (by decide)
  exact ⟨fun _ => hM.cs.2.2.1 _ _ hF, fun _ h => (by rw [ei] at h; cases h), fun _ h => (by rw [ei] at h; cases h), fun _ _ _ => hF, fun _ _ h => (by rw [e8, h8] at h; cases h), fun h => (by rw [e9, h9] at h; cases h), hM.cs⟩
theorem MG.mk68 (hM : MG B nf q FC bo vc W F6 F8 F9 r done w) (_h6 : done 6 = false) (h9 : done 9 = false) (h8 : done 8 = true) (hF : F8 r'.D r'.c w') : MG B nf q FC bo vc W F6 F8 F9 r' (upd done 6) w' := by
  have ei : upd done 6 6 = true := upd_same done 6
  have e8 : upd done 6 8 = done 8 := upd_ne done (by decide)
  have e9 : upd done 6 9 = done 9 := upd_ne done (by decide)
  have e11 : upd done 6 11 = done 11 := upd_ne done (by decide)
  have e12 : upd done 6 12 = done 12 := upd_ne done (by decide)
  exact ⟨fun _ => hM.cs.2.2.2 _ _ _ hF, fun _ h => (by rw [ei] at h; cases h), fun _ h => (by rw [ei] at h; cases h), fun _ _ h => (by rw [e8, h8] at h; cases h), fun _ _ _ => hF, fun h => (by rw [e9, h9] at h; cases h), hM.cs⟩
theorem MG.mk8 (hM : MG B nf q FC bo vc W F6 F8 F9 r done w) (_h8 : done 8 = false) (h9 : done 9 = false) (h6 : done 6 = false) (hw : w' = W.alloc (.cells z30 30)) (hD : r'.D = W.heap.size) : MG B nf q FC bo vc W F6 F8 F9 r' (upd done 8) w' := by
  have ei : upd done 8 8 = true := upd_same done 8
  have e6 : upd done 8 6 = done 6 := upd_ne done (by decide)
  have e9 : upd done 8 9 = done 9 := upd_ne done (by decide)
  have e11 : upd done 8 11 = done 11 := upd_ne done (by decide)
  have e12 : upd done 8 12 = done 12 := upd_ne done (by decide)
  exact ⟨fun _ => hw ▸ hM.cs.2.1, fun _ _ h => (by rw [ei] at h; cases h), fun _ _ _ => ⟨hw, hD⟩, fun _ h => (by rw [e6, h6] at h; cases h), fun _ h => (by rw [e6, h6] at h; cases h), fun h => (by rw [e9, h9] at h; cases h), hM.cs⟩
theorem MG.mk86 (hM : MG B nf q FC bo vc W F6 F8 F9 r done w) (_h8 : done 8 = false) (h9 : done 9 = false) (h6 : done 6 = true) (hF : F8 r'.D r'.c w') : MG B nf q FC bo vc W F6 F8 F9 r' (upd done 8) w' := by
  have ei : upd done 8 8 = true := upd_same done 8
  have e6 : upd done 8 6 = done 6 := upd_ne done (by decide)
  have e9 : upd done 8 9 = done 9 := upd_ne done (by decide)
  have e11 : upd done 8 11 = done 11 := upd_ne done (by decide)
  have e12 : upd done 8 12 = done 12 := upd_ne done (by decide)
  exact ⟨fun _ => hM.cs.2.2.2 _ _ _ hF, fun _ h => (by rw [e6, h6] at h; cases h), fun _ h => (by rw [e6, h6] at h; cases h), fun _ _ h => (by rw [ei] at h; cases h), fun _ _ _ => hF, fun h => (by rw [e9, h9] at h; cases h), hM.cs⟩
theorem MG.mk9 (hM : MG B nf q FC bo vc W F6 F8 F9 r done w) (h11 : done 11 = false) (h12 : done 12 = false) (hF : F9 r'.g r'.cap r'.c r'.Wa) (hw : w' = r'.Wa) : MG B nf q FC bo vc W F6 F8 F9 r' (upd done 9) w' := by
  have ei : upd done 9 9 = true := upd_same done 9
  have e6 : upd done 9 6 = done 6 := upd_ne done (by decide)
  have e8 : upd done 9 8 = done 8 := upd_ne done (by decide)
  have e11 : upd done 9 11 = done 11 := upd_ne done (by decide)
  have e12 : upd done 9 12 = done 12 := upd_ne done (by decide)
  exact ⟨fun h => (by rw [ei] at h; cases h), fun h => (by rw [ei] at h; cases h), fun h => (by rw [ei] at h; cases h), fun h => (by rw [ei] at h; cases h), fun h => (by rw [ei] at h; cases h), fun _ => ⟨hF, fun _ _ => hw, fun h => (by rw [e11, h11] at h; cases h), fun _ h => (by rw [e12, h12] at h; cases h), fun h => (by rw [e11, h11] at h; cases h)⟩, hM.cs⟩
theorem MG.mk11 (hM : MG B nf q FC bo vc W F6 F8 F9 r done w) (h9 : done 9 = true) (_hi : done 11 = false) (ho : done 12 = false) (hF : F9 r'.g r'.cap r'.c r'.Wa) (hw : w' = r'.Wa.setCells r'.g (nf * 41) r'.c.toList) : MG B nf q FC bo vc W F6 F8 F9 r' (upd done 11) w' := by
  have ei : upd done 11 11 = true := upd_same done 11
  have e6 : upd done 11 6 = done 6 := upd_ne done (by decide)
  have e8 : upd done 11 8 = done 8 := upd_ne done (by decide)
  have e9 : upd done 11 9 = done 9 := upd_ne done (by decide)
  have e12 : upd done 11 12 = done 12 := upd_ne done (by decide)
  exact ⟨fun h => (by rw [e9, h9] at h; cases h), fun h => (by rw [e9, h9] at h; cases h), fun h => (by rw [e9, h9] at h; cases h), fun h => (by rw [e9, h9] at h; cases h), fun h => (by rw [e9, h9] at h; cases h), fun _ => ⟨hF, fun h => (by rw [ei] at h; cases h), fun _ _ => hw, fun h => (by rw [ei] at h; cases h), fun _ h => (by rw [e12, ho] at h; cases h)⟩, hM.cs⟩
theorem MG.mk1211 (hM : MG B nf q FC bo vc W F6 F8 F9 r done w) (h9 : done 9 = true) (_hi : done 11 = false) (ho : done 12 = true) (hF : F9 r'.g r'.cap r'.c r'.Wa) (hw : w' = (r'.Wa.setCell ⟨B + 5, 0, none⟩ (.slice (some ⟨r'.g, 0, none⟩) (nf + 1) r'.cap)).setCells r'.g (nf * 41) r'.c.toList) : MG B nf q FC bo vc W F6 F8 F9 r' (upd done 11) w' := by
  have ei : upd done 11 11 = true := upd_same done 11
  have e6 : upd done 11 6 = done 6 := upd_ne done (by decide)
  have e8 : upd done 11 8 = done 8 := upd_ne done (by decide)
  have e9 : upd done 11 9 = done 9 := upd_ne done (by decide)
  have e12 : upd done 11 12 = done 12 := upd_ne done (by decide)
  exact ⟨fun h => (by rw [e9, h9] at h; cases h), fun h => (by rw [e9, h9] at h; cases h), fun h => (by rw [e9, h9] at h; cases h), fun h => (by rw [e9, h9] at h; cases h), fun h => (by rw [e9, h9] at h; cases h), fun _ => ⟨hF, fun h => (by rw [ei] at h; cases h), fun _ h => (by rw [e12, ho] at h; cases h), fun h => (by rw [ei] at h; cases h), fun _ _ => .inr hw⟩, hM.cs⟩
theorem MG.mk12 (hM : MG B nf q FC bo vc W F6 F8 F9 r done w) (h9 : done 9 = true) (_hi : done 12 = false) (ho : done 11 = false) (hF : F9 r'.g r'.cap r'.c r'.Wa) (hw : w' = r'.Wa.setCell ⟨B + 5, 0, none⟩ (.slice (some ⟨r'.g, 0, none⟩) (nf + 1) r'.cap)) : MG B nf q FC bo vc W F6 F8 F9 r' (upd done 12) w' := by
  have ei : upd done 12 12 = true := upd_same done 12
  have e6 : upd done 12 6 = done 6 := upd_ne done (by decide)
  have e8 : upd done 12 8 = done 8 := upd_ne done (by decide)
  have e9 : upd done 12 9 = done 9 := upd_ne done (by decide)
  have e11 : upd done 12 11 = done 11 := upd_ne done (by decide)
  exact ⟨fun h => (by rw [e9, h9] at h; cases h), fun h => (by rw [e9, h9] at h; cases h), fun h => (by rw [e9, h9] at h; cases h), fun h => (by rw [e9, h9] at h; cases h), fun h => (by rw [e9, h9] at h; cases h), fun _ => ⟨hF, fun _ h => (by rw [ei] at h; cases h), fun _ h => (by rw [ei] at h; cases h), fun _ _ => hw, fun h => (by rw [e11, ho] at h; cases h)⟩, hM.cs⟩
theorem MG.mk1112 (hM : MG B nf q FC bo vc W F6 F8 F9 r done w) (h9 : done 9 = true) (_hi : done 12 = false) (ho : done 11 = true) (hF : F9 r'.g r'.cap r'.c r'.Wa) (hw : w' = (r'.Wa.setCells r'.g (nf * 41) r'.c.toList).setCell ⟨B + 5, 0, none⟩ (.slice (some ⟨r'.g, 0, none⟩) (nf + 1) r'.cap)) : MG B nf q FC bo vc W F6 F8 F9 r' (upd done 12) w' := by
  have ei : upd done 12 12 = true := upd_same done 12
  have e6 : upd done 12 6 = done 6 := upd_ne done (by decide)
  have e8 : upd done 12 8 = done 8 := upd_ne done (by decide)
  have e9 : upd done 12 9 = done 9 := upd_ne done (by decide)
  have e11 : upd done 12 11 = done 11 := upd_ne done (by decide)
  exact ⟨fun h => (by rw [e9, h9] at h; cases h), fun h => (by rw [e9, h9] at h; cases h), fun h => (by rw [e9, h9] at h; cases h), fun h => (by rw [e9, h9] at h; cases h), fun h => (by rw [e9, h9] at h; cases h), fun _ => ⟨hF, fun _ h => (by rw [ei] at h; cases h), fun _ h => (by rw [ei] at h; cases h), fun h => (by rw [e11, ho] at h; cases h), fun _ _ => .inl hw⟩, hM.cs⟩
end
theorem backG : backB (opsAt Tryz.f37 7) = true := by kernel_rfl
theorem dstG : dstB (opsAt Tryz.f37 7) 45 = true := by kernel_rfl
theorem sizeG : (opsAt Tryz.f37 7).size = 13 := by kernel_rfl
theorem freeG3 : freeB (opsAt Tryz.f37 7) 3 = true := by kernel_rfl
theorem freeG5 : freeB (opsAt Tryz.f37 7) 5 = true := by kernel_rfl
theorem freeG9 : freeB (opsAt Tryz.f37 7) 9 = true := by kernel_rfl
theorem freeG10 : freeB (opsAt Tryz.f37 7) 10 = true := by kernel_rfl
theorem freeG11 : freeB (opsAt Tryz.f37 7) 11 = true := by kernel_rfl
theorem sG_0 : say (opsAt Tryz.f37 7) 0 = some (some 32, .load 28 (.tmp 9), none) := by kernel_rfl
theorem dG_0 : slotB (opsAt Tryz.f37 7) 0 = some 32 := by kernel_rfl
theorem sG_1 : say (opsAt Tryz.f37 7) 1 = some (some 33, .load 81 (.tmp 5), none) := by kernel_rfl
theorem dG_1 : slotB (opsAt Tryz.f37 7) 1 = some 33 := by kernel_rfl
theorem sG_2 : say (opsAt Tryz.f37 7) 2 = some (some 34, .load 9 (.tmp 3), none) := by kernel_rfl
theorem dG_2 : slotB (opsAt Tryz.f37 7) 2 = some 34 := by kernel_rfl
theorem sG_3 : say (opsAt Tryz.f37 7) 3 = some (some 35, .move (.tmp 10), none) := by kernel_rfl
theorem dG_3 : slotB (opsAt Tryz.f37 7) 3 = some 35 := by kernel_rfl
theorem sG_4 : say (opsAt Tryz.f37 7) 4 = some (some 36, .call { callee := .value (.func 68), args := #[.tmp 34, .tmp 35], argTypes := #[9, 9] }, none) := by kernel_rfl
theorem dG_4 : slotB (opsAt Tryz.f37 7) 4 = some 36 := by kernel_rfl
theorem sG_5 : say (opsAt Tryz.f37 7) 5 = some (some 37, .move (.tmp 11), none) := by kernel_rfl
theorem dG_5 : slotB (opsAt Tryz.f37 7) 5 = some 37 := by kernel_rfl
theorem sG_6 : say (opsAt Tryz.f37 7) 6 = some (some 38, .call { callee := .value (.tmp 33), args := #[.tmp 36, .tmp 37], argTypes := #[9, 32] }, none) := by kernel_rfl
theorem dG_6 : slotB (opsAt Tryz.f37 7) 6 = some 38 := by kernel_rfl
theorem sG_7 : say (opsAt Tryz.f37 7) 7 = some (some 39, .call { callee := .builtin .len, args := #[.tmp 32], argTypes := #[28] }, none) := by kernel_rfl
theorem dG_7 : slotB (opsAt Tryz.f37 7) 7 = some 39 := by kernel_rfl
theorem sG_8 : say (opsAt Tryz.f37 7) 8 = some (some 40, .buildSlice 28 1 #[(0, .const (.agg #[.string { data := #[] }, .int .i64 0, .int .i64 0, .int .i64 0, .int .u8 0, .int .u8 0, .int .u8 0, .int .u8 0, .int .u8 0, .int .u8 0, .int .u8 0, .int .u8 0, .int .u8 0, .int .u8 0, .int .u8 0, .int .u8 0, .int .u8 0, .int .u8 0, .int .u8 0, .int .u8 0, .int .u8 0, .int .u8 0, .int .u8 0, .int .u8 0, .int .u8 0, .int .u8 0, .int .u8 0, .int .u8 0, .int .u8 0, .int .u8 0, .int .u8 0, .int .u8 0, .int .u8 0, .int .u8 0, .int .u8 0, .int .u8 0, .int .i64 0, .int .i64 0, .int .i64 0, .int .i64 0, .slice none 0 0]))], none) := by kernel_rfl
theorem dG_8 : slotB (opsAt Tryz.f37 7) 8 = some 40 := by kernel_rfl
theorem sG_9 : say (opsAt Tryz.f37 7) 9 = some (some 41, .call { callee := .builtin .append, args := #[.tmp 32, .tmp 40], argTypes := #[28, 28] }, none) := by kernel_rfl
theorem dG_9 : slotB (opsAt Tryz.f37 7) 9 = some 41 := by kernel_rfl
theorem sG_10 : say (opsAt Tryz.f37 7) 10 = some (some 42, .indexAddr 28 (.tmp 41) (.tmp 39), none) := by kernel_rfl
theorem dG_10 : slotB (opsAt Tryz.f37 7) 10 = some 42 := by kernel_rfl
theorem sG_11 : say (opsAt Tryz.f37 7) 11 = some (none, .store 30 (.tmp 42) (.tmp 38), none) := by kernel_rfl
theorem sG_12 : say (opsAt Tryz.f37 7) 12 = some (none, .store 28 (.tmp 9) (.tmp 41), none) := by kernel_rfl
def VG (_B nf : Nat) (q xnm bq : ByteArray) (xp : Nat) (FC : Array Value) (bo : Option Addr) (vc : Nat) (r : Lt) : Nat → Value
  | 0 => .slice bo nf vc
  | 1 => .func (.func 21) #[.agg FC] #[]
  | 2 => .string q
  | 3 => .string xnm
  | 4 => .string bq
  | 5 => .pointer (some ⟨xp, 0, none⟩)
  | 6 => .agg r.c
  | 7 => .int .i64 (nf : Int)
  | 8 => .slice (some ⟨r.D, 0, none⟩) 1 1
  | 9 => .slice (some ⟨r.g, 0, none⟩) (nf + 1) r.cap
  | 10 => .pointer (some ⟨r.g, nf * 41, none⟩)
  | 11 => undef
  | 12 => undef
  | _ => undef
theorem regG (B nf : Nat) (q xnm bq : ByteArray) (xp : Nat) (FC : Array Value) (bo : Option Addr) (vc : Nat) (l : Nat) (F6 : Array Value → World → Prop) (F8 : Nat → Array Value → World → Prop) (F9 : Nat → Nat → Array Value → World → Prop) (t0 : Array Value) (wr : World) {Q : Exit → Act → World → Prop} (ht : t0.size = 45) (h3 : t0.getD 3 undef = .pointer (some ⟨B, 0, none⟩)) (h5 : t0.getD 5 undef = .pointer (some ⟨B + 1, 0, none⟩)) (h9 : t0.getD 9 undef = .pointer (some ⟨B + 5, 0, none⟩)) (h10 : t0.getD 10 undef = .string xnm) (h11 : t0.getD 11 undef = .pointer (some ⟨xp, 0, none⟩))
    (hcl0 : ClG B q FC bo nf vc wr.drew) (hcl8 : ClG B q FC bo nf vc (wr.drew.alloc (.cells z30 30))) (hcl6 : ∀ c w, F6 c w → ClG B q FC bo nf vc w) (hcl68 : ∀ D c w, F8 D c w → ClG B q FC bo nf vc w) (hBel : ∀ w, Calls Tryz.prog 68 #[.string q, .string xnm] w fun e w' => e = .returned (.string bq) ∧ w' = w)
    (hC0 : Calls Tryz.prog 21 #[.agg FC, .string bq, .pointer (some ⟨xp, 0, none⟩)] wr.drew fun e w' => ∃ c', e = .returned (.agg c') ∧ F6 c' w')
    (hC1 : Calls Tryz.prog 21 #[.agg FC, .string bq, .pointer (some ⟨xp, 0, none⟩)] (wr.drew.alloc (.cells z30 30)) fun e w' => ∃ c', e = .returned (.agg c') ∧ F8 wr.drew.heap.size c' w')
    (hA : ∀ c w, F6 c w → F8 w.heap.size c (w.alloc (.cells z30 30)))
    (hP : ∀ D c w, F8 D c w → ∀ (o : Oper) (a : Act), o.op = .call { callee := .builtin .append, args := #[.tmp 32, .tmp 40], argTypes := #[28, 28] } → a.eval (.tmp 32) = .slice bo nf vc → a.eval (.tmp 40) = .slice (some ⟨D, 0, none⟩) 1 1 → ∃ g cap Wa, (execOp a.eval o).run Tryz.prog w = .ok (.value (.slice (some ⟨g, 0, none⟩) (nf + 1) cap)) Wa ∧ F9 g cap c Wa)
    (hT1 : ∀ r : Lt, F9 r.g r.cap r.c r.Wa → r.Wa.there r.g (nf * 41) 41 ∧ r.c.size = 41 ∧ r.c.all (·.oneCell') = true) (hT2 : ∀ r : Lt, F9 r.g r.cap r.c r.Wa → (r.Wa.setCell ⟨B + 5, 0, none⟩ (.slice (some ⟨r.g, 0, none⟩) (nf + 1) r.cap)).there r.g (nf * 41) 41)
    (hV1 : ∀ r : Lt, F9 r.g r.cap r.c r.Wa → r.Wa.cell? ⟨B + 5, 0, none⟩ = some (.slice bo nf vc) ∧ r.Wa.frozen? ⟨B + 5, 0, none⟩ = false) (hV2 : ∀ r : Lt, F9 r.g r.cap r.c r.Wa → (r.Wa.setCells r.g (nf * 41) r.c.toList).cell? ⟨B + 5, 0, none⟩ = some (.slice bo nf vc) ∧ (r.Wa.setCells r.g (nf * 41) r.c.toList).frozen? ⟨B + 5, 0, none⟩ = false)
    (hQ : ∀ (r : Lt) w, F9 r.g r.cap r.c r.Wa → (w = (r.Wa.setCells r.g (nf * 41) r.c.toList).setCell ⟨B + 5, 0, none⟩ (.slice (some ⟨r.g, 0, none⟩) (nf + 1) r.cap) ∨ w = (r.Wa.setCell ⟨B + 5, 0, none⟩ (.slice (some ⟨r.g, 0, none⟩) (nf + 1) r.cap)).setCells r.g (nf * 41) r.c.toList) → Q .normal ⟨fold (opsAt Tryz.f37 7) (VG B nf q xnm bq xp FC bo vc r) t0 13, []⟩ w) : (Code.region 7 (opsAt Tryz.f37 7) true).wpIn (Fence.wide.inRound l) 1 Tryz.prog Q ⟨t0, []⟩ wr := by
  have hB : dstB (opsAt Tryz.f37 7) t0.size = true := by rw [ht]; exact dstG
  refine inv_regionIn (by kernel_rfl) (IE (opsAt Tryz.f37 7) (VG B nf q xnm bq xp FC bo vc) t0 ((MG B nf q FC bo vc wr.drew F6 F8 F9) )) backG ⟨⟨0, 0, 0, #[], wr.drew⟩, t0, rfl, ⟨rfl, fun _ _ => rfl, fun _ _ _ _ _ h => by cases h⟩, MG.mk0 hcl0 hcl8 hcl6 hcl68⟩ ?_ ?_
  rotate_left 1
  · rintro done a w ⟨r, t, rfl, hS, hM⟩ hall
    rw [hS.end hB hall, sizeG]
    have hF := (hM.w9 (hall 9 (by rw [sizeG]; decide)))
    exact hQ r w hF.1 (hF.2.2.2.2 (hall 11 (by rw [sizeG]; decide)) (hall 12 (by rw [sizeG]; decide)))
  · rintro jz op done a w ho ⟨r, t, rfl, hS, hM⟩ hnd hdep hcl
    have e3 : t[3]?.getD undef = .pointer (some ⟨B, 0, none⟩) := (hS.old freeG3).trans h3
    have e5 : t[5]?.getD undef = .pointer (some ⟨B + 1, 0, none⟩) := (hS.old freeG5).trans h5
    have e9 : t[9]?.getD undef = .pointer (some ⟨B + 5, 0, none⟩) := (hS.old freeG9).trans h9
    have e10 : t[10]?.getD undef = .string xnm := (hS.old freeG10).trans h10
    have e11 : t[11]?.getD undef = .pointer (some ⟨xp, 0, none⟩) := (hS.old freeG11).trans h11
    have hlt : jz < 13 := by rw [← sizeG]; exact (Array.getElem?_eq_some_iff.1 ho).1
    match jz, hlt, ho, hnd, hdep with
    | 0, _, ho, hnd, hdep =>
      obtain ⟨hd, hop, hgd⟩ := say_of sG_0 ho
      have ny9 : done 9 = false := not_yet (k := 0) (j := 9) (by kernel_rfl) hcl hnd
      have cz := (hM.cl ny9).1
      refine ie_valI r (fun _ => trivial) hB ho (wanted_none hgd) hd hS (by intro c; rw [hop]; intro h; cases h) (hM.step (by decide)) ?_
      unfold execOp
      simp only [hop]
      simp [e9, VG, cz, go_sem]
    | 1, _, ho, hnd, hdep =>
      obtain ⟨hd, hop, hgd⟩ := say_of sG_1 ho
      have ny9 : done 9 = false := not_yet (k := 1) (j := 9) (by kernel_rfl) hcl hnd
      have cz := (hM.cl ny9).2.1
      refine ie_valI r (fun _ => trivial) hB ho (wanted_none hgd) hd hS (by intro c; rw [hop]; intro h; cases h) (hM.step (by decide)) ?_
      unfold execOp
      simp only [hop]
      simp [e5, VG, cz, go_sem]
    | 2, _, ho, hnd, hdep =>
      obtain ⟨hd, hop, hgd⟩ := say_of sG_2 ho
      have ny9 : done 9 = false := not_yet (k := 2) (j := 9) (by kernel_rfl) hcl hnd
      have cz := (hM.cl ny9).2.2
      refine ie_valI r (fun _ => trivial) hB ho (wanted_none hgd) hd hS (by intro c; rw [hop]; intro h; cases h) (hM.step (by decide)) ?_
      unfold execOp
      simp only [hop]
      simp [e3, VG, cz, go_sem]
    | 3, _, ho, hnd, hdep =>
      obtain ⟨hd, hop, hgd⟩ := say_of sG_3 ho
      refine ie_valI r (fun _ => trivial) hB ho (wanted_none hgd) hd hS (by intro c; rw [hop]; intro h; cases h) (hM.step (by decide)) ?_
      unfold execOp
      simp only [hop]
      simp [e10, VG, go_sem]
    | 4, _, ho, hnd, hdep =>
      obtain ⟨hd, hop, hgd⟩ := say_of sG_4 ho
      have x34 : t[34]?.getD undef = _ := hS.at dG_2 (waits (j := 2) (by kernel_rfl) ho hdep)
      simp only [VG] at x34
      have x35 : t[35]?.getD undef = _ := hS.at dG_3 (waits (j := 3) (by kernel_rfl) ho hdep)
      simp only [VG] at x35
      refine ie_callI r 68 #[.string q, .string xnm] (fun _ => trivial) (fun h => by cases h) hB ho (wanted_none hgd) hd hS (by intro c; rw [hop]; intro h; cases h) ?_ ?_
      · skip
        unfold execOp
        simp only [hop]
        simp [x34, x35, go_sem]
      · skip
        refine (CallsIn.inRound l (callsIn_wide.2 (hBel w))).mono ?_
        rintro e w2 ⟨rfl, e2⟩
        rw [e2]
        exact ⟨r, rfl, fun _ _ => rfl, hM.step (by decide)⟩
    | 5, _, ho, hnd, hdep =>
      obtain ⟨hd, hop, hgd⟩ := say_of sG_5 ho
      refine ie_valI r (fun _ => trivial) hB ho (wanted_none hgd) hd hS (by intro c; rw [hop]; intro h; cases h) (hM.step (by decide)) ?_
      unfold execOp
      simp only [hop]
      simp [e11, VG, go_sem]
    | 6, _, ho, hnd, hdep =>
      obtain ⟨hd, hop, hgd⟩ := say_of sG_6 ho
      have x33 : t[33]?.getD undef = _ := hS.at dG_1 (waits (j := 1) (by kernel_rfl) ho hdep)
      simp only [VG] at x33
      have x36 : t[36]?.getD undef = _ := hS.at dG_4 (waits (j := 4) (by kernel_rfl) ho hdep)
      simp only [VG] at x36
      have x37 : t[37]?.getD undef = _ := hS.at dG_5 (waits (j := 5) (by kernel_rfl) ho hdep)
      simp only [VG] at x37
      have ny9 : done 9 = false := not_yet (k := 6) (j := 9) (by kernel_rfl) hcl hnd
      refine ie_callI r 21 #[.agg FC, .string bq, .pointer (some ⟨xp, 0, none⟩)] (fun _ => trivial) (fun h => by cases h) hB ho (wanted_none hgd) hd hS (by intro c; rw [hop]; intro h; cases h) ?_ ?_
      · skip
        unfold execOp
        simp only [hop]
        simp [x33, x36, x37, go_sem]
      · skip
        have keep : ∀ (c' : Array Value) k, done k = true → VG B nf q xnm bq xp FC bo vc { r with c := c' } k = VG B nf q xnm bq xp FC bo vc r k := fun c' k hk => by
          have h6 : k ≠ 6 := fun e => by rw [e, hnd] at hk; cases hk
          unfold VG
          split <;> first | rfl | exact absurd rfl h6
        cases h8 : done 8 with
        | false =>
          obtain rfl := hM.w0 ny9 hnd h8
          refine (CallsIn.inRound l (callsIn_wide.2 hC0)).mono ?_
          rintro e w2 ⟨c', rfl, hF⟩
          exact ⟨{ r with c := c' }, rfl, keep c', hM.mk6 hnd ny9 h8 hF⟩
        | true =>
          obtain ⟨rfl, eD⟩ := hM.w8 ny9 hnd h8
          refine (CallsIn.inRound l (callsIn_wide.2 hC1)).mono ?_
          rintro e w2 ⟨c', rfl, hF⟩
          exact ⟨{ r with c := c' }, rfl, keep c', hM.mk68 hnd ny9 h8 (by show F8 r.D c' w2; rw [eD]; exact hF)⟩
    | 7, _, ho, hnd, hdep =>
      obtain ⟨hd, hop, hgd⟩ := say_of sG_7 ho
      have x32 : t[32]?.getD undef = _ := hS.at dG_0 (waits (j := 0) (by kernel_rfl) ho hdep)
      simp only [VG] at x32
      refine ie_valI r (fun _ => trivial) hB ho (wanted_none hgd) hd hS (by intro c; rw [hop]; intro h; cases h) (hM.step (by decide)) ?_
      unfold execOp
      simp only [hop]
      simp [x32, VG, go_sem]
    | 8, _, ho, hnd, hdep =>
      obtain ⟨hd, hop, hgd⟩ := say_of sG_8 ho
      have ny9 : done 9 = false := not_yet (k := 8) (j := 9) (by kernel_rfl) hcl hnd
      have keep : ∀ k, done k = true → VG B nf q xnm bq xp FC bo vc { r with D := w.heap.size } k = VG B nf q xnm bq xp FC bo vc r k := fun k hk => by
        have h8 : k ≠ 8 := fun e => by rw [e, hnd] at hk; cases hk
        unfold VG
        split <;> first | rfl | exact absurd rfl h8
      refine ie_valL (w' := w.alloc (.cells z30 30)) r { r with D := w.heap.size } (fun _ => trivial) hB ho (wanted_none hgd) hd hS (by intro c; rw [hop]; intro h; cases h) keep ?_ ?_
      · cases h6 : done 6 with
        | false =>
          obtain rfl := hM.w0 ny9 h6 hnd
          exact hM.mk8 hnd ny9 h6 rfl rfl
        | true => exact hM.mk86 hnd ny9 h6 (hA _ _ (hM.w6 ny9 h6 hnd))
      · exact exec_slice1 _ hop z30 rfl z30_size w
    | 9, _, ho, hnd, hdep =>
      obtain ⟨hd, hop, hgd⟩ := say_of sG_9 ho
      have x32 : t[32]?.getD undef = _ := hS.at dG_0 (waits (j := 0) (by kernel_rfl) ho hdep)
      simp only [VG] at x32
      have x40 : t[40]?.getD undef = _ := hS.at dG_8 (waits (j := 8) (by kernel_rfl) ho hdep)
      simp only [VG] at x40
      have ny10 : done 10 = false := not_yet (k := 9) (j := 10) (by kernel_rfl) hcl hnd
      have ny11 : done 11 = false := not_yet (k := 9) (j := 11) (by kernel_rfl) hcl hnd
      have ny12 : done 12 = false := not_yet (k := 9) (j := 12) (by kernel_rfl) hcl hnd
      have a0 : done 0 = true := waits (j := 0) (by kernel_rfl) ho hdep
      have a6 : done 6 = true := waits (j := 6) (by kernel_rfl) ho hdep
      have a8 : done 8 = true := waits (j := 8) (by kernel_rfl) ho hdep
      obtain ⟨g, cap, Wa, hrun, hF⟩ := hP r.D r.c w (hM.w68 hnd a6 a8) op (Act.mk t []) hop (by show t.getD 32 undef = _; rw [Array.getD_eq_getD_getElem?]; exact x32) (by show t.getD 40 undef = _; rw [Array.getD_eq_getD_getElem?]; exact x40)
      have keep : ∀ k, done k = true → VG B nf q xnm bq xp FC bo vc { r with g := g, cap := cap, Wa := Wa } k = VG B nf q xnm bq xp FC bo vc r k := fun k hk => by
        have h9 : k ≠ 9 := fun e => by rw [e, hnd] at hk; cases hk
        have h10 : k ≠ 10 := fun e => by rw [e, ny10] at hk; cases hk
        unfold VG
        split <;> first | rfl | exact absurd rfl h9 | exact absurd rfl h10
      exact ie_valL (w' := Wa) r { r with g := g, cap := cap, Wa := Wa } (fun _ => trivial) hB ho (wanted_none hgd) hd hS (by intro c; rw [hop]; intro h; cases h) keep (hM.mk9 ny11 ny12 hF rfl) hrun
    | 10, _, ho, hnd, hdep =>
      obtain ⟨hd, hop, hgd⟩ := say_of sG_10 ho
      have x41 : t[41]?.getD undef = _ := hS.at dG_9 (waits (j := 9) (by kernel_rfl) ho hdep)
      simp only [VG] at x41
      have x39 : t[39]?.getD undef = _ := hS.at dG_7 (waits (j := 7) (by kernel_rfl) ho hdep)
      simp only [VG] at x39
      have a9 : done 9 = true := waits (j := 9) (by kernel_rfl) ho hdep
      refine ie_valI r (fun _ => trivial) hB ho (wanted_none hgd) hd hS (by intro c; rw [hop]; intro h; cases h) (hM.step (by decide)) ?_
      exact exec_index30 _ _ hop r.g nf r.cap (by show t.getD 41 undef = _; rw [Array.getD_eq_getD_getElem?]; exact x41) (by show t.getD 39 undef = _; rw [Array.getD_eq_getD_getElem?]; exact x39) w
    | 11, _, ho, hnd, hdep =>
      obtain ⟨hd, hop, hgd⟩ := say_of sG_11 ho
      have x42 : t[42]?.getD undef = _ := hS.at dG_10 (waits (j := 10) (by kernel_rfl) ho hdep)
      simp only [VG] at x42
      have x38 : t[38]?.getD undef = _ := hS.at dG_6 (waits (j := 6) (by kernel_rfl) ho hdep)
      simp only [VG] at x38
      have a9 : done 9 = true := waits (j := 9) (by kernel_rfl) ho hdep
      have a6 : done 6 = true := waits (j := 6) (by kernel_rfl) ho hdep
      have hF := hM.w9 a9
      cases h12 : done 12 with
      | false =>
        obtain rfl := hF.2.1 hnd h12
        exact ie_storeI (w' := r.Wa.setCells r.g (nf * 41) r.c.toList) r (fun _ => trivial) ho (wanted_none hgd) hd hS (by intro c; rw [hop]; intro h; cases h) (hM.mk11 a9 hnd h12 hF.1 rfl) (exec_store30m _ _ hop r.g (nf * 41) r.c (by show t.getD 42 undef = _; rw [Array.getD_eq_getD_getElem?]; exact x42) (by show t.getD 38 undef = _; rw [Array.getD_eq_getD_getElem?]; exact x38) _ (hT1 _ hF.1).1 (hT1 _ hF.1).2.1 (hT1 _ hF.1).2.2)
      | true =>
        obtain rfl := hF.2.2.2.1 hnd h12
        exact ie_storeI (w' := (r.Wa.setCell ⟨B + 5, 0, none⟩ (.slice (some ⟨r.g, 0, none⟩) (nf + 1) r.cap)).setCells r.g (nf * 41) r.c.toList) r (fun _ => trivial) ho (wanted_none hgd) hd hS (by intro c; rw [hop]; intro h; cases h) (hM.mk1211 a9 hnd h12 hF.1 rfl) (exec_store30m _ _ hop r.g (nf * 41) r.c (by show t.getD 42 undef = _; rw [Array.getD_eq_getD_getElem?]; exact x42) (by show t.getD 38 undef = _; rw [Array.getD_eq_getD_getElem?]; exact x38) _ (hT2 _ hF.1) (hT1 _ hF.1).2.1 (hT1 _ hF.1).2.2)
    | 12, _, ho, hnd, hdep =>
      obtain ⟨hd, hop, hgd⟩ := say_of sG_12 ho
      have x41 : t[41]?.getD undef = _ := hS.at dG_9 (waits (j := 9) (by kernel_rfl) ho hdep)
      simp only [VG] at x41
      have a9 : done 9 = true := waits (j := 9) (by kernel_rfl) ho hdep
      have hF := hM.w9 a9
      cases h11 : done 11 with
      | false =>
        obtain rfl := hF.2.1 h11 hnd
        exact ie_storeI (w' := r.Wa.setCell ⟨B + 5, 0, none⟩ (.slice (some ⟨r.g, 0, none⟩) (nf + 1) r.cap)) r (fun _ => trivial) ho (wanted_none hgd) hd hS (by intro c; rw [hop]; intro h; cases h) (hM.mk12 a9 hnd h11 hF.1 rfl) (exec_store28 _ _ hop (B + 5) (nf + 1) r.cap _ _ (by show t.getD 9 undef = _; rw [Array.getD_eq_getD_getElem?]; exact e9) (by show t.getD 41 undef = _; rw [Array.getD_eq_getD_getElem?]; exact x41) _ (hV1 _ hF.1).1 (hV1 _ hF.1).2)
      | true =>
        obtain rfl := hF.2.2.1 h11 hnd
        exact ie_storeI (w' := (r.Wa.setCells r.g (nf * 41) r.c.toList).setCell ⟨B + 5, 0, none⟩ (.slice (some ⟨r.g, 0, none⟩) (nf + 1) r.cap)) r (fun _ => trivial) ho (wanted_none hgd) hd hS (by intro c; rw [hop]; intro h; cases h) (hM.mk1112 a9 hnd h11 hF.1 rfl) (exec_store28 _ _ hop (B + 5) (nf + 1) r.cap _ _ (by show t.getD 9 undef = _; rw [Array.getD_eq_getD_getElem?]; exact e9) (by show t.getD 41 undef = _; rw [Array.getD_eq_getD_getElem?]; exact x41) _ (hV2 _ hF.1).1 (hV2 _ hF.1).2)
end Go.Proofs.YtbjjbgaomoihaaaGreatDoor
