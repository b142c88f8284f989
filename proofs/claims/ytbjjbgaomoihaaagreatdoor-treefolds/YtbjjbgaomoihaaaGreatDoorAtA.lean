import Derived.Test.YtbjjbgaomoihaaaGreatDoorFa
import Derived.Test.YtbjjbgaomoihaaaGreatDoorPutA
set_option maxRecDepth 100000
set_option maxHeartbeats 1000000
namespace Go.Proofs.YtbjjbgaomoihaaaGreatDoor
open Go.RowKit
def wordB (i : Nat) : ByteArray := if i % 2 = 0 then ⟨#[60, 111, 110, 101, 62]⟩ else ⟨#[60, 116, 119, 111, 62]⟩
def HasRD (w : World) : F → (Nat → Prop) → Nat → Nat → Prop
  | .nil, _, _, _ => True
  | .cons nm v m kids rest, S, g, o => ∃ (S1 S2 : Nat → Prop) (a : Option Addr) (cap : Nat), (∀ b, S1 b → S b ∧ ¬ S2 b) ∧ (∀ b, S2 b → S b) ∧ Lies w g o (nc nm v m (.slice a kids.len cap)) ∧ kids.len ≤ cap ∧
      (kids = .nil ∨ ∃ g', a = some ⟨g', 0, none⟩ ∧ S1 g' ∧ (∀ j, w.frozen? ⟨g', j, none⟩ = false) ∧ HasRD w kids (fun b => S1 b ∧ b ≠ g') g' 0) ∧ HasRD w rest S2 g (o + 41)
def HasSD (w : World) (S : Nat → Prop) (v : Value) (f : F) : Prop := ∃ (a : Option Addr) (cap : Nat), v = .slice a f.len cap ∧ f.len ≤ cap ∧
  (f = .nil ∨ ∃ g', a = some ⟨g', 0, none⟩ ∧ S g' ∧ (∀ j, w.frozen? ⟨g', j, none⟩ = false) ∧ HasRD w f (fun b => S b ∧ b ≠ g') g' 0)
theorem HasRD.has {w : World} : ∀ {f : F} {S : Nat → Prop} {g o : Nat}, HasRD w f S g o → HasR w f g o
  | .nil, _, _, _, _ => trivial
  | .cons _ _ _ _ _, _, _, _, ⟨_, _, a, cap, _, _, hc, hl, hk, hr⟩ => ⟨⟨a, cap, hc, hl, hk.imp id fun ⟨g', ha, _, _, h⟩ => ⟨g', 0, ha, HasRD.has h⟩⟩, HasRD.has hr⟩
theorem HasSD.has {w : World} {S : Nat → Prop} {v : Value} {f : F} (h : HasSD w S v f) : HasS w v f := by
  obtain ⟨a, cap, hv, hl, h⟩ := h
  exact ⟨a, cap, hv, hl, h.imp id fun ⟨g, ha, _, _, h⟩ => ⟨g, 0, ha, h.has⟩⟩
theorem Lies.sameB {w w' : World} {g o : Nat} {c : Array Value} (h : Lies w g o c) (hb : w'.heap[g]? = w.heap[g]?) : Lies w' g o c := fun j u hj => (World.cell?_of_block (w := w) (a := ⟨g, o + j, none⟩) hb).trans (h j u hj)
theorem HasRD.keep {w w' : World} : ∀ {f : F} {S S' : Nat → Prop} {g o : Nat}, (∀ b, S b → w'.heap[b]? = w.heap[b]? ∧ S' b) → HasRD w f S g o → w'.heap[g]? = w.heap[g]? → HasRD w' f S' g o
  | .nil, _, _, _, _, _, _, _ => trivial
  | .cons _ _ _ _ _, S, S', g, o, hP, ⟨S1, S2, a, cap, h1, h2, hc, hl, hk, hr⟩, hg => by
    refine ⟨S1, S2, a, cap, fun b hb => ⟨(hP b (h1 b hb).1).2, (h1 b hb).2⟩, fun b hb => (hP b (h2 b hb)).2, hc.sameB hg, hl, hk.imp id ?_, HasRD.keep (fun b hb => ⟨(hP b (h2 b hb)).1, hb⟩) hr hg⟩
    rintro ⟨g', ha, hs, hf, h⟩
    have e := (hP g' (h1 g' hs).1).1
    exact ⟨g', ha, hs, fun j => (World.frozen?_of_block (w := w) (a := ⟨g', j, none⟩) e).trans (hf j), HasRD.keep (fun b hb => ⟨(hP b (h1 b hb.1).1).1, hb⟩) h e⟩
theorem HasSD.keep {w w' : World} {S S' : Nat → Prop} {v : Value} {f : F} (h : HasSD w S v f) (hP : ∀ b, S b → w'.heap[b]? = w.heap[b]? ∧ S' b) : HasSD w' S' v f := by
  obtain ⟨a, cap, hv, hl, h⟩ := h
  refine ⟨a, cap, hv, hl, h.imp id ?_⟩
  rintro ⟨g, ha, hs, hf, h⟩
  have e := hP g hs
  exact ⟨g, ha, e.2, fun j => (World.frozen?_of_block (w := w) (a := ⟨g, j, none⟩) e.1).trans (hf j), h.keep (fun b hb => ⟨(hP b hb.1).1, (hP b hb.1).2, hb.2⟩) e.1⟩
def RCellsD (w : World) : F → (Nat → Prop) → List Value → Prop
  | .nil, _, xs => xs = []
  | .cons nm v m ks r, S, xs => ∃ (S1 S2 : Nat → Prop) (kv : Value) (xs' : List Value), (∀ b, S1 b → S b ∧ ¬ S2 b) ∧ (∀ b, S2 b → S b) ∧ xs = (nc nm v m kv).toList ++ xs' ∧ HasSD w S1 kv ks ∧ RCellsD w r S2 xs'
theorem RCellsD.len {w : World} : ∀ {f : F} {S : Nat → Prop} {xs : List Value}, RCellsD w f S xs → xs.length = f.len * 41
  | .nil, _, _, h => by rw [h]; simp [F.len]
  | .cons nm v m ks r, _, xs, ⟨_, _, kv, xs', _, _, h, _, hr⟩ => by rw [h, List.length_append, RCellsD.len hr, F.len]; simp [nc_size]; omega
theorem RCellsD.snoc {w : World} {S2 : Nat → Prop} {nm : ByteArray} {v : Vd} {m : Md} {kv : Value} {ks : F} (hk : HasSD w S2 kv ks) : ∀ {f : F} {S : Nat → Prop} {xs : List Value}, (∀ b, S b → ¬ S2 b) → RCellsD w f S xs → RCellsD w (f.app (.cons nm v m ks .nil)) (fun b => S b ∨ S2 b) (xs ++ (nc nm v m kv).toList)
  | .nil, S, xs, _, h => ⟨S2, fun _ => False, kv, [], fun b hb => ⟨.inr hb, id⟩, fun b hb => hb.elim, by rw [h]; simp, hk, rfl⟩
  | .cons _ _ _ _ r, S, xs, hd, ⟨Sa, Sb, kv', xs', h1, h2, h, hs, hr⟩ => ⟨Sa, fun b => Sb b ∨ S2 b, kv', xs' ++ (nc nm v m kv).toList, fun b hb => ⟨.inl (h1 b hb).1, fun e => e.elim (h1 b hb).2 (hd b (h1 b hb).1)⟩, fun b hb => hb.imp (h2 b) id, by rw [h, List.append_assoc], hs, RCellsD.snoc hk (fun b hb => hd b (h2 b hb)) hr⟩
theorem RCellsD.keep {w w' : World} : ∀ {f : F} {S S' : Nat → Prop} {xs : List Value}, (∀ b, S b → w'.heap[b]? = w.heap[b]? ∧ S' b) → RCellsD w f S xs → RCellsD w' f S' xs
  | .nil, _, _, _, _, h => h
  | .cons _ _ _ _ _, _, _, _, hP, ⟨Sa, Sb, kv, xs', h1, h2, h, hs, hr⟩ => ⟨Sa, Sb, kv, xs', fun b hb => ⟨(hP b (h1 b hb).1).2, (h1 b hb).2⟩, fun b hb => (hP b (h2 b hb)).2, h, hs.keep fun b hb => ⟨(hP b (h1 b hb).1).1, hb⟩, RCellsD.keep (fun b hb => ⟨(hP b (h2 b hb)).1, hb⟩) hr⟩
theorem RCellsD.row {w : World} {g : Nat} : ∀ {f : F} {S : Nat → Prop} {xs : List Value} {o : Nat}, RCellsD w f S xs → (∀ j u, xs[j]? = some u → w.cell? ⟨g, o + j, none⟩ = some u) → HasRD w f S g o
  | .nil, _, _, _, _, _ => trivial
  | .cons nm v m ks r, S, xs, o, ⟨Sa, Sb, kv, xs', h1, h2, h, hs, hr⟩, hc => by
    subst h
    obtain ⟨a, cap, rfl, hl, hk⟩ := hs
    have h41 : (nc nm v m (.slice a ks.len cap)).toList.length = 41 := by simp [nc_size]
    refine ⟨Sa, Sb, a, cap, h1, h2, fun j u hj => hc j u ?_, hl, hk, RCellsD.row hr fun j u hj => ?_⟩
    · have hlt := (Array.getElem?_eq_some_iff.1 hj).1
      rw [nc_size] at hlt
      rw [List.getElem?_append_left (by omega)]
      simpa using hj
    · have := hc (41 + j) u (by rw [List.getElem?_append_right (by omega), h41]; simpa using hj)
      rw [show o + 41 + j = o + (41 + j) by omega]
      exact this
def markC (zv : Vd) (zm : Md) : Nat → List Value
  | 0 => []
  | k + 1 => markC zv zm k ++ (nc (wordB k) zv zm (.slice none 0 0)).toList
theorem markC_len (zv : Vd) (zm : Md) : ∀ k, (markC zv zm k).length = k * 41
  | 0 => by simp [markC]
  | k + 1 => by rw [markC, List.length_append, markC_len zv zm k]; simp [nc_size]; omega
theorem markC_at (zv : Vd) (zm : Md) : ∀ (k i : Nat), i < k → ∀ j, j < 41 → (markC zv zm k)[i * 41 + j]? = (nc (wordB i) zv zm (.slice none 0 0))[j]?
  | 0, i, h, _, _ => by omega
  | k + 1, i, h, j, hj => by
    rw [markC]
    by_cases hi : i < k
    · rw [List.getElem?_append_left (by rw [markC_len]; omega)]
      exact markC_at zv zm k i hi j hj
    · obtain rfl : i = k := by omega
      rw [List.getElem?_append_right (by rw [markC_len]; omega), markC_len, show i * 41 + j - i * 41 = j by omega]
      simp
def Mk (w : World) (g n k : Nat) : Prop := ∀ i, i < k → ∃ c, Lies w g ((n + i) * 41) c ∧ c.size = 41 ∧ c.all (·.oneCell') = true ∧ c[0]? = some (.string (wordB i)) ∧ c[40]? = some (.slice none 0 0)
theorem Mk.keep {w w' : World} {g n k : Nat} (h : Mk w g n k) (hb : w'.heap[g]? = w.heap[g]?) : Mk w' g n k := fun i hi => by
  obtain ⟨c, h1, h2⟩ := h i hi
  exact ⟨c, h1.sameB hb, h2⟩
structure Kr where
  g : Nat
  n : Nat
  k : Nat
  cap : Nat
def Kr.v (e : Kr) : Value := .slice (some ⟨e.g, 0, none⟩) (e.n + e.k) e.cap
structure Sg where
  v1 : Value
  v2 : Value
  ls : List Kr
def XB (R : Nat) (s : Sg) (b : Nat) : Prop := b = R ∨ s.v1.ownBlock = some b ∨ s.v2.ownBlock = some b
def RB (R : Nat) (s : Sg) (b : Nat) : Prop := XB R s b ∨ ∃ e ∈ s.ls, e.g = b
structure RM (w : World) (R : Nat) (s : Sg) : Prop where
  idle : ∀ i, i < 26 → i ≠ 22 → i ≠ 23 → w.cell? ⟨R, i, none⟩ = some (.slice none 0 0)
  c22 : w.cell? ⟨R, 22, none⟩ = some s.v1
  c23 : w.cell? ⟨R, 23, none⟩ = some s.v2
  fz : ∀ o, w.frozen? ⟨R, o, none⟩ = false
  o1 : w.ownsRow (R + 1) 28 1 s.v1 s.ls.length (s.ls.map Kr.v)
  o2 : w.ownsRow (R + 1) 3 1 s.v2 s.ls.length (s.ls.map fun e => .int .i64 e.n)
  ne : ∀ b, s.v1.ownBlock = some b → s.v2.ownBlock ≠ some b
  rows : ∀ e ∈ s.ls, e.g < w.heap.size ∧ Mk w e.g e.n e.k
  rx : ∀ e ∈ s.ls, ¬ XB R s e.g
  bd : ∀ e ∈ s.ls, e.n ≤ 20000 ∧ e.k ≤ 40
theorem RM.lt {w : World} {R : Nat} {s : Sg} (h : RM w R s) {b : Nat} (hb : RB R s b) : b < w.heap.size := by
  rcases hb with (rfl | hb | hb) | ⟨e, he, rfl⟩
  · exact World.block_lt_of_cell? w _ h.c22
  · exact (World.ownsRow.lt h.o1 b hb).2
  · exact (World.ownsRow.lt h.o2 b hb).2
  · exact (h.rows e he).1
theorem RM.ge {w : World} {R : Nat} {s : Sg} (h : RM w R s) {b : Nat} (hb : XB R s b) : R ≤ b := by
  rcases hb with rfl | hb | hb
  · exact Nat.le_refl _
  · have := (World.ownsRow.lt h.o1 b hb).1; omega
  · have := (World.ownsRow.lt h.o2 b hb).1; omega
theorem owns_sameB {w w' : World} {lo e size n : Nat} {v : Value} {xs : List Value} (h : w.ownsRow lo e size v n xs) (hb : ∀ k, v.ownBlock = some k → w'.heap[k]? = w.heap[k]?) : w'.ownsRow lo e size v n xs := by
  obtain ⟨h1, h | ⟨g, cap, cur, hv, hg, hh, hr⟩⟩ := h
  · exact ⟨h1, .inl h⟩
  · subst hv
    exact ⟨h1, .inr ⟨g, cap, cur, rfl, hg, (hb g rfl).trans hh, hr⟩⟩
theorem cell_sameB {w w' : World} {R o : Nat} {x : Value} (h : w'.heap[R]? = w.heap[R]?) (hc : w.cell? ⟨R, o, none⟩ = some x) : w'.cell? ⟨R, o, none⟩ = some x :=
  (World.cell?_of_block (w := w) (a := ⟨R, o, none⟩) h).trans hc
theorem frozen_sameB {w w' : World} {R o : Nat} (h : w'.heap[R]? = w.heap[R]?) (hc : w.frozen? ⟨R, o, none⟩ = false) : w'.frozen? ⟨R, o, none⟩ = false :=
  (World.frozen?_of_block (w := w) (a := ⟨R, o, none⟩) h).trans hc
theorem RM.keep {w w' : World} {R : Nat} {s : Sg} (h : RM w R s) (hb : ∀ b, RB R s b → w'.heap[b]? = w.heap[b]?) (hs : w.heap.size ≤ w'.heap.size) : RM w' R s := by
  have hR := hb R (.inl (.inl rfl))
  exact ⟨fun i h1 h2 h3 => cell_sameB hR (h.idle i h1 h2 h3), cell_sameB hR h.c22, cell_sameB hR h.c23, fun o => frozen_sameB hR (h.fz o), owns_sameB h.o1 (fun k hk => hb k (.inl (.inr (.inl hk)))), owns_sameB h.o2 (fun k hk => hb k (.inl (.inr (.inr hk)))), h.ne,
    fun e he => ⟨by have := (h.rows e he).1; omega, (h.rows e he).2.keep (hb _ (.inr ⟨e, he, rfl⟩))⟩, h.rx, h.bd⟩
theorem RM.grow {w w' : World} {R : Nat} {s : Sg} (h : RM w R s) (hg : Below w.heap.size w w') : RM w' R s := h.keep (fun b hb => hg.block b (h.lt hb)) hg.size
structure To (R : Nat) (w : World) (s : Sg) (w' : World) (s' : Sg) : Prop where
  bel : Below R w w'
  block : ∀ b, b < w.heap.size → ¬ XB R s b → w'.heap[b]? = w.heap[b]?
  xb : ∀ b, XB R s' b → XB R s b ∨ w.heap.size ≤ b
  rb : ∀ b, RB R s' b → RB R s b ∨ w.heap.size ≤ b
theorem To.grow {R : Nat} {w w' : World} {s : Sg} (hg : Below w.heap.size w w') (hR : R ≤ w.heap.size) : To R w s w' s := ⟨hg.mono hR, fun b hb _ => hg.block b hb, fun _ h => .inl h, fun _ h => .inl h⟩
theorem To.trans {R : Nat} {w w' w2 : World} {s s' s2 : Sg} (h : To R w s w' s') (k : To R w' s' w2 s2) : To R w s w2 s2 := by
  have hs := h.bel.size
  refine ⟨h.bel.trans k.bel, fun b hb hx => (k.block b (by omega) fun e => ?_).trans (h.block b hb hx), fun b hb => ?_, fun b hb => ?_⟩
  · rcases h.xb b e with e | e
    · exact hx e
    · omega
  · rcases k.xb b hb with e | e
    · exact h.xb b e
    · exact .inr (by omega)
  · rcases k.rb b hb with e | e
    · exact h.rb b e
    · exact .inr (by omega)
theorem To.late {R : Nat} {w w1 w2 : World} {s s' : Sg} (h : To R w s w1 s') (hb : Below w.heap.size w1 w2) (hR : R ≤ w.heap.size) : To R w s w2 s' :=
  ⟨h.bel.trans (hb.mono hR), fun b hlt hx => (hb.block b hlt).trans (h.block b hlt hx), h.xb, h.rb⟩
structure LS (R : Nat) (w : World) (s : Sg) (wr : World) (sr : Sg) (u : Value) (n : Nat) (xs : List Value) (T : Nat → Prop) : Prop where
  rm : RM wr R sr
  hto : To R w s wr sr
  own : wr.ownsRow w.heap.size 30 41 u n xs
  nb : ∀ b, u.ownBlock = some b → ¬ RB R sr b
  ts : ∀ b, T b → w.heap.size ≤ b ∧ b < wr.heap.size ∧ ¬ XB R sr b ∧ some b ≠ u.ownBlock
theorem LS.call {R : Nat} {w wr w2 : World} {s sr s2 : Sg} {u : Value} {n : Nat} {xs : List Value} {T : Nat → Prop} (h : LS R w s wr sr u n xs T) (hm : RM w2 R s2) (ht : To R wr sr w2 s2) :
    LS R w s w2 s2 u n xs (fun b => T b ∨ (wr.heap.size ≤ b ∧ b < w2.heap.size ∧ ¬ XB R s2 b)) ∧ ∀ b, T b → w2.heap[b]? = wr.heap[b]? := by
  have hs := ht.bel.size
  have hs0 := h.hto.bel.size
  have hu : ∀ b, u.ownBlock = some b → b < wr.heap.size := fun b hb => (World.ownsRow.lt h.own b hb).2
  refine ⟨⟨hm, h.hto.trans ht, owns_sameB h.own (fun b hb => ht.block b (hu b hb) fun e => h.nb b hb (.inl e)), fun b hb e => ?_, ?_⟩, fun b hb => ht.block b (h.ts b hb).2.1 (h.ts b hb).2.2.1⟩
  · rcases ht.rb b e with e | e
    · exact h.nb b hb e
    · have := hu b hb; omega
  · rintro b (hb | hb)
    · obtain ⟨h1, h2, h3, h4⟩ := h.ts b hb
      refine ⟨h1, by omega, fun e => ?_, h4⟩
      rcases ht.xb b e with e | e
      · exact h3 e
      · omega
    · exact ⟨by omega, hb.2.1, hb.2.2, fun e => by have := hu b e.symm; omega⟩
theorem LS.app {R : Nat} {w wr w4 : World} {s sr : Sg} {u u' : Value} {n : Nat} {xs ys : List Value} {T : Nat → Prop} {c : Obj} (h : LS R w s wr sr u n xs T) (hR : R ≤ w.heap.size) (ho : w4.ownsRow w.heap.size 30 41 u' (n + 1) (xs ++ ys)) (hg : (wr.alloc c).grownBy w4 u.ownBlock)
    (hat : u'.ownBlock = u.ownBlock ∨ u'.ownBlock = some (wr.alloc c).heap.size) : LS R w s w4 sr u' (n + 1) (xs ++ ys) T ∧ ∀ b, T b → w4.heap[b]? = wr.heap[b]? := by
  have hs := hg.size
  have hs0 := h.hto.bel.size
  simp only [World.size_alloc] at hs hat
  have hu : ∀ b, u.ownBlock = some b → w.heap.size ≤ b ∧ b < wr.heap.size := fun b hb => World.ownsRow.lt h.own b hb
  have hsame : ∀ b, b < wr.heap.size → some b ≠ u.ownBlock → w4.heap[b]? = wr.heap[b]? := fun b hb hne => (hg.block b (by simp; omega) hne).trans (Below.heap_alloc wr _ b hb)
  refine ⟨⟨h.rm.keep (fun b hb => hsame b (h.rm.lt hb) fun e => h.nb b e.symm hb) (by omega), h.hto.late ?_ hR, ho, fun b hb e => ?_, fun b hb => ?_⟩, fun b hb => hsame b (h.ts b hb).2.1 (h.ts b hb).2.2.2⟩
  · refine Below.trans (b := wr.alloc c) ((Below.refl _ _).alloc (by omega) _) ((Below.refl _ _).grown hg (by simp; omega) fun g hg => (hu g hg).1)
  · rcases hat with q | q
    · rw [q] at hb; exact h.nb b hb e
    · rw [q] at hb; injection hb with hb; have := h.rm.lt e; omega
  · obtain ⟨h1, h2, h3, h4⟩ := h.ts b hb
    refine ⟨h1, by omega, h3, ?_⟩
    rcases hat with q | q
    · rw [q]; exact h4
    · rw [q]; intro e; injection e with e; omega
theorem mk_of_own {w : World} {lo g n k cap N : Nat} {zv : Vd} {zm : Md} {xs : List Value} (h : w.ownsRow lo 30 41 (.slice (some ⟨g, 0, none⟩) n cap) n (xs ++ markC zv zm k)) (hx : xs.length = N * 41) : Mk w g N k := fun i hi => by
  refine ⟨nc (wordB i) zv zm (.slice none 0 0), fun j u hj => ?_, nc_size .., ?_, nc_name .., nc_kids ..⟩
  · have hj' := (Array.getElem?_eq_some_iff.1 hj).1
    rw [nc_size] at hj'
    have := World.ownsRow.cells h (g := g) rfl (N * 41 + (i * 41 + j)) u (by rw [List.getElem?_append_right (by omega), hx, show N * 41 + (i * 41 + j) - N * 41 = i * 41 + j by omega, markC_at zv zm k i hi j hj']; exact hj)
    rw [show ((⟨g, 0, none⟩ : Addr).add (N * 41 + (i * 41 + j))) = ⟨g, 0 + (N * 41 + (i * 41 + j)), none⟩ from Addr.add_mid g 0 _, Nat.zero_add] at this
    rw [show (N + i) * 41 + j = N * 41 + (i * 41 + j) by omega]
    exact this
  · rw [Array.all_eq_true_iff_forall_mem]
    intro x hx
    simp only [nc, vx, mx, List.mem_toArray, List.mem_cons, List.mem_append, List.mem_map, List.not_mem_nil, or_false] at hx
    rcases hx with rfl | (rfl | rfl | rfl | ⟨b, _, rfl⟩) | (rfl | rfl | rfl | rfl) | rfl <;> rfl
theorem frozen_setG (w : World) (g k i : Nat) (x : Value) : (w.setCell ⟨g, k, none⟩ x).frozen? ⟨g, i, none⟩ = w.frozen? ⟨g, i, none⟩ := by
  simp only [World.frozen?, World.setCell, Array.getElem?_modify, if_true]
  cases hh : w.heap[g]? with
  | none => rfl
  | some ob => cases ob <;> rfl
theorem setCell_sizeB (w : World) (a : Addr) (x : Value) : (w.setCell a x).heap.size = w.heap.size := by simp [World.setCell]
theorem setCell_blockB {w : World} {R o b : Nat} {x : Value} (h : b ≠ R) : (w.setCell ⟨R, o, none⟩ x).heap[b]? = w.heap[b]? := Below.heap_setCell _ _ _ b h
theorem LS.done {R : Nat} {w wr w5 w7 : World} {s sr : Sg} {g uc N k : Nat} {xs : List Value} {zv : Vd} {zm : Md} {T : Nat → Prop} {v1' v2' : Value} {c1 c2 : Obj} (hl : LS R w s wr sr (.slice (some ⟨g, 0, none⟩) (N + k) uc) (N + k) (xs ++ markC zv zm k) T) (hx : xs.length = N * 41) (hN : N ≤ 20000) (hk : k ≤ 40)
    (o5 : w5.ownsRow (R + 1) 28 1 v1' (sr.ls.length + 1) (sr.ls.map Kr.v ++ [Kr.v ⟨g, N, k, uc⟩])) (g5 : (wr.alloc c1).grownBy w5 sr.v1.ownBlock) (a5 : v1'.ownBlock = sr.v1.ownBlock ∨ v1'.ownBlock = some (wr.alloc c1).heap.size)
    (o7 : w7.ownsRow (R + 1) 3 1 v2' (sr.ls.length + 1) ((sr.ls.map fun e => Value.int .i64 e.n) ++ [.int .i64 N])) (g7 : ((w5.setCell ⟨R, 22, none⟩ v1').alloc c2).grownBy w7 sr.v2.ownBlock) (a7 : v2'.ownBlock = sr.v2.ownBlock ∨ v2'.ownBlock = some ((w5.setCell ⟨R, 22, none⟩ v1').alloc c2).heap.size) :
    RM (w7.setCell ⟨R, 23, none⟩ v2') R ⟨v1', v2', sr.ls ++ [⟨g, N, k, uc⟩]⟩ ∧ To R w s (w7.setCell ⟨R, 23, none⟩ v2') ⟨v1', v2', sr.ls ++ [⟨g, N, k, uc⟩]⟩ ∧ (∀ b, b < wr.heap.size → ¬ XB R sr b → (w7.setCell ⟨R, 23, none⟩ v2').heap[b]? = wr.heap[b]?) ∧ (∀ b, XB R ⟨v1', v2', sr.ls ++ [⟨g, N, k, uc⟩]⟩ b → XB R sr b ∨ wr.heap.size ≤ b) ∧ wr.heap.size ≤ (w7.setCell ⟨R, 23, none⟩ v2').heap.size := by
  have m := hl.rm
  have hs5 := g5.size
  have hs7 := g7.size
  simp only [World.size_alloc, setCell_sizeB] at hs5 hs7 a5 a7
  have h1lt := World.ownsRow.lt m.o1
  have h2lt := World.ownsRow.lt m.o2
  have hgl := World.ownsRow.lt hl.own g rfl
  have hRl : R < wr.heap.size := m.lt (.inl (.inl rfl))
  have e5 : ∀ b, b < wr.heap.size → sr.v1.ownBlock ≠ some b → w5.heap[b]? = wr.heap[b]? := fun b hb h1 => (g5.block b (by simp; omega) (Ne.symm h1)).trans (Below.heap_alloc wr _ b hb)
  have e7 : ∀ b, b < w5.heap.size → b ≠ R → sr.v2.ownBlock ≠ some b → w7.heap[b]? = w5.heap[b]? := fun b hb h1 h2 => (g7.block b (by simp; omega) (Ne.symm h2)).trans ((Below.heap_alloc _ _ b (by rw [setCell_sizeB]; exact hb)).trans (setCell_blockB h1))
  have A : ∀ b, b < wr.heap.size → ¬ XB R sr b → (w7.setCell ⟨R, 23, none⟩ v2').heap[b]? = wr.heap[b]? := fun b hb hx => by
    have n1 : b ≠ R := fun e => hx (.inl e)
    exact (setCell_blockB n1).trans ((e7 b (by omega) n1 fun e => hx (.inr (.inr e))).trans (e5 b hb fun e => hx (.inr (.inl e))))
  have X : ∀ b, XB R ⟨v1', v2', sr.ls ++ [⟨g, N, k, uc⟩]⟩ b → XB R sr b ∨ wr.heap.size ≤ b := fun b hb => by
    rcases hb with h | h | h
    · exact .inl (.inl h)
    · rcases a5 with e | e
      · exact .inl (.inr (.inl (e ▸ h)))
      · have h' : v1'.ownBlock = some b := h
        rw [e] at h'; injection h' with h'; exact .inr (by omega)
    · rcases a7 with e | e
      · exact .inl (.inr (.inr (e ▸ h)))
      · have h' : v2'.ownBlock = some b := h
        rw [e] at h'; injection h' with h'; exact .inr (by omega)
  have hgx : ¬ RB R sr g := hl.nb g rfl
  have r5 : w5.heap[R]? = wr.heap[R]? := e5 R hRl fun e => by have := (h1lt R e).1; omega
  have r7 : w7.heap[R]? = (w5.setCell ⟨R, 22, none⟩ v1').heap[R]? := (g7.block R (by simp; omega) fun e => by have := (h2lt R e.symm).1; omega).trans (Below.heap_alloc _ _ R (by rw [setCell_sizeB]; omega))
  have c22 : w5.cell? ⟨R, 22, none⟩ = some sr.v1 := cell_sameB r5 m.c22
  have c23 : w7.cell? ⟨R, 23, none⟩ = some sr.v2 := cell_sameB r7 ((World.cell?_setCell_other _ _ _ _ (by simp)).trans (cell_sameB r5 m.c23))
  have b1 : ∀ b, v1'.ownBlock = some b → R + 1 ≤ b ∧ b < w5.heap.size ∧ sr.v2.ownBlock ≠ some b := fun b hb => by
    obtain ⟨q1, q2⟩ := World.ownsRow.lt o5 b hb
    refine ⟨q1, q2, fun e => ?_⟩
    rcases a5 with a | a
    · exact m.ne b (a ▸ hb) e
    · rw [a] at hb; injection hb with hb; have := (h2lt b e).2; omega
  have b2 : ∀ b, v2'.ownBlock = some b → R + 1 ≤ b ∧ b < w7.heap.size := fun b hb => World.ownsRow.lt o7 b hb
  refine ⟨⟨fun i h1 h2 h3 => ?_, ?_, World.cell?_setCell_same _ _ _ c23, fun o => ?_, ?_, ?_, fun b hb hb2 => ?_, fun e he => ?_, fun e he hx => ?_, fun e he => ?_⟩, ⟨?_, fun b hb hx => ?_, fun b hb => ?_, fun b hb => ?_⟩, A, X, by rw [setCell_sizeB]; omega⟩
  · exact (World.cell?_setCell_other _ _ _ _ (by simp)).trans (cell_sameB r7 ((World.cell?_setCell_other _ _ _ _ (by simp)).trans (cell_sameB r5 (m.idle i h1 h2 h3))))
  · exact (World.cell?_setCell_other _ _ _ _ (by simp)).trans (cell_sameB r7 (World.cell?_setCell_same _ _ _ c22))
  · exact (frozen_setG w7 R 23 o _).trans (frozen_sameB r7 ((frozen_setG w5 R 22 o _).trans (frozen_sameB r5 (m.fz o))))
  · have := owns_sameB o5 (w' := w7.setCell ⟨R, 23, none⟩ v2') (fun b hb => (setCell_blockB (by have := (b1 b hb).1; omega)).trans (e7 b (b1 b hb).2.1 (by have := (b1 b hb).1; omega) (b1 b hb).2.2))
    simpa using this
  · have := owns_sameB o7 (w' := w7.setCell ⟨R, 23, none⟩ v2') (fun b hb => setCell_blockB (by have := (b2 b hb).1; omega))
    simpa using this
  · rcases a7 with a | a
    · exact (b1 b hb).2.2 (by rw [← a]; exact hb2)
    · have h' : v2'.ownBlock = some b := hb2
      rw [a] at h'; injection h' with h'; have := (b1 b hb).2.1; omega
  · rcases List.mem_append.1 he with he | he
    · exact ⟨by have := (m.rows e he).1; rw [setCell_sizeB]; omega, (m.rows e he).2.keep (A _ (m.rows e he).1 (m.rx e he))⟩
    · simp at he; subst he
      exact ⟨by show g < _; rw [setCell_sizeB]; omega, (mk_of_own hl.own hx).keep (A g hgl.2 fun e => hgx (.inl e))⟩
  · rcases List.mem_append.1 he with he | he
    · rcases X _ hx with q | q
      · exact m.rx e he q
      · have := (m.rows e he).1; omega
    · simp at he; subst he
      rcases X _ hx with q | q
      · exact hgx (.inl q)
      · have := hgl.2; simp only [] at q; omega
  · rcases List.mem_append.1 he with he | he
    · exact m.bd e he
    · simp at he; subst he
      exact ⟨hN, hk⟩
  · refine ⟨?_, ?_, ?_, ?_, fun b hb => ?_⟩
    · exact g7.os.trans (g5.os.trans hl.hto.bel.os)
    · exact g7.tape.trans (g5.tape.trans hl.hto.bel.tape)
    · exact g7.output.trans (g5.output.trans hl.hto.bel.output)
    · have := hl.hto.bel.size; rw [setCell_sizeB]; omega
    · exact (A b (by omega) fun e => by have := m.ge e; omega).trans (hl.hto.bel.block b hb)
  · have := hl.hto.bel.size
    refine (A b (by omega) fun e => ?_).trans (hl.hto.block b hb hx)
    rcases hl.hto.xb b e with e | e
    · exact hx e
    · omega
  · rcases X b hb with e | e
    · exact hl.hto.xb b e
    · have := hl.hto.bel.size; exact .inr (by omega)
  · rcases hb with hb | ⟨e, he, rfl⟩
    · rcases X b hb with e | e
      · rcases hl.hto.xb b e with e | e
        · exact .inl (.inl e)
        · exact .inr e
      · have := hl.hto.bel.size; exact .inr (by omega)
    · rcases List.mem_append.1 he with he | he
      · exact hl.hto.rb _ (.inr ⟨e, he, rfl⟩)
      · simp at he; subst he
        exact .inr hgl.1
def bang : ByteArray := ⟨#[33]⟩
def bangV : Vd := ⟨77, 0, 0, zeros, by simp [zeros]⟩
def bangC : Array Value := nc bang bangV Md.zero (.slice none 0 0)
structure Spl (S : Nat → Prop) (w w' : World) : Prop where
  os : w'.os = w.os
  tape : w'.tape = w.tape
  output : w'.output = w.output
  size : w'.heap.size = w.heap.size
  block : ∀ b, ¬ S b → w'.heap[b]? = w.heap[b]?
theorem Spl.refl (S : Nat → Prop) (w : World) : Spl S w w := ⟨rfl, rfl, rfl, rfl, fun _ _ => rfl⟩
theorem Spl.trans {S S' : Nat → Prop} {a b c : World} (h : Spl S a b) (k : Spl S' b c) (hs : ∀ b, S' b → S b) : Spl S a c :=
  ⟨k.os.trans h.os, k.tape.trans h.tape, k.output.trans h.output, k.size.trans h.size, fun x hx => (k.block x fun e => hx (hs x e)).trans (h.block x hx)⟩
theorem setCells_os (g : Nat) : ∀ (vs : List Value) (o : Nat) (w : World), (w.setCells g o vs).os = w.os ∧ (w.setCells g o vs).tape = w.tape ∧ (w.setCells g o vs).output = w.output ∧ (w.setCells g o vs).heap.size = w.heap.size
  | [], _, _ => ⟨rfl, rfl, rfl, rfl⟩
  | v :: r, o, w => by
    obtain ⟨h1, h2, h3, h4⟩ := setCells_os g r (o + 1) (w.setCell ⟨g, o, none⟩ v)
    exact ⟨h1.trans rfl, h2.trans rfl, h3.trans rfl, h4.trans (by simp [World.setCell])⟩
theorem setCells_blockB (g : Nat) : ∀ (vs : List Value) (o : Nat) (w : World) (b : Nat), b ≠ g → (w.setCells g o vs).heap[b]? = w.heap[b]?
  | [], _, _, _, _ => rfl
  | v :: r, o, w, b, h => (setCells_blockB g r (o + 1) (w.setCell ⟨g, o, none⟩ v) b h).trans (Below.heap_setCell _ _ _ b h)
theorem Spl.store {S : Nat → Prop} (w : World) (g o : Nat) (vs : List Value) (hg : S g) : Spl S w (w.setCells g o vs) := by
  obtain ⟨h1, h2, h3, h4⟩ := setCells_os g vs o w
  exact ⟨h1, h2, h3, h4, fun b hb => setCells_blockB g vs o w b fun e => hb (e ▸ hg)⟩
theorem lies_there {w : World} {g o : Nat} {c : Array Value} (h : Lies w g o c) (hs : c.size = 41) (hf : ∀ j, w.frozen? ⟨g, j, none⟩ = false) : w.there g o 41 := fun j hj => ⟨by rw [h j c[j] (by simp)]; rfl, hf _⟩
theorem lies_in {w : World} {g o : Nat} {c d : Array Value} (h : Lies w g o c) (hs : c.size = 41) (hd : d.size = 41) : Lies (w.setCells g o d.toList) g o d := fun j u hj => by
  have hlt := (Array.getElem?_eq_some_iff.1 hj).1
  have := World.cell?_setCells_in g d.toList o w (fun i hi => by rw [h i (c[i]'(by simp at hi; omega)) (by simp)]; rfl) j (by simpa using hlt)
  rw [this, ← hj]
  simp
theorem lies_out {w : World} {g o o' : Nat} {c : Array Value} {vs : List Value} (h : Lies w g o c) (hs : c.size = 41) (ha : o + 41 ≤ o' ∨ o' + vs.length ≤ o) : Lies (w.setCells g o' vs) g o c := fun j u hj => by
  have hlt := (Array.getElem?_eq_some_iff.1 hj).1
  rw [World.cell?_setCells_out g vs o' w ⟨g, o + j, none⟩ (fun _ _ => by show o + j < o' ∨ o' + vs.length ≤ o + j; omega)]
  exact h j u hj
theorem HasRD.aside {w : World} {g o' : Nat} {vs : List Value} : ∀ {f : F} {S : Nat → Prop} {o : Nat}, HasRD w f S g o → (∀ b, S b → b ≠ g) → o' + vs.length ≤ o → HasRD (w.setCells g o' vs) f S g o
  | .nil, _, _, _, _, _ => trivial
  | .cons _ _ _ _ _, S, o, ⟨S1, S2, a, cap, h1, h2, hc, hl, hk, hr⟩, hg, ho => by
    refine ⟨S1, S2, a, cap, h1, h2, lies_out hc (nc_size ..) (.inr ho), hl, hk.imp id ?_, HasRD.aside hr (fun b hb => hg b (h2 b hb)) (by omega)⟩
    rintro ⟨g', ha, hs, hf, h⟩
    exact ⟨g', ha, hs, fun j => (World.frozen?_setCells g vs o' w _).trans (hf j), h.keep (fun b hb => ⟨setCells_blockB g vs o' w b (hg b (h1 b hb.1).1), hb⟩) (setCells_blockB g vs o' w g' (hg g' (h1 g' hs).1))⟩
theorem exec_build {o : Oper} {a : Act} (ty : TypeId) (parts : Array (Nat × Operand)) (ho : o.op = .build ty parts) (ps : Array (Nat × Value)) (v : Value) (w : World) (hp : (parts.map fun (p : Nat × Operand) => (p.1, a.eval p.2)) = ps) (hb : (Instr.build ty ps).run Tryz.prog w = .ok v w) :
    (execOp a.eval o).run Tryz.prog w = .ok (.value v) w := by
  unfold execOp
  simp only [ho]
  have : (parts.map fun (x : Nat × Operand) => match x with | (i, x) => (i, a.eval x)) = ps := hp
  rw [this]
  simp only [Sem.run_bind, hb, Result.andThen_ok, Sem.run_pure]
def SI (S : Nat → Prop) (w : World) (a : Option Addr) (f : F) (wr : World) (i : Nat) : Prop := Spl S w wr ∧ (f = .nil ∨ ∃ g, a = some ⟨g, 0, none⟩ ∧ S g ∧ (∀ j, wr.frozen? ⟨g, j, none⟩ = false) ∧ (∀ j, j < i → Lies wr g (j * 41) bangC) ∧ ∃ S2 : Nat → Prop, (∀ b, S2 b → S b ∧ b ≠ g) ∧ HasRD wr (f.drop i) S2 g (i * 41))
theorem bangC_size : bangC.size = 41 := nc_size ..
theorem SI.next {S S1 S2 : Nat → Prop} {w wr w2 : World} {g : Nat} {f : F} {i : Nat} {nm : ByteArray} {v : Vd} {m : Md} {kv : Value} (hs : Spl S w wr) (hg : S g) (hf : ∀ j, wr.frozen? ⟨g, j, none⟩ = false) (hb : ∀ j, j < i → Lies wr g (j * 41) bangC) (h1 : ∀ b, S1 b → (S b ∧ b ≠ g) ∧ ¬ S2 b) (h2 : ∀ b, S2 b → S b ∧ b ≠ g)
    (hc : Lies wr g (i * 41) (nc nm v m kv)) (hr : HasRD wr (f.drop (i + 1)) S2 g (i * 41 + 41)) (hw : Spl S1 wr w2) : w2.there g (i * 41) 41 ∧ SI S w (some ⟨g, 0, none⟩) f (w2.setCells g (i * 41) bangC.toList) (i + 1) := by
  have eg : w2.heap[g]? = wr.heap[g]? := hw.block g fun e => (h1 g e).1.2 rfl
  have hc2 := hc.sameB eg
  have hf2 : ∀ j, w2.frozen? ⟨g, j, none⟩ = false := fun j => frozen_sameB eg (hf j)
  have hl : bangC.toList.length = 41 := by simp [bangC_size]
  refine ⟨lies_there hc2 (nc_size ..) hf2, (hs.trans hw fun b hb => (h1 b hb).1.1).trans (Spl.store w2 g (i * 41) _ hg) fun _ h => h, .inr ⟨g, rfl, hg, fun j => (World.frozen?_setCells g _ _ w2 _).trans (hf2 j), fun j hj => ?_, S2, h2, ?_⟩⟩
  · by_cases e : j = i
    · subst e
      exact lies_in hc2 (nc_size ..) bangC_size
    · exact lies_out ((hb j (by omega)).sameB eg) bangC_size (.inl (by omega))
  · rw [show (i + 1) * 41 = i * 41 + 41 by omega]
    exact (hr.keep (fun b hb => ⟨hw.block b fun e => (h1 b e).2 hb, hb⟩) eg).aside (fun b hb => (h2 b hb).2) (by rw [hl]; exact Nat.le_refl _)
variable {P : Nat → Prop}
def Var24 (w : World) (g : Nat) (c : Array Value) : Prop := w.heap[g]? = some (.cells c 24 (0, 0))
theorem Var24.lt {w : World} {g : Nat} {c : Array Value} (h : Var24 w g c) : g < w.heap.size := (Array.getElem?_eq_some_iff.1 h).1
theorem Var24.grow {w w' : World} {g : Nat} {c : Array Value} (h : Var24 w g c) (hg : G w w') : Var24 w' g c := (Below.block hg g h.lt).trans h
theorem vx_size (v : Vd) : (vx v).toArray.size = 35 := by simp [vx_len]
theorem run_zero24 (w : World) : (zeroValue 24).run Tryz.prog w = .ok (.agg (vx Vd.zero).toArray) w := by
  have h : (Tryz.prog.info? 24).bind (·.zero) = some (.agg (vx Vd.zero).toArray) := by kernel_rfl
  cases hq : Tryz.prog.info? 24 with
  | none => rw [hq] at h; cases h
  | some i =>
    rw [hq] at h
    simp only [Option.bind_some] at h
    simp [zeroValue, typeInfo, hq, h]
theorem exec_alloc24 {o : Oper} {a : Act} (ho : o.op = .alloc 24) (w : World) : (execOp a.eval o).run Tryz.prog w = .ok (.value (.pointer (some ⟨w.heap.size, 0, none⟩))) (w.alloc (.cells (vx Vd.zero).toArray 24)) := by
  unfold execOp
  simp only [ho, Instr.alloc, Sem.run_bind, run_zero24, Result.andThen_ok]
  simp [newVar, newRow, newObj, Value.cells]
  rfl
theorem exec_store24 {o : Oper} {a : Act} (x y : Operand) (ho : o.op = .store 24 x y) (g : Nat) (c old : Array Value) (hx : a.eval x = .pointer (some ⟨g, 0, none⟩)) (hy : a.eval y = .agg c) (w : World) (hg : Var24 w g old)
    (hs : c.size = 35) (hs' : old.size = 35) (h1 : c.all (·.oneCell') = true) : (execOp a.eval o).run Tryz.prog w = .ok .skip (w.setRow g c) := by
  unfold execOp
  simp only [ho, hx, hy, Instr.storeAt, Instr.sureAddr, Sem.run_bind, Sem.run_pure, Result.andThen_ok, run_storeVar_row (P := Tryz.prog) w g 24 24 old c hg (by rw [size24, hs]) (by rw [hs, hs']) h1]
theorem vx_one (v : Vd) : (vx v).toArray.all (·.oneCell') = true := by
  rw [Array.all_eq_true_iff_forall_mem]
  intro x hx
  simp only [vx, List.mem_toArray, List.mem_cons, List.mem_map] at hx
  rcases hx with rfl | rfl | rfl | ⟨b, _, rfl⟩ <;> rfl
theorem results_cell2 {fn : Func} {p u : Tmp} (h : fn.results = #[.cell p 24, .tmp u]) (tmps : Array Value) (w : World) (g : Nat) (cs : Array Value) (hp : tmps.getD p undef = .pointer (some ⟨g, 0, none⟩)) (hg : Var24 w g cs) (hs : cs.size = 35) :
    (results fn tmps).run Tryz.prog w = .ok (.tuple #[.agg cs, tmps.getD u undef]) w := by
  have hu : Tryz.prog.underlying 24 = some (.struct (Tryz.prog.fieldsOf 24)) := by kernel_rfl
  rw [results_cell_tmp h, hp]
  simp only [asAddr, Sem.run_pure, Result.andThen_ok, run_loadVar_row (P := Tryz.prog) w g 24 24 cs (0, 0) _ hg hu rfl (by rw [size24, hs])]
def atV (t : T3) (s : ByteArray) : Vd := match subS t s with | none => Vd.zero | some x => x.1
theorem at_any (p : Nat) (t : T3) (s : ByteArray) (w : World) (ht : AtTF P w p t.1 t.2.1 t.2.2) (hr : t.2.2.rises) (hs : s.size ≤ 1048576) :
    Calls Tryz.prog 17 #[.pointer (some ⟨p, 0, none⟩), .string s] w fun e w' => e = .returned (.tuple #[.agg (vx (atV t s)).toArray, .bool (subS t s).isSome]) ∧ G w w' := by
  have hG : G w (w.alloc (.cells (vx Vd.zero).toArray 24)) := G.alloc _ _
  have C1 := sub_any p t s _ (ht.grow hG) hr hs
  have hV : Var24 (w.alloc (.cells (vx Vd.zero).toArray 24)) w.heap.size (vx Vd.zero).toArray := World.alloc_heap_new w _
  have HV := hid (⟨hV, hG⟩ : _ ∧ _)
  have hat : atV t s = (match subS t s with | none => Vd.zero | some x => x.1) := rfl
  cases hS : subS t s with
  | none =>
    rw [hS] at C1 hat
    rw [hat]
    clear hat hS ht hr hV hG
    go_enter Tryz.func17, Tryz.ntmps17
    go_upto_region 1 with ((with_reducible refine wpList_execW (.pointer (some ⟨w.heap.size, 0, none⟩)) (w.alloc (.cells (vx Vd.zero).toArray 24)) ?_ ?_ ?_); exact exec_alloc24 rfl _; kernel_rfl)
    generalize w.alloc (.cells (vx Vd.zero).toArray 24) = w1 at *
    generalize hB : w.heap.size = B at *
    have HB := hid hB
    clear hB
    go_wp2_with (first
      | (go_at_call 33; refine C1.mono ?_; rintro e w2 ⟨u, rfl, hu, hg2⟩; have hu2 : u = .pointer none := hu; subst hu2; have HV2 := hid (⟨HV.out.1.grow hg2, HV.out.2.trans hg2⟩ : Var24 w2 B (vx Vd.zero).toArray ∧ G w w2); clear hu hg2)
      | ((with_reducible refine wpList_exec (.agg (vx Vd.zero).toArray) ?_ ?_ ?_); exact exec_build 24 _ rfl _ _ _ rfl (run_build _ 24 _ _ (by kernel_rfl)); kernel_rfl)
      | ((with_reducible refine wpList_skipW (w2.setRow B (vx Vd.zero).toArray) ?_ ?_ ?_); exact exec_store24 _ _ rfl B _ (vx Vd.zero).toArray rfl rfl _ HV2.out.1 (vx_size _) (vx_size _) (vx_one _); kernel_rfl))
    refine bodyPost_ret (results_cell2 (p := 4) (u := 5) rfl _ _ B (vx Vd.zero).toArray rfl (setRow_heap _ _ _ _ 24 _ HV2.out.1) (vx_size _)) rfl ⟨rfl, ?_⟩
    have hBw := HB.out
    exact Below.trans (B := w.heap.size) HV2.out.2 ⟨rfl, rfl, rfl, by simp, fun b hb => setRow_other _ B b _ (by omega)⟩
  | some x =>
    rw [hS] at C1 hat
    rw [hat]
    clear hat hS ht hr hV hG
    go_enter Tryz.func17, Tryz.ntmps17
    go_upto_region 1 with ((with_reducible refine wpList_execW (.pointer (some ⟨w.heap.size, 0, none⟩)) (w.alloc (.cells (vx Vd.zero).toArray 24)) ?_ ?_ ?_); exact exec_alloc24 rfl _; kernel_rfl)
    generalize w.alloc (.cells (vx Vd.zero).toArray 24) = w1 at *
    generalize hB : w.heap.size = B at *
    have HB := hid hB
    clear hB
    go_wp2_with (first
      | (go_at_call 33; refine C1.mono ?_; rintro e w2 ⟨u, rfl, ⟨p2, hu, h2⟩, hg2⟩; subst hu; have HV2 := hid (⟨HV.out.1.grow hg2, HV.out.2.trans hg2⟩ : Var24 w2 B (vx Vd.zero).toArray ∧ G w w2); obtain ⟨ak, hli, _⟩ := h2.kids; have HL : Hid (Lies w2 p2 0 (vx x.1).toArray) := fun j u hj => hli j u (by rw [tc, List.getElem?_toArray, List.getElem?_append_left (by have := (Array.getElem?_eq_some_iff.1 hj).1; simpa using this)]; simpa using hj); clear h2 hg2 hli)
      | ((with_reducible refine wpList_exec (.agg (vx x.1).toArray) ?_ ?_ ?_); exact exec_load24 _ rfl p2 0 rfl _ (vx_size _) HL.out; kernel_rfl)
      | ((with_reducible refine wpList_skipW (w2.setRow B (vx x.1).toArray) ?_ ?_ ?_); exact exec_store24 _ _ rfl B _ (vx Vd.zero).toArray rfl rfl _ HV2.out.1 (vx_size _) (vx_size _) (vx_one _); kernel_rfl))
    refine bodyPost_ret (results_cell2 (p := 4) (u := 5) rfl _ _ B (vx x.1).toArray rfl (setRow_heap _ _ _ _ 24 _ HV2.out.1) (vx_size _)) rfl ⟨rfl, ?_⟩
    have hBw := HB.out
    exact Below.trans (B := w.heap.size) HV2.out.2 ⟨rfl, rfl, rfl, by simp, fun b hb => setRow_other _ B b _ (by omega)⟩
end Go.Proofs.YtbjjbgaomoihaaaGreatDoor
