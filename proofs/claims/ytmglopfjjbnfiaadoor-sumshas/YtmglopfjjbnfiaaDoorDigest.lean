/-
  sum.Digest by contract.
-/
import Derived.Test.YtmglopfjjbnfiaaDoorLong
import Derived.Test.YtmglopfjjbnfiaaDoorChunk
import Derived.Shelf.Abstract
import Derived.Shelf.RegionOpen
namespace Go.Proofs.YtmglopfjjbnfiaaDoor
open Go.RowKit Go.Shelf
attribute [local go_sem] Oper.semAt_some

def pieces (b : List Nat) : List (List Nat) := upto (pieceB b) ((b.length + 511) / 512)
def digest (b : List Nat) : List Nat := Sha.sha ((pieces b).map Sha.sha).flatten

set_option maxHeartbeats 1000000 in
set_option maxRecDepth 100000 in
theorem chunk_any (ao : Option Addr) (len cap : Nat) (w : World) :
    Calls Tryd.prog 58 #[.slice ao len cap, .int .i64 512] w fun e w' => e = .returned (.func (.func 67) #[] #[.pointer (some ⟨w.heap.size, 0, none⟩), .pointer (some ⟨w.heap.size + 1, 0, none⟩)]) ∧ w' = (w.alloc (.cells #[.slice ao len cap] 43)).alloc (.cells #[.int .i64 512] 3) := by
  have hmf : ∀ (fn : Fn) (first cap : Array Value) (w : World), (Instr.makeFunc fn first cap).run Tryd.prog w = .ok (.func fn first cap) w := fun _ _ _ _ => rfl
  go_enter Tryd.func58, Tryd.ntmps58
  go_wp2
  go_ret
  exact ⟨rfl, rfl⟩

set_option maxRecDepth 100000 in
set_option maxHeartbeats 2000000 in
theorem chunk1_nil_in {α : Type} (F : Fence) (n : Nat) (h7 : F.fn 67) (hro : F.round = none) (l Bs : Nat) (J : List α → World → Prop)
    (W : World) (hc1 : W.cell? ⟨Bs, 0, none⟩ = some (.slice none 0 0)) (h0 : J [] W) :
    CallsIn F n Tryd.prog 67 #[.func (.yield l) #[] #[], .pointer (some ⟨Bs, 0, none⟩), .pointer (some ⟨Bs + 1, 0, none⟩)] W fun e W' => (∃ v, e = .returned v) ∧ J [] W' := by
  refine callsIn_of_wp Tryd.func67 rfl h7 ?_ hro
  simp only [Tryd.ntmps67, List.size_toArray, List.length_cons, List.length_nil, Nat.reduceAdd, Nat.reduceSub, Array.replicate_succ, Array.replicate_zero, List.push_toArray, List.append_toArray, List.nil_append, List.cons_append]
  gi_wp2
  gi_loopw [4] (fun i wr => i = .int .i64 0 ∧ wr = W) (fun _ _ => 0)
  case atStart => exact ⟨rfl, rfl⟩
  case round =>
    obtain ⟨rfl, rfl⟩ := hrel
    gi_wp2
    go_end0
    exact ⟨⟨_, rfl⟩, h0⟩

/-- What a round may know of its piece. -/
abbrev Piece (w : World) : Type := { x : (Option Addr × Nat) × List Nat // Has w (.slice x.1.1 x.1.2 x.1.2) x.2 ∧ Bytes x.2 ∧ x.2.length ≤ 512 }

theorem piece_has {w : World} {a : Addr} {b : List Nat} (h : ∀ i, i < b.length → w.cell? (a.add i) = some (vb (b.getD i 0))) (hB : Bytes b) (k : Nat) :
    Has w (.slice (some (a.add (512 * k))) (min 512 (b.length - 512 * k)) (min 512 (b.length - 512 * k))) (pieceB b k) ∧ Bytes (pieceB b k) ∧ (pieceB b k).length ≤ 512 := by
  have hl : (pieceB b k).length = min 512 (b.length - 512 * k) := by unfold pieceB; simp
  refine ⟨.inr ⟨a.add (512 * k), min 512 (b.length - 512 * k), by rw [hl], by rw [hl]; exact Nat.le_refl _, fun i hi => ?_⟩, fun x hx => hB x (List.mem_of_mem_drop (List.mem_of_mem_take hx)), by rw [hl]; omega⟩
  rw [hl] at hi
  rw [Addr.add_add, h _ (by omega)]
  unfold pieceB
  simp [List.getD, List.getElem?_drop, show i < 512 by omega]

theorem digest_stops (n : Nat) (hn : 1 ≤ n) (Bs B P : Nat) (w0 w : World) (v : Value) (b : List Nat) (hv : Has w0 v b) (hB : Bytes b) (hlen : b.length < 4611686018427387904) (hBs : Bs + 1 < B) (hP : Bs ≠ P ∧ Bs + 1 ≠ P) (hsz : B ≤ w.heap.size)
    (hc1 : w.cell? ⟨Bs, 0, none⟩ = some v) (hc2 : w.cell? ⟨Bs + 1, 0, none⟩ = some (.int .i64 512)) :
    SeqStopsK Fence.wide n Tryd.prog 67 #[.pointer (some ⟨Bs, 0, none⟩), .pointer (some ⟨Bs + 1, 0, none⟩)] (fun x : Piece w0 => #[Value.slice x.1.1.1 x.1.1.2 x.1.1.2]) (BB B P) (fun ys => ys.map (fun x => x.1.2) = pieces b) (fun _ => True) ((b.length + 511) / 512) w := fun l J Jx W hW hJ _ hY h0 => by
  have d1 : W.cell? ⟨Bs, 0, none⟩ = some v := (hW.cell (p := ⟨Bs, 0, none⟩) (by show Bs < _; omega)).trans hc1
  have d2 : W.cell? ⟨Bs + 1, 0, none⟩ = some (.int .i64 512) := (hW.cell (p := ⟨Bs + 1, 0, none⟩) (by show Bs + 1 < _; omega)).trans hc2
  rcases hv with ⟨rfl, rfl⟩ | ⟨a, cap, rfl, hc, hcell⟩
  · refine (chunk1_nil_in Fence.wide n trivial rfl l Bs J W d1 h0).mono fun e W' ⟨he, hj⟩ => ⟨he, .inl ⟨[], rfl, hj⟩⟩
  · have hJ' : ∀ s A B, J s A → World.grownBy A B none → J s B := fun s A B h hg => hJ s A B none h hg (fun r e => by cases e)
    refine (chunk1_in Fence.wide n trivial rfl hn l Bs B P a b.length cap hlen hc hBs hP (fun x : Piece w0 => Value.slice x.1.1.1 x.1.1.2 x.1.1.2) (fun k => ⟨((some (a.add (512 * k)), min 512 (b.length - 512 * k)), pieceB b k), piece_has hcell hB k⟩) (fun _ => rfl) J Jx hJ' hY W d1 d2 h0).mono ?_
    rintro e W' ⟨he, ⟨ys, rfl, hj⟩ | ⟨pre, _, hj⟩⟩
    · exact ⟨he, .inl ⟨_, by show List.map _ (List.map _ (List.range _)) = List.map _ (List.range _); rw [List.map_map]; rfl, hj⟩⟩
    · exact ⟨he, .inr ⟨_, trivial, hj⟩⟩

theorem step_worldIn {F : Fence} {m : Nat} {P : Program} {c : Code} {Q : Exit → Act → World → Prop} {a : Act} {W : World} (I : World → Prop) (h : I W) (k : ∀ wr, I wr → c.wpIn F m P Q a wr) : c.wpIn F m P Q a W := k W h

structure DW (w W0 : World) (v : Value) : Prop where
  size : W0.heap.size = w.heap.size + 6
  out : W0.heap[w.heap.size]? = some (.cells (bfill 32 []) 41 (0, 0))
  hash : HashAt W0 (w.heap.size + 2) 100 []
  box : W0.heap[w.heap.size + 3]? = some (.cells #[.pointer (some ⟨w.heap.size + 2, 0, none⟩)] 62 (0, 0))
  c4 : W0.cell? ⟨w.heap.size + 4, 0, none⟩ = some v
  c5 : W0.cell? ⟨w.heap.size + 5, 0, none⟩ = some (.int .i64 512)
  below : Below w.heap.size w W0

theorem DW.start (w : World) (v : Value) : DW w ((((((w.alloc (.cells (bfill 32 []) 41)).alloc (.cells hnew 98)).alloc (.cells hnew 100)).alloc (.cells #[.pointer (some ⟨w.heap.size + 2, 0, none⟩)] 62)).alloc (.cells #[v] 43)).alloc (.cells #[.int .i64 512] 3)) v := by
  have e1 : (w.alloc (.cells (bfill 32 []) 41)).heap.size = w.heap.size + 1 := by simp
  have e2 : ((w.alloc (.cells (bfill 32 []) 41)).alloc (.cells hnew 98)).heap.size = w.heap.size + 2 := by simp
  have e3 : (((w.alloc (.cells (bfill 32 []) 41)).alloc (.cells hnew 98)).alloc (.cells hnew 100)).heap.size = w.heap.size + 3 := by simp
  have e4 : ((((w.alloc (.cells (bfill 32 []) 41)).alloc (.cells hnew 98)).alloc (.cells hnew 100)).alloc (.cells #[.pointer (some ⟨w.heap.size + 2, 0, none⟩)] 62)).heap.size = w.heap.size + 4 := by simp
  have e5 : (((((w.alloc (.cells (bfill 32 []) 41)).alloc (.cells hnew 98)).alloc (.cells hnew 100)).alloc (.cells #[.pointer (some ⟨w.heap.size + 2, 0, none⟩)] 62)).alloc (.cells #[v] 43)).heap.size = w.heap.size + 5 := by simp
  refine ⟨by simp, ?_, ?_, ?_, ?_, ?_, ?_⟩
  · rw [heap_alloc_old _ _ (by omega), heap_alloc_old _ _ (by omega), heap_alloc_old _ _ (by omega), heap_alloc_old _ _ (by omega), heap_alloc_old _ _ (by omega), heap_alloc_new]
  · refine (HashAt.block (w := ((w.alloc (.cells (bfill 32 []) 41)).alloc (.cells hnew 98)).alloc (.cells hnew 100)) ?_ ?_)
    · have := hash_new ((w.alloc (.cells (bfill 32 []) 41)).alloc (.cells hnew 98)) 100
      rw [e2] at this; exact this
    · rw [heap_alloc_old _ _ (by omega), heap_alloc_old _ _ (by omega), heap_alloc_old _ _ (by omega)]
  · rw [heap_alloc_old _ _ (by omega), heap_alloc_old _ _ (by omega), ← e3, heap_alloc_new]
  · rw [cell_of_row _ _ 0 #[v] 43 (0, 0) (by rw [heap_alloc_old _ _ (by omega), ← e4, heap_alloc_new])]; rfl
  · rw [cell_of_row _ _ 0 #[.int .i64 512] 3 (0, 0) (by rw [← e5, heap_alloc_new])]; rfl
  · exact ((((((Below.refl _ w).alloc (Nat.le_refl _) _).alloc (by omega) _).alloc (by omega) _).alloc (by omega) _).alloc (by omega) _).alloc (by omega) _

theorem belA (W : World) (o : Obj) : Below W.heap.size W ((W.alloc o).drew) := ((Below.refl _ W).alloc (Nat.le_refl _) o).trans ⟨rfl, rfl, rfl, Nat.le_refl _, fun _ _ => rfl⟩
theorem cellA (W : World) (v : Value) (T : TypeId) : ((W.alloc (.cells #[v] T)).drew).cell? ⟨W.heap.size, 0, none⟩ = some v := by
  show (W.alloc (.cells #[v] T)).cell? ⟨W.heap.size, 0, none⟩ = some v
  rw [cell_of_row _ _ 0 _ _ _ (heap_alloc_new _ _)]; rfl

theorem flat_len (ps : List (List Nat)) : ((ps.map Sha.sha).flatten).length = 32 * ps.length := by
  induction ps with
  | nil => rfl
  | cons p ps ih => simp only [List.map_cons, List.flatten_cons, List.length_append, ih, sha_len, List.length_cons]; omega

theorem bytes_sha (l : List Nat) : Bytes (Sha.sha l) := by
  have h : ∀ v : Sha.V, Bytes (Sha.out v) := by
    intro v x hx
    simp only [Sha.out, Sha.four, List.mem_append, List.mem_cons, List.not_mem_nil, or_false] at hx
    omega
  exact h _

theorem keeps_of_but {P : Nat} {c : Array Value} {t : TypeId} {a b : World} (h : But P a b) (hP : a.heap[P]? = some (.cells c t (0, 0))) : KeepsOthers a b :=
  ⟨h.size, fun k o hk ho => by
    by_cases e : k = P
    · subst e; rw [hP] at hk; cases hk; cases ho
    · rw [h.block k (Array.getElem?_eq_some_iff.1 hk).1 e]; exact hk⟩

set_option maxRecDepth 100000 in
set_option maxHeartbeats 2000000 in
theorem digest_any (v : Value) (b : List Nat) (w : World) (hv : Has w v b) (hB : Bytes b) (hT : Tabs w) (hl : b.length < 1099511627776) :
    Calls Tryd.prog 18 #[v] w fun e w' => e = .returned (.agg ((digest b).map vb).toArray) ∧ Below w.heap.size w w' := by
  obtain ⟨ao, cap, rfl, _⟩ := hv.form
  obtain ⟨bn, hbn⟩ : ∃ bn, bn = b.length := ⟨_, rfl⟩
  have HV : Hid (Has w (.slice ao bn cap) b) := by rw [hbn]; exact hv
  have HB : Hid (Bytes b) := hB
  have HT : Hid (Tabs w) := hT
  have HL : Hid (b.length < 1099511627776) := hl
  rw [← hbn]
  clear hv hB hT hl hbn
  have C27 : Hid (Calls Tryd.prog 27 #[] (w.alloc (.cells (bfill 32 []) 41)) fun e w' => e = .returned (.pointer (some ⟨w.heap.size + 2, 0, none⟩)) ∧ w' = ((w.alloc (.cells (bfill 32 []) 41)).alloc (.cells hnew 98)).alloc (.cells hnew 100)) := by
    have h := newPieces_any (w.alloc (.cells (bfill 32 []) 41)) (HT.out.up ((Below.refl _ w).alloc (Nat.le_refl _) _))
    rw [show (w.alloc (.cells (bfill 32 []) 41)).heap.size + 1 = w.heap.size + 2 by simp] at h
    exact h
  rw [← z41] at C27
  refine (callsIn_wide (n := 3)).1 ?_
  refine callsIn_of_wp_marks Tryd.func18 rfl trivial ?_ rfl
  simp only [Tryd.ntmps18, List.size_toArray, List.length_cons, List.length_nil, Nat.reduceAdd, Nat.reduceSub, Array.replicate_succ, Array.replicate_zero, List.push_toArray, List.append_toArray, List.nil_append, List.cons_append]
  have C58 : Hid (∀ wz, Calls Tryd.prog 58 #[.slice ao bn cap, .int .i64 512] wz fun e w' => e = .returned (.func (.func 67) #[] #[.pointer (some ⟨wz.heap.size, 0, none⟩), .pointer (some ⟨wz.heap.size + 1, 0, none⟩)]) ∧ w' = (wz.alloc (.cells #[.slice ao bn cap] 43)).alloc (.cells #[.int .i64 512] 3)) := fun wz => chunk_any ao bn cap wz
  gi_wp2_with (refine ⟨trivial, ?_⟩; (first | (gi_at_call 27; refine (callsIn_wide.2 C27.out).mono ?_) | (gi_at_call 58; refine (callsIn_wide.2 (C58.out _)).mono ?_)); rintro e w' ⟨rfl, rfl⟩)
  rw [z41]
  refine step_worldIn (fun W0 => DW w W0 (.slice ao bn cap)) (DW.start w _) fun W0 HD => ?_
  have HD' : Hid (DW w W0 (.slice ao bn cap)) := HD
  have hsz : W0.heap.size = w.heap.size + 6 := HD.size
  clear C27 C58
  refine wpIn_rangeFunc_ownF rfl (by omega) (gf := 67) (lb := #[.pointer (some ⟨w.heap.size + 4, 0, none⟩), .pointer (some ⟨w.heap.size + 5, 0, none⟩)]) rfl trivial (enters_of Tryd.func67 (by kernel_rfl) rfl)
    (digest_stops 2 (by omega) (w.heap.size + 4) (w.heap.size + 6) (w.heap.size + 2) w W0 (.slice ao bn cap) b HV.out HB.out (by have := HL.out; omega) (by omega) ⟨by omega, by omega⟩ (by omega) HD.c4 HD.c5)
    (fun h k => h.trans k) (bbK_b (by omega)) (Below.refl _ _) (fun _ => rfl)
    (fun pre W => HashAt W (w.heap.size + 2) 100 (((pre.map fun x => x.1.2).map Sha.sha).flatten) ∧ BB (w.heap.size + 6) (w.heap.size + 2) W0 W)
    (fun _ _ _ => False)
    (fun s A B row hs hg hr => ⟨hs.1.block (hg.block _ hs.1.lt (fun e => by have := (hr _ e.symm).1; omega)), hs.2.trans ⟨hg.os, hg.tape, hg.output, hg.size, fun k hk _ => hg.block k (by have := hs.2.size; omega) (fun e => by have := (hr _ e.symm).1; omega)⟩⟩)
    (fun _ _ _ _ _ hs _ _ => hs)
    ⟨HD.hash, BB.refl _ _ _⟩
    (fun x => { tmps := #[.slice ao bn cap, undef, .pointer (some ⟨w.heap.size, 0, none⟩), .pointer (some ⟨w.heap.size + 3, 0, none⟩), .slice x.1.1.1 x.1.1.2 x.1.1.2, .pointer (some ⟨w.heap.size + 2, 0, none⟩), .slice ao bn cap, .func (.func 67) #[] #[.pointer (some ⟨w.heap.size + 4, 0, none⟩), .pointer (some ⟨w.heap.size + 5, 0, none⟩)], .slice x.1.1.1 x.1.1.2 x.1.1.2, undef, undef, undef, undef, undef, undef, undef], defers := [] }) ?assign ?body ?done ?stop
  case assign =>
    intro l x W K hK
    gi_wp2
    exact hK
  case body =>
    rintro l pre x W ⟨hH, hBB⟩ hlen
    have xl := x.2.2.2
    obtain ⟨L, hL⟩ : ∃ L, L = ((pre.map fun x => x.1.2).map Sha.sha).flatten := ⟨_, rfl⟩
    have hLl : L.length < 576460752303423488 := by
      rw [hL, flat_len]; simp only [List.length_map]; have := HL.out; omega
    have HLN : Hid ((((pre ++ [x]).map fun x => x.1.2).map Sha.sha).flatten = L ++ Sha.sha x.1.2) := by show _ = _; rw [hL]; simp
    rw [← hL] at hH
    have hWl : Below w.heap.size w W := HD'.out.below.trans ⟨hBB.os, hBB.tape, hBB.output, hBB.size, fun k hk => hBB.block k (by omega) (by omega)⟩
    have cbox : W.cell? ⟨w.heap.size + 3, 0, none⟩ = some (.pointer (some ⟨w.heap.size + 2, 0, none⟩)) := by
      rw [hBB.cell (x := ⟨w.heap.size + 3, 0, none⟩) (by show w.heap.size + 3 < _; omega) (by show w.heap.size + 3 ≠ _; omega), cell_of_row _ _ 0 _ _ _ HD'.out.box]; rfl
    have hsW : w.heap.size + 6 ≤ W.heap.size := by have := hBB.size; omega
    have C13 : Hid (∀ wz, Below W.heap.size W wz → wz.cell? ⟨W.heap.size, 0, none⟩ = some (.slice x.1.1.1 x.1.1.2 x.1.1.2) → Calls Tryd.prog 13 #[.slice (some ⟨W.heap.size, 0, none⟩) 1 1] wz fun e w' => e = .returned (.agg ((Sha.sha x.1.2).map vb).toArray) ∧ (w'.cell? ⟨w.heap.size + 3, 0, none⟩ = some (.pointer (some ⟨w.heap.size + 2, 0, none⟩)) ∧ Below W.heap.size W w')) := fun wz hz hc => by
      have h := sha_any (.slice (some ⟨W.heap.size, 0, none⟩) 1 1) [x.1.2] wz (.inr ⟨⟨W.heap.size, 0, none⟩, 1, rfl, Nat.le_refl _, fun i hi => ⟨.slice x.1.1.1 x.1.1.2 x.1.1.2, by
        have : i = 0 := by simpa using hi
        subst this; exact hc, by
        have : i = 0 := by simpa using hi
        subst this; exact (x.2.1.below (Below.up hWl hz))⟩⟩) (fun p hp => by rw [List.mem_singleton.1 hp]; exact x.2.2.1) (HT.out.up (Below.up hWl hz)) (by simp; omega) (by simp)
      rw [show [x.1.2].flatten = x.1.2 by simp] at h
      refine h.mono fun e w' ⟨h1, h2⟩ => ?_
      have hb : Below W.heap.size W w' := hz.trans (h2.mono hz.size)
      exact ⟨h1, by rw [hb.cell (p := ⟨w.heap.size + 3, 0, none⟩) (by show w.heap.size + 3 < _; omega)]; exact cbox, hb⟩
    have C34 : Hid (∀ wz, Below W.heap.size W wz → Calls Tryd.prog 34 #[.pointer (some ⟨w.heap.size + 2, 0, none⟩), .agg ((Sha.sha x.1.2).map vb).toArray] wz fun e w' => e = .returned (.tuple #[]) ∧ (KeepsOthers W w' ∧ BB (w.heap.size + 6) (w.heap.size + 2) W w' ∧ HashAt w' (w.heap.size + 2) 100 (L ++ Sha.sha x.1.2))) := fun wz hz => by
      have hHz := hH.below hz (by omega)
      refine (padd_any (w.heap.size + 2) L (Sha.sha x.1.2) wz hHz (sha_len _) (bytes_sha _) (HT.out.up (Below.up hWl hz)) (by have := HT.out.size; omega) hLl).mono fun e w' ⟨h1, h2, h3⟩ => ?_
      obtain ⟨_, _, hg, _⟩ := hHz
      have hbut : But (w.heap.size + 2) W w' := (But.of_below hz).trans h3
      obtain ⟨_, _, hg0, _⟩ := hH
      exact ⟨h1, keeps_of_but hbut hg0, BB.of_but hbut (by omega), h2⟩
    have cboxA : ∀ o : Obj, (W.alloc o).cell? ⟨w.heap.size + 3, 0, none⟩ = some (.pointer (some ⟨w.heap.size + 2, 0, none⟩)) := fun o => by
      rw [((Below.refl W.heap.size W).alloc (Nat.le_refl _) o).cell (p := ⟨w.heap.size + 3, 0, none⟩) (by show w.heap.size + 3 < _; omega)]; exact cbox
    have hne1 : ¬ (w.heap.size + 3 = W.heap.size) := by omega
    have hne2 : ¬ (W.heap.size = w.heap.size + 3) := by omega
    have hlt3 : w.heap.size + 3 < W.heap.size := by omega
    have hd : 1 ≤ 3 - 1 - 1 := by decide
    have hmx : Tryd.prog.follows .mixedOrders = true := by kernel_rfl
    clear hH xl hL
    gi_wp2
    gi_region_with_o (refine ⟨trivial, ?_⟩; (first | (gi_at_call 13; refine (CallsIn.inRound l (callsIn_wide.2 (C13.out _ (belA W _) (cellA W _ _)))).mono ?_; rintro e w1 ⟨rfl, hc1, hb1⟩; have HB1 : Hid (Below W.heap.size W w1) := hb1; clear hb1) | (gi_at_call 34; refine (CallsIn.inRound l (callsIn_wide.2 (C34.out _ HB1.out))).mono ?_; rintro e w2 ⟨rfl, hk2⟩; have HK2 : Hid (KeepsOthers W w2 ∧ BB (w.heap.size + 6) (w.heap.size + 2) W w2 ∧ HashAt w2 (w.heap.size + 2) 100 (L ++ Sha.sha x.1.2)) := hk2; clear hk2)))
    all_goals
      clear cbox cboxA hc1
      gi_wp2
      exact ⟨HK2.out.1, HK2.out.2.1, by rw [HLN.out]; exact HK2.out.2.2, hBB.trans HK2.out.2.1⟩
  case done =>
    rintro D ys W hD hS ⟨hH, hBB⟩ hK
    have hWl : Below w.heap.size w W := HD'.out.below.trans ⟨hBB.os, hBB.tape, hBB.output, hBB.size, fun k hk => hBB.block k (by omega) (by omega)⟩
    have cbox : W.cell? ⟨w.heap.size + 3, 0, none⟩ = some (.pointer (some ⟨w.heap.size + 2, 0, none⟩)) := by
      rw [hBB.cell (x := ⟨w.heap.size + 3, 0, none⟩) (by show w.heap.size + 3 < _; omega) (by show w.heap.size + 3 ≠ _; omega), cell_of_row _ _ 0 _ _ _ HD'.out.box]; rfl
    have hout : W.heap[w.heap.size]? = some (.cells (bfill 32 []) 41 (0, 0)) := (hBB.block _ (by omega) (by omega)).trans HD'.out.out
    obtain ⟨c, hc⟩ : ∃ c, c = ((digest b).map vb).toArray := ⟨_, rfl⟩
    have HCE : Hid (c = ((digest b).map vb).toArray) := hc
    have HF : Hid ((Tryd.prog.info? 41).map (·.size) = some c.size ∧ (bfill 32 []).size = c.size ∧ c.all (·.oneCell') = true) := by
      rw [hc]; exact ⟨hz41 _, ho41 _, all_vb _⟩
    have hDlt := (Array.getElem?_eq_some_iff.1 hK).1
    have C35 : Hid (Calls Tryd.prog 35 #[.pointer (some ⟨w.heap.size + 2, 0, none⟩)] W fun e w' => e = .returned (.agg c) ∧ (w'.heap[w.heap.size]? = some (.cells (bfill 32 []) 41 (0, 0)) ∧ Below w.heap.size w w' ∧ w'.heap[D]? = some (.deferred (some [])))) := by
      rw [hS] at hH
      refine (psum_any _ 100 _ W hH (HT.out.up hWl) ?_).mono fun e w' ⟨h1, h2⟩ => ?_
      · rw [flat_len]
        have : (pieces b).length = (b.length + 511) / 512 := upto_length _ _
        have := HL.out; omega
      · exact ⟨by rw [hc]; exact h1, (h2.block _ (Array.getElem?_eq_some_iff.1 hout).1).trans hout, Below.up hWl h2, (h2.block _ hDlt).trans hK⟩
    have hcs : c.size = 32 := by rw [hc]; simp only [List.size_toArray, List.length_map]; exact sha_len _
    clear hH hS hc hK hout
    gi_wp2_with (refine ⟨trivial, ?_⟩; gi_at_call 35; refine (callsIn_wide.2 C35.out).mono ?_; rintro e w3 ⟨rfl, h3⟩; have H3 : Hid (w3.heap[w.heap.size]? = some (.cells (bfill 32 []) 41 (0, 0)) ∧ Below w.heap.size w w3 ∧ w3.heap[D]? = some (.deferred (some []))) := h3; have hst := store_row c h3.1 HF.out.2.1 HF.out.2.2; clear h3)
    have hne : w.heap.size ≠ D := by omega
    have hK4 : (w3.setRow w.heap.size c).heap[D]? = some (.deferred (some [])) := by rw [setRow_other _ _ _ _ (Ne.symm hne)]; exact H3.out.2.2
    refine ⟨by simp, .inl ⟨_, _, rfl, run_takeDeferred hK4, ?_⟩⟩
    have hR : ((w3.setRow w.heap.size c).putObj D (.deferred none)).heap[w.heap.size]? = some (.cells c 41 (0, 0)) := by
      rw [World.putObj_heap_other hne]; exact setRow_heap _ _ _ _ _ _ H3.out.1
    refine ⟨_, results_cell_row (P := Tryd.prog) rfl _ _ w.heap.size 41 c (0, 0) (.array 32 5) rfl hR Tryd.underlying41 rfl HF.out.1, by rw [HCE.out], ?_⟩
    exact (below_setRow H3.out.2.1 (Nat.le_refl _) c).trans (belowK_b (w := w) (Nat.le_refl _) _ D _ _ (by omega) hK4 rfl rfl)
  case stop =>
    rintro D c pre W _ _ h _
    exact h.elim
end Go.Proofs.YtmglopfjjbnfiaaDoor
