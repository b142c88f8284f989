/-
  A SETUP'S READER, the program's: setup.
-/
import Derived.Test.YtfigneaaeakbcaaDoorRh
namespace Go.Proofs.YtfigneaaeakbcaaDoor
open Go.RowKit Hm
attribute [local go_sem] Oper.semAt_some

theorem zero26 : (Tryd.prog.info? 26).bind (·.zero) = some (.agg #[.int .i64 0, .int .i64 0, .int .i64 0, .int .i64 0, .int .i64 0, .int .i64 0, .int .i64 0]) := by kernel_rfl
theorem siz26 : (Tryd.prog.info? 26).map (·.size) = some 7 := by kernel_rfl
theorem results_s {fn : Func} {p u : Tmp} (h : fn.results = #[.cell p 26, .tmp u]) (tmps : Array Value) (w : World) (g : Nat) (cs : Array Value)
    (hp : tmps.getD p undef = .pointer (some ⟨g, 0, none⟩)) (hg : w.heap[g]? = some (.cells cs 26 (0, 0))) (hs : cs.size = 7) :
    (results fn tmps).run Tryd.prog w = .ok (.tuple #[.agg cs, tmps.getD u undef]) w := by
  have hp' : tmps[p]?.getD undef = .pointer (some ⟨g, 0, none⟩) := by simpa using hp
  simp [results, h, hp', asAddr, run_loadVar_row (P := Tryd.prog) w g 26 26 cs (0, 0) _ hg Tryd.underlying26 rfl (by rw [siz26, hs])]
/-- what setup answers -/
def SuP (c : Nat) (ws : List W) (e : Nat) (w : World) (E : Ending) (w' : World) : Prop := Kp (fun g => g = c) w w' ∧ match setupW ws e with
  | .ok l => E = .returned (.tuple #[.agg (l.map vi).toArray, .nilIface]) ∧ l.length = 7
  | .error y => ∃ Z v, E = .returned (.tuple #[.agg Z, v]) ∧ Flt w' v y ∧ Z.size = 7 ∧ Z.all (·.oneCell') = true
theorem backt19 : backB (opsAt Tryd.f14 19) = true := by kernel_rfl
theorem dstt19 : dstB (opsAt Tryd.f14 19) 53 = true := by kernel_rfl
theorem sizet19 : (opsAt Tryd.f14 19).size = 5 := by kernel_rfl
theorem freet190 : freeB (opsAt Tryd.f14 19) 0 = true := by kernel_rfl
theorem freet192 : freeB (opsAt Tryd.f14 19) 2 = true := by kernel_rfl
theorem st19_0 : say (opsAt Tryd.f14 19) 0 = some (some 50, .load 26 (.tmp 2), none) := by kernel_rfl
theorem dt19_0 : slotB (opsAt Tryd.f14 19) 0 = some 50 := by kernel_rfl
theorem st19_1 : say (opsAt Tryd.f14 19) 1 = some (some 51, .move (.tmp 0), none) := by kernel_rfl
theorem dt19_1 : slotB (opsAt Tryd.f14 19) 1 = some 51 := by kernel_rfl
theorem st19_2 : say (opsAt Tryd.f14 19) 2 = some (some 52, .call { callee := .value (.func 26), args := #[.tmp 51], argTypes := #[77] }, none) := by kernel_rfl
theorem dt19_2 : slotB (opsAt Tryd.f14 19) 2 = some 52 := by kernel_rfl
theorem st19_3 : say (opsAt Tryd.f14 19) 3 = some (none, .store 26 (.tmp 2) (.tmp 50), none) := by kernel_rfl
theorem st19_4 : say (opsAt Tryd.f14 19) 4 = some (some 3, .assign (.tmp 52), none) := by kernel_rfl
theorem dt19_4 : slotB (opsAt Tryd.f14 19) 4 = some 3 := by kernel_rfl
def Vt19 (c _S : Nat) (Y : Array Value) (r : Nat → Value) : Nat → Value
  | 0 => .agg Y
  | 1 => .pointer (some ⟨c, 0, none⟩)
  | 2 => (r 1)
  | 3 => undef
  | 4 => (r 1)
  | _ => undef
set_option maxHeartbeats 8000000 in
set_option maxRecDepth 100000 in
theorem regt19 (c S : Nat) (Y : Array Value) (F0 F1 F2 : (Nat → Value) → World → Prop) (B : World → Prop)  (t0 : Array Value) (wr : World) {Q : Exit → Act → World → Prop} (ht : t0.size = 53) (h0 : t0.getD 0 undef = .pointer (some ⟨c, 0, none⟩)) (h2 : t0.getD 2 undef = .pointer (some ⟨S, 0, none⟩))
    (hY : Y.size = 7) (hY1 : Y.all (·.oneCell') = true)
    (hb0 : ∀ r w, F0 r w → B w) (hb1 : ∀ r w, F1 r w → B w)
    (hc1 : ∀ r w, F0 r w → Calls Tryd.prog 26 #[.pointer (some ⟨c, 0, none⟩)] w fun e w' => ∃ u, e = .returned u ∧ F1 (ups r 1 u) w')
    (hw2 : ∀ r w, F1 r w → ∃ old, w.heap[S]? = some (.cells old 26 (0, 0)) ∧ old.size = 7 ∧ F2 r (w.setRow S Y))
    (hl0 : ∀ w, B w → Lies w S 0 Y)
    (hst0 : ∀ r, F0 r wr.drew)
    (hQ : ∀ r w, F2 r w → Q .normal ⟨fold (opsAt Tryd.f14 19) (Vt19 c S Y r) t0 5, []⟩ w) : (Code.region 19 (opsAt Tryd.f14 19) true).wp Tryd.prog Q ⟨t0, []⟩ wr := by
  have hB : dstB (opsAt Tryd.f14 19) t0.size = true := by rw [ht]; exact dstt19
  have hBB : ∀ r done w, MC F0 [(2, F1)] r done w → B w := fun r done w h => MC.base hb0 (by simp only [List.mem_cons, List.not_mem_nil, or_false]; rintro x rfl; assumption) h
  refine inv_region (by kernel_rfl) (IE (opsAt Tryd.f14 19) (Vt19 c S Y) t0 (MC F0 [(3, F2), (2, F1)] )) backt19 ⟨(fun _ => undef), t0, rfl, ⟨rfl, fun _ _ => rfl, fun _ _ _ _ _ h => by cases h⟩, MC.start (hst0 _)⟩ ?_ ?_
  rotate_left 1
  · rintro done a w ⟨r, t, rfl, hS, hM⟩ hall
    rw [hS.end hB hall, sizet19]
    exact hQ r w (MC.get (hall 3 (by rw [sizet19]; decide)) [] (by simp) hM)
  · rintro jz op done a w ho ⟨r, t, rfl, hS, hM⟩ hnd hdep hcl
    have e0 : t[0]?.getD undef = .pointer (some ⟨c, 0, none⟩) := (hS.old freet190).trans h0
    have e2 : t[2]?.getD undef = .pointer (some ⟨S, 0, none⟩) := (hS.old freet192).trans h2
    have hlt : jz < 5 := by rw [← sizet19]; exact (Array.getElem?_eq_some_iff.1 ho).1
    match jz, hlt, ho, hnd, hdep with
    | 0, _, ho, hnd, hdep =>
      obtain ⟨hd, hop, hgd⟩ := say_of st19_0 ho
      have ny3 : done 3 = false := not_yet (k := 0) (j := 3) (by kernel_rfl) hcl hnd
      refine ie_val r hB ho (wanted_none hgd) hd hS (hM.step (by rfl)) ?_
      exact exec_load 26 _ hop S 0 (by show t.getD 2 undef = _; rw [Array.getD_eq_getD_getElem?]; exact e2) Y _ (hl0 w (hBB _ _ _ (MC.cut [(3, F2)] (by simp [ny3]) hM))) Tryd.underlying26 rfl (by rw [siz26, hY])
    | 1, _, ho, hnd, hdep =>
      obtain ⟨hd, hop, hgd⟩ := say_of st19_1 ho
      refine ie_val r hB ho (wanted_none hgd) hd hS (hM.step (by rfl)) ?_
      unfold execOp
      simp only [hop]
      simp [e0, Vt19, go_sem]
    | 2, _, ho, hnd, hdep =>
      obtain ⟨hd, hop, hgd⟩ := say_of st19_2 ho
      have x51 : t[51]?.getD undef = _ := hS.at dt19_1 (waits (j := 1) (by kernel_rfl) ho hdep)
      simp only [Vt19] at x51
      have ny3 : done 3 = false := not_yet (k := 2) (j := 3) (by kernel_rfl) hcl hnd
      have ny4 : done 4 = false := not_yet (k := 2) (j := 4) (by kernel_rfl) hcl hnd
      have hF := MC.get0 [(3, F2), (2, F1)] (by simp [hnd, ny3]) hM
      refine ie_call r 26 #[.pointer (some ⟨c, 0, none⟩)] hB ho (wanted_none hgd) hd hS ?_ ?_
      · skip
        unfold execOp
        simp only [hop]
        simp [x51, go_sem]
      · skip
        refine (hc1 r w hF).mono ?_
        rintro e w' ⟨u, rfl, hF'⟩
        refine ⟨ups r 1 u, ?_, fun k hk => ?_, MC.put hF' [(3, F2)] (by simp [ny3])⟩
        · simp only [Vt19, ups_same]
        · skip
          have q2 : k ≠ 2 := fun e => by rw [e, hnd] at hk; cases hk
          have q4 : k ≠ 4 := fun e => by rw [e, ny4] at hk; cases hk
          unfold Vt19
          split <;> first | rfl | exact absurd rfl q2 | exact absurd rfl q4
    | 3, _, ho, hnd, hdep =>
      obtain ⟨hd, hop, hgd⟩ := say_of st19_3 ho
      have x50 : t[50]?.getD undef = _ := hS.at dt19_0 (waits (j := 0) (by kernel_rfl) ho hdep)
      simp only [Vt19] at x50
      have a2 : done 2 = true := waits (j := 2) (by kernel_rfl) ho hdep
      have hF := MC.get a2 [(3, F2)] (by simp [hnd]) hM
      obtain ⟨old9, ho9, hs9, hF9⟩ := hw2 r w hF
      refine ie_store (w' := w.setRow S Y) r ho (wanted_none hgd) hd hS (MC.put hF9 [] (by simp)) ?_
      exact exec_storeT 26 _ _ hop S Y old9 (by show t.getD 2 undef = _; rw [Array.getD_eq_getD_getElem?]; exact e2) (by show t.getD 50 undef = _; rw [Array.getD_eq_getD_getElem?]; exact x50) w ho9 (by rw [siz26, hY]) (by rw [hs9, hY]) hY1
    | 4, _, ho, hnd, hdep =>
      obtain ⟨hd, hop, hgd⟩ := say_of st19_4 ho
      have x52 : t[52]?.getD undef = _ := hS.at dt19_2 (waits (j := 2) (by kernel_rfl) ho hdep)
      simp only [Vt19] at x52
      refine ie_val r hB ho (wanted_none hgd) hd hS (hM.step (by rfl)) ?_
      unfold execOp
      simp only [hop]
      simp [x52, Vt19, go_sem]
theorem foldt19 (c S : Nat) (Y : Array Value) (r : Nat → Value) (t0 : Array Value) : fold (opsAt Tryd.f14 19) (Vt19 c S Y r) t0 5 = ((((t0.setIfInBounds 50 (.agg Y)).setIfInBounds 51 (.pointer (some ⟨c, 0, none⟩))).setIfInBounds 52 ((r 1))).setIfInBounds 3 ((r 1))) := by kernel_rfl

/-- a setup that is being read: the reader, the cells -/
structure SuI (c S : Nat) (ws ws0 : List W) (e : Nat) (Y : List Value) (w w' : World) : Prop where
  kp : Kp (fun g => g = c ∨ g = S) w w'
  cr : Cr c ws e w'
  st : w'.heap[S]? = some (.cells Y.toArray 26 (0, 0))
  sub : ∀ x ∈ ws, x ∈ ws0
theorem SuI.word {c S : Nat} {ws ws0 : List W} {e : Nat} {Y : List Value} {w w' : World} (h : SuI c S ws ws0 e Y w w') (hcS : c < S) (s : ByteArray) : Calls Tryd.prog 23 #[.pointer (some ⟨c, 0, none⟩), .string s] w' fun E w2 => match wordW (tl s) ws e with
    | .ok r => E = .returned .nilIface ∧ SuI c S r ws0 e Y w w2
    | .error y => ∃ N, E = .returned (.iface 58 (.pointer (some ⟨N, 0, none⟩))) ∧ Flt w2 (.iface 58 (.pointer (some ⟨N, 0, none⟩))) y ∧ Kp (fun g => g = c ∨ g = S) w w2 ∧ w2.heap[S]? = some (.cells Y.toArray 26 (0, 0)) := by
  refine (word_any c s ws e w' h.cr).mono ?_
  rintro E w2 ⟨k, q⟩
  have hs2 := (k.block S (Array.getElem?_eq_some_iff.1 h.st).1 (by omega)).trans h.st
  have k2 := h.kp.snd (k.mono fun g _ q => Or.inl q)
  cases hw : wordW (tl s) ws e with
  | ok r =>
    rw [hw] at q
    exact ⟨q.1, k2, q.2, hs2, fun x hx => h.sub x (wordW_sub hw x hx)⟩
  | error y =>
    rw [hw] at q
    obtain ⟨v, rfl, N, rfl, hN⟩ := q
    exact ⟨N, rfl, ⟨N, rfl, hN⟩, k2, hs2⟩
theorem SuI.nums {c S : Nat} {ws ws0 : List W} {e : Nat} {Y : List Value} {w w' : World} (h : SuI c S ws ws0 e Y w w') (hcS : c < S) (hc : c < w.heap.size) (off : Nat) (hoff : off + 3 ≤ 7) (lo hi : Int) (hV : ∀ W, Below c w W → Vs W) (hws : ∀ x ∈ ws0, x.text.length ≤ 100000) (hY : Y.length = 7) (hY1 : Y.toArray.all (·.oneCell') = true) : Calls Tryd.prog 24 #[.pointer (some ⟨c, 0, none⟩), .slice (some ⟨S, off, none⟩) 3 3, .int .i64 lo, .int .i64 hi] w' fun E w2 => match numsW lo hi 3 ws e with
    | .ok (l, r) => E = .returned .nilIface ∧ SuI c S r ws0 e (over Y off (l.map vi)) w w2 ∧ l.length = 3
    | .error y => ∃ N Y', E = .returned (.iface 58 (.pointer (some ⟨N, 0, none⟩))) ∧ Flt w2 (.iface 58 (.pointer (some ⟨N, 0, none⟩))) y ∧ Kp (fun g => g = c ∨ g = S) w w2 ∧ w2.heap[S]? = some (.cells Y' 26 (0, 0)) ∧ Y'.size = 7 ∧ Y'.all (·.oneCell') = true := by
  refine (numbers_any c S off lo hi ws e Y w' h.cr (fun W k => hV W ((h.kp.below (by omega) (fun g q => by omega)).trans k)) (fun x hx => hws x (h.sub x hx)) hcS h.st hY hY1 hoff).mono ?_
  rintro E w2 ⟨k, q⟩
  cases hw : numsW lo hi 3 ws e with
  | ok lr =>
    obtain ⟨l, r⟩ := lr
    rw [hw] at q
    obtain ⟨q1, q2, q3, q4, q5⟩ := q
    exact ⟨q1, ⟨h.kp.snd k, q2, q3, fun x hx => h.sub x (q5 x hx)⟩, q4⟩
  | error y =>
    rw [hw] at q
    obtain ⟨v, rfl, ⟨N, rfl, hN⟩, Y', q3, q4, q5⟩ := q
    exact ⟨N, Y'.toArray, rfl, ⟨N, rfl, hN⟩, h.kp.snd k, q3, by simpa using q4, q5⟩
end Go.Proofs.YtfigneaaeakbcaaDoor
