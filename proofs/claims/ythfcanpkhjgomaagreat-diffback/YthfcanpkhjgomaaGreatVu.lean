import Derived.Test.YthfcanpkhjgomaaGreatDWalk
import Derived.Test.YthfcanpkhjgomaaGreatVp
set_option maxRecDepth 100000
set_option maxHeartbeats 2000000
namespace Go.Proofs.YthfcanpkhjgomaaGreat
open Go.RowKit Ch
theorem of7_any (x y : Si) (w : World) (B : Nat) (hB : w.heap.size = B) : Calls Tryz.prog 20 #[siP x, siP y] w fun e w' => e = .returned (.func (.func 58) #[] #[.pointer (some ⟨B, 0, none⟩), .pointer (some ⟨B + 1, 0, none⟩)]) ∧ w' = (w.alloc (.cells #[siP x] 34)).alloc (.cells #[siP y] 34) := by
 have hmf : ∀ (fn : Fn) (first cap : Array Value) (w : World), (Instr.makeFunc fn first cap).run Tryz.prog w = .ok (.func fn first cap) w := fun _ _ _ _ => rfl
 obtain ⟨ax, hax⟩ : ∃ ax : Option Addr, x.map (fun q => (⟨q.p, 0, none⟩ : Addr)) = ax := ⟨_, rfl⟩
 obtain ⟨ay, hay⟩ : ∃ ay : Option Addr, y.map (fun q => (⟨q.p, 0, none⟩ : Addr)) = ay := ⟨_, rfl⟩
 have px : siP x = .pointer ax := by unfold siP; rw [hax]
 have py : siP y = .pointer ay := by unfold siP; rw [hay]
 rw [px, py]
 go_enter Tryz.func20, Tryz.ntmps20
 go_wp2
 go_ret
 exact ⟨rfl, rfl⟩
def difs (x y : Si) : List Cd := (dl [] x y).map toC
def IQ (J : Ys) (W : World) (M : Nat → Prop) (T : List Cd) (W' : World) : Prop := ∃ g M' qs, J g qs M' W' ∧ (g = true → qs = T) ∧ qs <+: T ∧ Kp M W W' ∧ ∀ b, M' b → M b ∨ W.heap.size ≤ b
theorem of1_any {lo : Nat} {J : Ys} (hJ : Yd lo J) {gf : Nat} {cap : Array Value} (eg : ∀ args w, (callFunc gf args).run Tryz.prog w = .ok (.enter gf args) w) {w0 : World} (hlo : w0.heap.size = lo) (x y : Si) (hY : YOk gf cap J (difs x y)) (Bt Bu : Nat) (W : World) (M : Nat → Prop) (hx : SiAt w0 x) (hy : SiAt w0 y) (bel : Below w0.heap.size w0 W) (bt : Bx W Bt 34 (siP x)) (bu : Bx W Bu 34 (siP y)) (hj : J true [] M W) (hl : siZ x + siZ y ≤ 10000) (hw : siW x + siW y ≤ 1000000) :
  Calls Tryz.prog 58 #[.func (.func gf) #[] cap, .pointer (some ⟨Bt, 0, none⟩), .pointer (some ⟨Bu, 0, none⟩)] W fun e W' => (∃ u, e = .returned u) ∧ IQ J W M (difs x y) W' := by
 have C := hid (walk_all hJ eg hY hlo (siZ x + siZ y + 1) [] x y (.slice none 0 0) W M [] (by omega) hx hy bel (OwnsT.nil _ _) (fun b e => by cases e) hj (by simp [difs]) (by simpa using hl) (by simpa [joinL] using hw))
 have ct := bt.cell
 have cu := bu.cell
 obtain ⟨ax, hax⟩ : ∃ ax : Option Addr, x.map (fun q => (⟨q.p, 0, none⟩ : Addr)) = ax := ⟨_, rfl⟩
 obtain ⟨ay, hay⟩ : ∃ ay : Option Addr, y.map (fun q => (⟨q.p, 0, none⟩ : Addr)) = ay := ⟨_, rfl⟩
 have px : siP x = .pointer ax := by unfold siP; rw [hax]
 have py : siP y = .pointer ay := by unfold siP; rw [hay]
 rw [px] at ct C
 rw [py] at cu C
 clear bt bu hx hy hj bel
 go_enter Tryz.func58, Tryz.ntmps58
 go_wp2_with (go_at_call 59; refine C.out.mono ?_; rintro e W' ⟨g, rfl, H⟩; have HH := hid H; clear H)
 go_end0
 obtain ⟨M', qs, h1, h2, h3, h4, h5, h6⟩ := HH.out
 exact ⟨⟨_, rfl⟩, g, M', qs, by simpa using h1, h2, h3, h4.mono (fun b _ e => by rcases e with e | e; exact e; cases e), h5⟩
def GJ (lo Be Bw Bo Bn : Nat) (n : Int) : Ys := fun g R M W => ∃ v, M = (fun b => b = Be ∨ b = Bw ∨ b = Bo ∨ b = Bn ∨ v.ownBlock = some b) ∧ Gv W lo Be Bw Bo Bn (!g) true v n R ∧ (g = true → (R.length : Int) ≠ n) ∧ (g = false → (R.length : Int) = n) ∧ (∀ k : Nat, k < R.length → (k : Int) ≠ n) ∧ lo ≤ W.heap.size
theorem GJ.yd {l0 lo Be Bw Bo Bn : Nat} {n : Int} (h1 : l0 ≤ Be) (h2 : l0 ≤ Bw) (h3 : l0 ≤ Bo) (h4 : l0 ≤ Bn) (h5 : l0 ≤ lo) : Yd l0 (GJ lo Be Bw Bo Bn n) := by
 constructor
 ·rintro g pre M W W' S ⟨v, rfl, hG, q1, q2, q4, q3⟩ hk hS _
  have bx : ∀ {b t u}, Bx W b t u → (b = Be ∨ b = Bw ∨ b = Bo ∨ b = Bn ∨ v.ownBlock = some b) → Bx W' b t u := fun hb hm => (hk.block _ hb.lt fun e => hS _ e hm).trans hb
  refine ⟨v, rfl, ⟨bx hG.be (by simp), bx hG.bw (by simp), bx hG.bo (by simp), bx hG.bn (by simp), Bk.rowB hG.ow fun b hb => hk.block b (World.ownsRow.lt hG.ow b hb).2 fun e => hS b e (by simp [hb]), hG.l1, hG.l2, hG.l3, hG.l4, hG.d1, hG.d2, hG.d3, hG.d4, hG.d5, hG.d6⟩, q1, q2, q4, Nat.le_trans q3 hk.size⟩
 ·rintro g pre M W b ⟨v, rfl, hG, q1, q2, q4, q3⟩ hm
  rcases hm with rfl | rfl | rfl | rfl | hm
  ·exact ⟨h1, _, hG.be, rfl⟩
  ·exact ⟨h2, _, hG.bw, rfl⟩
  ·exact ⟨h3, _, hG.bo, rfl⟩
  ·exact ⟨h4, _, hG.bn, rfl⟩
  ·refine ⟨by have := (World.ownsRow.lt hG.ow b hm).1; omega, ?_⟩
   obtain ⟨_, q | ⟨g', cap, cur, rfl, _, hh, _⟩⟩ := hG.ow
   ·rw [q.1] at hm; cases hm
   ·cases hm
    exact ⟨_, hh, rfl⟩
theorem GJ.yok {lo Be Bw Bo Bn : Nat} {n : Int} {T : List Cd} (hT : T.length ≤ 50000) : YOk 57 #[.pointer (some ⟨Be, 0, none⟩), .pointer (some ⟨Bw, 0, none⟩), .pointer (some ⟨Bo, 0, none⟩), .pointer (some ⟨Bn, 0, none⟩)] (GJ lo Be Bw Bo Bn n) T := by
 rintro pre M c W ⟨v, rfl, hG, q1, q2, q4, q3⟩ hp
 have hl : pre.length ≤ 50000 := by have := hp.length_le; simp at this; omega
 refine (given1_any W lo Be Bw Bo Bn true v n pre c hG q3 hl).mono ?_
 rintro e W' ⟨v', rfl, hG', hs, ho, ht, hu, hb, hn⟩
 refine ⟨!decide (((pre.length + 1 : Nat) : Int) = n), _, rfl, ⟨v', rfl, by simpa using hG', fun h => ?_, fun h => ?_, fun k hk => ?_, by omega⟩, ⟨ho, ht, hu, hs, fun b hb' hm => hb b hb' (fun e => hm (by simp [e])) (fun e => hm (by simp [e])) (fun e => hm (by simp [e]))⟩, fun b hb' => ?_⟩
 ·simp at h
  simpa using h
 ·simp at h
  simpa using h
 ·simp at hk
  by_cases e : k = pre.length
  ·rw [e]; exact q1 rfl
  ·exact q4 k (by omega)
 ·rcases hb' with h | h | h | h | h
  ·exact .inl (by simp [h])
  ·exact .inl (by simp [h])
  ·exact .inl (by simp [h])
  ·exact .inl (by simp [h])
  ·rcases hn b h with h | h
   ·exact .inl (by simp [h])
   ·exact .inr h
def gvR (n : Int) (T : List Cd) : List Cd := if n < 0 then T else T.take n.toNat
theorem gv_end {n : Int} {T qs : List Cd} {g : Bool} (h2 : g = false → (qs.length : Int) = n) (h3 : g = true → qs = T) (h4 : qs <+: T) (h5 : ∀ k : Nat, k < qs.length → (k : Int) ≠ n) : qs = gvR n T := by
 unfold gvR
 cases g with
 | true =>
  have e := h3 rfl
  subst e
  by_cases hneg : n < 0
  ·rw [if_pos hneg]
  ·rw [if_neg hneg, List.take_of_length_le]
   by_cases hlt : n.toNat < qs.length
   ·exact absurd (by omega) (h5 n.toNat hlt)
   ·omega
 | false =>
  have e := h2 rfl
  rw [if_neg (by omega)]
  have : n.toNat = qs.length := by omega
  rw [this]
  exact (List.prefix_iff_eq_take.1 h4)
theorem fnil (f : Fn) (a c : Array Value) (w : World) : (binOp BinOp.eql 72 (.func f a c) .nilFunc).run Tryz.prog w = .ok (.bool false) w := by
 have h : ∀ d : Nat, (Op.equalIn (d + 1) 72 (.func f a c) .nilFunc).run Tryz.prog w = .ok false w := fun d => by
  simp [Op.equalIn]
 simp only [binOp]
 simp [Op.equal, Op.maxDepth, h 9999]
theorem given_any (x y : Si) (Bt Bu : Nat) (n : Int) (W : World) (hx : SiAt W x) (hy : SiAt W y) (bt : Bx W Bt 34 (siP x)) (bu : Bx W Bu 34 (siP y)) (hl : siZ x + siZ y ≤ 10000) (hw : siW x + siW y ≤ 1000000) (hT : (difs x y).length ≤ 50000) :
  Calls Tryz.prog 19 #[.func (.func 58) #[] #[.pointer (some ⟨Bt, 0, none⟩), .pointer (some ⟨Bu, 0, none⟩)], .int .i64 n] W fun e W' => ∃ u, e = .returned (.tuple #[u, .bool true]) ∧ OwnsR W' W.heap.size u (gvR n (difs x y)) ∧ Below W.heap.size W W' := by
 have hmf : ∀ (fn : Fn) (first cap : Array Value) (w : World), (Instr.makeFunc fn first cap).run Tryz.prog w = .ok (.func fn first cap) w := fun _ _ _ _ => rfl
 have hfn := fun w => fnil (.func 58) #[] #[.pointer (some ⟨Bt, 0, none⟩), .pointer (some ⟨Bu, 0, none⟩)] w
 obtain ⟨B, hB⟩ : ∃ B, W.heap.size = B := ⟨_, rfl⟩
 by_cases hn : n = 0
 ·subst hn
  have e0 : gvR 0 (difs x y) = [] := by simp [gvR]
  rw [e0]
  have hb : Hid (Below W.heap.size W (W.alloc (.cells #[.int .i64 0] 3))) := (Below.refl _ W).alloc (Nat.le_refl _) _
  clear hx hy bt bu
  go_enter Tryz.func19, Tryz.ntmps19
  go_wp2
  refine bodyPost_ret (v := .tuple #[.slice none 0 0, .bool true]) (by simp [results, Tryz.f19, go_sem]) rfl ?_
  exact ⟨_, rfl, World.ownsRow_nil _ _ _ _, by have := hb.out; rwa [hB] at this⟩
 ·have hnb : (n == 0) = false := by simp [hn]
  obtain ⟨W1, hW1⟩ : ∃ W1, (((W.alloc (.cells #[.int .i64 n] 3)).alloc (.cells #[.slice none 0 0] 31)).alloc (.cells #[.bool false] 4)).alloc (.cells #[.bool false] 4) = W1 := ⟨_, rfl⟩
  have s1 : W1.heap.size = B + 4 := by rw [← hW1, ← hB]; simp
  have g1 : Below W.heap.size W W1 := by rw [← hW1]; exact ((((Below.refl _ W).alloc (Nat.le_refl _) _).alloc (by simp) _).alloc (by simp; omega) _).alloc (by simp; omega) _
  have bn : Bx W1 B 3 (.int .i64 n) := by
   rw [← hW1, ← hB]
   exact (heap_alloc_old _ _ (by simp <;> omega)).trans ((heap_alloc_old _ _ (by simp <;> omega)).trans ((heap_alloc_old _ _ (by simp <;> omega)).trans (heap_alloc_new _ _)))
  have bo : Bx W1 (B + 1) 31 (.slice none 0 0) := by
   rw [← hW1, ← hB]
   refine (heap_alloc_old _ _ (by simp <;> omega)).trans ((heap_alloc_old _ _ (by simp <;> omega)).trans ?_)
   have := heap_alloc_new (W.alloc (.cells #[.int .i64 n] 3)) (.cells #[.slice none 0 0] 31)
   rwa [World.size_alloc] at this
  have bw : Bx W1 (B + 2) 4 (.bool false) := by
   rw [← hW1, ← hB]
   refine (heap_alloc_old _ _ (by simp <;> omega)).trans ?_
   have := heap_alloc_new ((W.alloc (.cells #[.int .i64 n] 3)).alloc (.cells #[.slice none 0 0] 31)) (.cells #[.bool false] 4)
   rwa [World.size_alloc, World.size_alloc] at this
  have be : Bx W1 (B + 3) 4 (.bool false) := by
   rw [← hW1, ← hB]
   have := heap_alloc_new (((W.alloc (.cells #[.int .i64 n] 3)).alloc (.cells #[.slice none 0 0] 31)).alloc (.cells #[.bool false] 4)) (.cells #[.bool false] 4)
   rwa [World.size_alloc, World.size_alloc, World.size_alloc] at this
  obtain ⟨W3, hW3⟩ : ∃ W3, (W1.setCell ⟨B + 2, 0, none⟩ (.bool true)).setCell ⟨B + 3, 0, none⟩ (.bool false) = W3 := ⟨_, rfl⟩
  have G3 : GJ (B + 4) (B + 3) (B + 2) (B + 1) B n true [] (fun b => b = B + 3 ∨ b = B + 2 ∨ b = B + 1 ∨ b = B ∨ (Value.slice none 0 0).ownBlock = some b) W3 := by
   refine ⟨.slice none 0 0, rfl, ⟨?_, ?_, ?_, ?_, World.ownsRow_nil _ _ _ _, by omega, by omega, by omega, by omega, by omega, by omega, by omega, by omega, by omega, by omega⟩, fun _ e => hn (by simpa using e.symm), (fun h => by cases h), (fun k hk => by simp at hk), by rw [← hW3]; simp; omega⟩
   ·rw [← hW3]; exact (be.other (by omega)).set _
   ·rw [← hW3]; exact (bw.set _).other (by omega)
   ·rw [← hW3]; exact (bo.other (by omega)).other (by omega)
   ·rw [← hW3]; exact (bn.other (by omega)).other (by omega)
  have g3 : Below W.heap.size W W3 := by rw [← hW3]; exact (g1.setCell (p := ⟨B + 2, 0, none⟩) (by show _ ≤ B + 2; omega) _).setCell (p := ⟨B + 3, 0, none⟩) (by show _ ≤ B + 3; omega) _
  have C := hid (of1_any (GJ.yd (l0 := B) (lo := B + 4) (Be := B + 3) (Bw := B + 2) (Bo := B + 1) (Bn := B) (n := n) (by omega) (by omega) (by omega) (by omega) (by omega)) (enters_of Tryz.func57 (by kernel_rfl) rfl) (w0 := W) hB x y (GJ.yok hT) Bt Bu W3 _ hx hy g3 ((g3.block _ bt.lt).trans bt) ((g3.block _ bu.lt).trans bu) G3 hl hw)
  have n1 := bn.cell
  have w1 : W1.cell? ⟨B + 1 + 1, 0, none⟩ = some (.bool false) := bw.cell
  have w1f : W1.frozen? ⟨B + 1 + 1, 0, none⟩ = false := bw.frozen
  have be2 := be.other (b' := B + 2) (u := .bool true) (by omega)
  have e1 : (W1.setCell ⟨B + 1 + 1, 0, none⟩ (.bool true)).cell? ⟨B + 1 + 1 + 1, 0, none⟩ = some (.bool false) := be2.cell
  have e1f : (W1.setCell ⟨B + 1 + 1, 0, none⟩ (.bool true)).frozen? ⟨B + 1 + 1 + 1, 0, none⟩ = false := be2.frozen
  have nA : (W.alloc (.cells #[.int .i64 n] 3)).cell? ⟨B, 0, none⟩ = some (.int .i64 n) := by rw [← hB]; simp
  have HG3 := hid g3
  clear hx hy bt bu bn bo bw be be2 G3 g1 g3
  go_enter Tryz.func19, Tryz.ntmps19
  go_wp2_with (go_at_call 58; refine C.out.mono ?_; rintro e W4 ⟨⟨u, rfl⟩, H⟩; have HH := hid H; clear H)
  obtain ⟨g, M', qs, ⟨v', _, hG, q1, q2, q4, q3⟩, h1, h2, h3, h4⟩ := HH.out
  obtain ⟨av, cv, hv⟩ := hG.ow.form
  subst hv
  have c6 := hG.bo.cell
  have c7 : W4.cell? ⟨B + 1 + 1, 0, none⟩ = some (.bool true) := hG.bw.cell
  have eq : qs = gvR n (difs x y) := gv_end q2 h1 h2 q4
  have FIN : Hid (OwnsR W4 (B + 4) (.slice av qs.length cv) qs ∧ Below W.heap.size W W4) := ⟨hG.ow, HG3.out.trans (h3.below HG3.out.size fun b e => by rcases e with e | e | e | e | e; all_goals first | omega | cases e)⟩
  obtain ⟨k, hk⟩ : ∃ k, qs.length = k := ⟨_, rfl⟩
  have HK := hid (And.intro hk eq)
  rw [hk] at c6 FIN
  clear hG q1 q2 q4 q3 h1 h2 h3 h4 HH eq hk
  go_wp2_with fail
  go_region
  go_wp2
  refine bodyPost_ret (v := .tuple #[.slice av k cv, .bool true]) (by simp [results, Tryz.f19, go_sem]) rfl ?_
  refine ⟨_, rfl, ?_, ?_⟩
  ·rw [← HK.out.2]
   have h9 : OwnsR W4.drew (B + 4) (.slice av k cv) qs := OwnsR.up FIN.out.1 (Below.drews (Below.refl _ _) ⟨1, rfl⟩)
   exact row_low h9 (by omega)
  ·exact Below.drews FIN.out.2 ⟨1, rfl⟩
end Go.Proofs.YthfcanpkhjgomaaGreat
namespace Go.Proofs.YthfcanpkhjgomaaGreat
open Go.RowKit
open DO (vz)
open Ch (Cd riseB)
theorem Po.inj : ∀ {l : List Cn}, Po l → ∀ c ∈ l, ∀ d ∈ l, c.L = d.L → c = d
 | [], _, _, h, _, _, _ => (List.not_mem_nil h).elim
 | x :: l, ho, c, hc, d, hd, e => by
  rcases List.mem_cons.1 hc with q1 | q1
  ·rcases List.mem_cons.1 hd with q2 | q2
   ·rw [q1, q2]
   ·exact absurd (by rw [← e, q1]) (ho.ne q2)
  ·rcases List.mem_cons.1 hd with q2 | q2
   ·exact absurd (by rw [e, q2]) (ho.ne q1)
   ·exact ho.tail.inj c q1 d q2 e
theorem cutN_tl (s : ByteArray) : (cutN s).map tl = pieces (tl s) := by
 unfold cutN
 rw [List.map_map]
 conv => rhs; rw [← List.map_id (pieces (tl s))]
 exact List.map_congr_left fun x _ => tl_ofB x
theorem join_pieces (l : By) : joinL (pieces l) = l := by
 unfold pieces
 by_cases h : l = []
 ·rw [if_pos h, h]; rfl
 ·rw [if_neg h, join_cuts]
theorem names_split {s : ByteArray} (h : splitE (tl s) 64 = 0) : (∀ x ∈ cutN s, nameB (tl x) = true) ∧ (cutN s).length ≤ 64 := by
 unfold splitE at h
 split at h
 ·cases h
 rename_i h1
 split at h
 ·rename_i h2
  refine ⟨fun x hx => ?_, ?_⟩
  ·rw [List.all_eq_true] at h2
   refine h2 _ ?_
   rw [← cutN_tl]
   exact List.mem_map_of_mem hx
  ·rw [← List.length_map (f := tl), cutN_tl]
   omega
 ·cases h
end Go.Proofs.YthfcanpkhjgomaaGreat
