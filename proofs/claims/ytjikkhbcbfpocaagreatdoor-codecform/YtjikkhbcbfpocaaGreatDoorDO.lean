import Derived.Test.YtjikkhbcbfpocaaGreatDoorZ0
import Derived.Test.YtjikkhbcbfpocaaGreatDoorDM
import Derived.Test.YtjikkhbcbfpocaaGreatDoorKC
import Derived.Lib.SlBytesConst
import Derived.OwnWalk
set_option maxRecDepth 100000
set_option maxHeartbeats 8000000
namespace Go.Proofs.YtjikkhbcbfpocaaGreatDoor
open Go.RowKit Go.Shelf
attribute [local go_sem] Oper.semAt_some
theorem wrNode_dir {lo X : Nat} {b nm cb : List Nat} {ver : Int} {hs hs0 : List (List Nat)} {M : Nat → Prop} {w : World} {x : Value} (p : Nat) (v : Vd) (m : Md) (k : K) (hT : AtT w p v m k) (hk : v.kind = 1) (hS : Ws lo X b ver hs0 M w) (hxM : ∀ W, Fr M w W → Su.Has W x nm) (hmd : 0 ≤ v.mode ∧ v.mode < 256) (hl : b.length + nm.length + 100 ≤ 16777216)
  (CC : ∀ (b' : List Nat) (M' : Nat → Prop) (W : World), Fr M w W → Ws lo X b' ver hs0 M' W → b'.length = b.length + (1 + (nm.length + (modB ver v).length)) → Calls Tryz.prog 86 #[.pointer (some ⟨X, 0, none⟩), .pointer (some ⟨p, 0, none⟩)] W fun e w' => e = .returned (.tuple #[]) ∧ PoW lo X (b' ++ cb) ver hs M' W w') :
  Calls Tryz.prog 57 #[.pointer (some ⟨X, 0, none⟩), x, .pointer (some ⟨p, 0, none⟩)] w fun e w' => e = .returned (.tuple #[]) ∧ PoW lo X (b ++ ([1] ++ (nm ++ (modB ver v ++ cb)))) ver hs M w w' := by
 have CV := value_any p v m k w hT
 have HX : Hid ((vx v).toArray.size = 35 ∧ (vx v).toArray.all (·.oneCell') = true ∧ (vx v).toArray[0]? = some (.int .i64 v.kind)) := ⟨by simp [vx_len], vx_one v, vx_kind v⟩
 rw [hk] at HX
 have HH := hid (⟨hS, hk, hl, hxM⟩ : _ ∧ _ ∧ _ ∧ _)
 have HM : Hid (∀ (b' : List Nat) (M' : Nat → Prop) (W : World), Ws lo X b' ver hs0 M' W → b'.length + 16 ≤ 16777216 → Calls Tryz.prog 85 #[.pointer (some ⟨X, 0, none⟩), .agg (vx v).toArray] W fun e w' => e = .returned (.tuple #[]) ∧ PoW lo X (b' ++ modB ver v) ver hs0 M' W w') := fun b' M' W h1 h2 => wrMode_any v hmd h1 h2
 have HK := hid CC
 generalize modB ver v = mb at *
 generalize (vx v).toArray = XV at *
 clear hT hk hS hxM hl hmd CC
 go_enter Tryz.func57, Tryz.ntmps57
 go_upto_region 1 with (first
  | (go_at_call 19; refine CV.mono ?_; rintro e w2 ⟨rfl, hg2⟩; have HG2 := hid hg2; clear hg2 CV; obtain ⟨B5, hB5⟩ : ∃ B5, w2.heap.size = B5 := ⟨_, rfl⟩)
  | ((with_reducible refine wpList_execW (.pointer (some ⟨B5, 0, none⟩)) (w2.alloc (.cells z24 24)) ?_ ?_ ?_); exact exec_allocT 24 z24 rfl zero24 _ _ hB5; kernel_rfl)
  | ((with_reducible refine wpList_skipW ((w2.alloc (.cells z24 24)).setRow B5 XV) ?_ ?_ ?_); exact exec_storeT 24 _ _ rfl B5 XV z24 rfl rfl _ (by rw [← hB5]; exact World.alloc_heap_new w2 _) (by rw [siz24, HX.out.1]) (by rw [z24_size, HX.out.1]) HX.out.2.1; kernel_rfl))
 try simp only [Act.put, sA, sB, sC]
 have N4 := new_varT w2 24 z24 XV
 rw [hB5] at N4
 generalize (w2.alloc (.cells z24 24)).setRow B5 XV = w4 at *
 have H4 : Hid (G w w4 ∧ w4.heap[B5]? = some (.cells XV 24 (0, 0)) ∧ w.heap.size ≤ B5 ∧ ¬ M B5) := by
  have hz := HG2.out.size
  refine ⟨HG2.out.trans N4.1, N4.2.1, by omega, fun h => ?_⟩
  obtain ⟨u, vh, hW, hM⟩ := HH.out.1
  rw [hM] at h
  have := (hW.lt.2 B5 h).2
  omega
 clear N4 HG2 hB5
 have q0 := lies_cell (lies_of_heap H4.out.2.1) 0 _ HX.out.2.2
 obtain ⟨B6, hB6⟩ : ∃ B6, w4.heap.size = B6 := ⟨_, rfl⟩
 go_upto_region 2 with (go_at_call 55; refine (wrAdd_any (t := [1]) ((HH.out.1.keep H4.out.1).keep (G.alloc w4 (.cells #[Su.vb 1] 5))) (by have := (owns_one w4 1).has; rw [hB6] at this; exact this) (by have := HH.out.2.2.1; simp only [lC, lN]; omega)).mono ?_; rintro e w5 ⟨rfl, h5⟩; have H5 := hid h5; clear h5)
 try simp only [Act.put, sA, sB, sC]
 obtain ⟨M5, s5, m5, f5⟩ := H5.out
 have l5 : B5 < w4.heap.size := (gS H4.out.2.1)
 have F5 : Fr M w w5 := (Fr.of_G (H4.out.1.trans (G.alloc _ _))).trans (fun c h => .inl h) f5
 have n5 : ¬ M5 B5 := fun h => (m5 B5 h).elim H4.out.2.2.2 fun h => by rw [World.size_alloc] at h; omega
 have h5B : w5.heap[B5]? = some (.cells XV 24 (0, 0)) := (f5.same B5 (by rw [World.size_alloc]; omega) H4.out.2.2.2).trans (((G.alloc w4 _).block B5 l5).trans H4.out.2.1)
 have x5 := HH.out.2.2.2 w5 F5
 have M5w : ∀ c, M5 c → M c ∨ w.heap.size ≤ c := fun c h => (m5 c h).imp id fun h => by have := H4.out.1.size; rw [World.size_alloc] at h; omega
 have H6 := hid (⟨s5, x5, n5, h5B, F5, M5w⟩ : _ ∧ _ ∧ _ ∧ _ ∧ _ ∧ _)
 clear s5 m5 f5 F5 n5 h5B x5 l5 q0 H5 M5w
 go_upto_region 3 with (go_at_call 55; refine (wrAdd_any H6.out.1 H6.out.2.1 (by have := HH.out.2.2.1; simp only [lA, lC, lN]; omega)).mono ?_; rintro e w6 ⟨rfl, h6⟩; have H7 := hid h6; clear h6)
 try simp only [Act.put, sA, sB, sC]
 obtain ⟨M6, s6, m6, f6⟩ := H7.out
 have l6 : B5 < w5.heap.size := (gS H6.out.2.2.2.1)
 have h6B : w6.heap[B5]? = some (.cells XV 24 (0, 0)) := (f6.same B5 l6 H6.out.2.2.1).trans H6.out.2.2.2.1
 have q6 := lies_cell (lies_of_heap h6B) 0 _ HX.out.2.2
 have H8 := hid (⟨s6, m6, f6, h6B⟩ : _ ∧ _ ∧ _ ∧ _)
 clear s6 m6 f6 h6B l6 H7
 obtain ⟨_, m6, f6, _⟩ := H8.out
 obtain ⟨_, _, n5, _, F5, M5w⟩ := H6.out
 have M6w : ∀ c, M6 c → M c ∨ w.heap.size ≤ c := fun c h => (m6 c h).elim (M5w c) fun h => .inr (Nat.le_trans F5.size h)
 have F6 : Fr M w w6 := F5.trans M5w f6
 have l5 : B5 < w5.heap.size := (gS H6.out.2.2.2.1)
 have n6 : ¬ M6 B5 := fun h => (m6 B5 h).elim n5 fun h => by omega
 have H8' := hid (⟨M6w, F6, n6⟩ : _ ∧ _ ∧ _)
 clear m6 f6 n5 F5 M5w M6w F6 n6 l5
 go_wp2_with (first
  | ((with_reducible refine wpList_exec (.agg XV) ?_ ?_ ?_); exact exec_load24 _ rfl B5 0 rfl XV HX.out.1 (lies_of_heap H8.out.2.2.2); kernel_rfl)
  | (go_at_call 85; refine (HM.out _ _ w6 H8.out.1 (by have := HH.out.2.2.1; simp only [lA, lC, lN]; omega)).mono ?_; rintro e w8 ⟨rfl, M8, s8, m8, f8⟩; have H11 := hid (⟨s8, (fun c h => (m8 c h).elim (H8'.out.1 c) fun h => .inr (Nat.le_trans H8'.out.2.1.size h) : ∀ c, M8 c → M c ∨ w.heap.size ≤ c), H8'.out.2.1.trans H8'.out.1 f8⟩ : _ ∧ _ ∧ _); clear s8 m8 f8)
  | (go_at_call 86; refine (HK.out _ _ w8 H11.out.2.2 H11.out.1 (by simp only [lA, lC, lN]; omega)).mono ?_; rintro e w9 ⟨rfl, h9⟩; have H12 := hid h9; clear h9))
 go_end0
 refine ⟨rfl, ?_⟩
 obtain ⟨M9, s9, m9, f9⟩ := H12.out
 obtain ⟨_, M8w, F8⟩ := H11.out
 exact ⟨M9, by simpa using s9, fun c h => (m9 c h).elim (M8w c) fun h => .inr (Nat.le_trans F8.size h), F8.trans M8w f9⟩
end Go.Proofs.YtjikkhbcbfpocaaGreatDoor
namespace Go.Proofs.YtjikkhbcbfpocaaGreatDoor
open Go.RowKit Go.Shelf
def cOk (v : Vd) (m : Md) : Prop := (v.kind = 1 ∨ v.kind = 2 ∨ v.kind = 3) ∧ vOk v ∧ (0 ≤ v.mode ∧ v.mode < 256) ∧ mOk m
def gOk : F → Prop
 | .nil => True
 | .cons nm v m ks r => nm.size ≤ 100000 ∧ cOk v m ∧ gOk ks ∧ gOk r
theorem gOk.fOk : ∀ {f : F}, gOk f → fOk f
 | .nil, _ => trivial
 | .cons _ _ _ _ _, h => ⟨h.1, h.2.1.2.1, gOk.fOk h.2.2.1, gOk.fOk h.2.2.2⟩
theorem gOk.items : ∀ {l : List Kid}, gOk (kidsF l) → ∀ x ∈ l, x.nm.size ≤ 100000 ∧ cOk x.v x.m ∧ gOk x.k.flat
 | [], _, _, h => by cases h
 | y :: l, h, x, hx => by
  rcases List.mem_cons.1 hx with rfl | hx
  ·exact ⟨h.1, h.2.1, h.2.2.1⟩
  ·exact gOk.items h.2.2.2 x hx
theorem wrNode_any {lo X : Nat} {ver : Int} (w0 : World) (hlo : w0.heap.size ≤ lo) : ∀ (n : Nat) (k : K), k.flat.size < n → k.flat.size ≤ 100000 → ∀ (p : Nat) (v : Vd) (m : Md), AtT w0 p v m k → cOk v m → gOk k.flat → ∀ (b nm : List Nat) (hs : List (List Nat)) (M : Nat → Prop) (w : World) (x : Value), G w0 w → Ws lo X b ver (dirT v k.flat ++ hs) M w → (∀ W, Fr M w W → Su.Has W x nm) → b.length + (encT ver nm v m k.flat).length + 200 ≤ 16777216 →
  Calls Tryz.prog 57 #[.pointer (some ⟨X, 0, none⟩), x, .pointer (some ⟨p, 0, none⟩)] w fun e w' => e = .returned (.tuple #[]) ∧ PoW lo X (b ++ encT ver nm v m k.flat) ver hs M w w' := by
 intro n
 induction n with
 | zero => intro k h; omega
 | succ n ih =>
  intro k hk hsz p v m hT hc hg b nm hs M w x hG hS hx hl
  have hG2 : ∀ W, Fr M w W → G w0 W := fun W hF => by
   obtain ⟨u, vh, hW, hM⟩ := hS
   exact Below.trans (B := w0.heap.size) hG (hF.below (fun c hc => Nat.le_trans hlo (by rw [hM] at hc; exact (hW.lt.2 c hc).1)) hG.size)
  obtain ⟨hkind, hv, hmd, hm⟩ := hc
  rcases hkind with h1 | h1 | h1
  ·have e : encT ver nm v m k.flat = [1] ++ (nm ++ (modB ver v ++ (encN k.flat.len ++ ((hashT v k.flat).1 ++ encF ver k.flat)))) := by unfold encT oneB; rw [if_pos h1]
   have hh : (hashT v k.flat).1.length = 32 := hashT_len v k.flat
   rw [dirT_dir h1, List.append_assoc] at hS
   have el : (encT ver nm v m k.flat).length = 1 + (nm.length + ((modB ver v).length + ((encN k.flat.len).length + (32 + (encF ver k.flat).length)))) := by rw [e]; simp only [lA, lC, lN, hh]
   rw [e]
   refine wrNode_dir p v m k (hT.grow hG) h1 hS hx hmd (by omega) ?_
   intro b' M' W hF hS2 hb
   refine wrChildren_step w0 p v m k hT (hG2 W hF) hlo hS2 hh hsz (by omega) ?_ ?_
   ·intro y hy b2 hs2 M2 W2 nv g2 s2 n2 l2
    have hi := gOk.items (by rw [kidsF_items]; exact hg) y hy
    have hs' := items_size y hy
    exact ih y.k (by omega) (by omega) y.p y.v y.m (items_at hT y hy) hi.2.1 hi.2.2 b2 _ hs2 M2 W2 nv g2 s2 n2 l2
   ·exact fun y hy => (gOk.items (by rw [kidsF_items]; exact hg) y hy).1
  ·have e : encT ver nm v m k.flat = [2] ++ (nm ++ (conB v ++ (modB ver v ++ marB ver m))) := by unfold encT oneB; rw [if_neg (by omega), if_pos h1]
   rw [dirT_else (by omega) _ (.inl h1), List.nil_append] at hS
   have hL : nm.length ≤ (encT ver nm v m k.flat).length := by rw [e]; simp only [lA]; omega
   rw [e]
   exact wrNode_file p v m k (hT.grow hG) h1 hv hS hx (fun W hF => hT.grow (hG2 W hF)) hmd hm (by omega)
  ·have e : encT ver nm v m k.flat = [3] ++ (nm ++ conB v) := by unfold encT oneB; rw [if_neg (by omega), if_neg (by omega)]
   rw [dirT_else (by omega) _ (.inr h1), List.nil_append] at hS
   have hL : nm.length ≤ (encT ver nm v m k.flat).length := by rw [e]; simp only [lA]; omega
   rw [e]
   exact wrNode_link p v m k (hT.grow hG) h1 hv hS hx (by omega)
attribute [local go_sem] Oper.semAt_some
def arcB (ver : Nat) (v : Vd) (m : Md) (ks : F) : List Nat := [116, 119, 110, 101] ++ (encN ver ++ (encN (1 + ks.size) ++ encT ver [] v m ks))
def arcW (ver : Nat) (v : Vd) (m : Md) (ks : F) : List Nat := arcB ver v m ks ++ le4 (Su.Crc.crc (arcB ver v m ks))
theorem owns_sl {w : World} {lo e n : Nat} {u : Value} {c : List Value} {ty : TypeId} (h : w.ownsRow lo ty e u n c) : ∃ a l k, u = .slice a l k := by
 obtain ⟨_, ⟨rfl, _⟩ | ⟨g, cap, cur, rv, _⟩⟩ := h
 ·exact ⟨_, _, _, rfl⟩
 ·exact ⟨_, _, _, rv⟩
theorem wr_new {w w2 : World} {u : Value} {hs : List (List Nat)} (ver : Int) (ho : w2.ownsRow w.heap.size 22 32 u hs.length (hrow hs)) (hg : G w w2) : ∃ M, Ws w.heap.size w2.heap.size [] ver hs M (w2.alloc (.cells #[.slice none 0 0, .int .i64 ver, u] 112)) ∧ ∀ c, M c → w.heap.size ≤ c := by
 have ho' := ho
 obtain ⟨h1, h2⟩ := ho
 have hW : Wr w.heap.size w2.heap.size [] ver hs (.slice none 0 0) u (w2.alloc (.cells #[.slice none 0 0, .int .i64 ver, u] 112)) := by
  refine ⟨World.alloc_heap_new w2 _, ⟨rfl, .inl ⟨rfl, rfl⟩⟩, ?_, hg.size⟩
  rcases h2 with ⟨rfl, e⟩ | ⟨g, cap, cur, rv, rg, rh, rn, rm, rs, rt⟩
  ·exact .inl ⟨0, 0, rfl, List.length_eq_zero_iff.1 e⟩
  ·refine .inr ⟨g, 0, hs.length, cap, by rw [rv], rg, rfl, rn, cur, ((G.alloc w2 _).block g (gS rh)).trans rh, by simpa using rt, ?_⟩
   have := Nat.mul_le_mul_right 32 rn
   omega
 exact ⟨_, ⟨_, _, hW, rfl⟩, fun c hc => (hW.lt.2 c hc).1⟩
theorem PoW.call55 {lo X : Nat} {b t : List Nat} {ver : Int} {hs : List (List Nat)} {M : Nat → Prop} {W0 W : World} {x : Value} (h : PoW lo X b ver hs M W0 W) (hx : Su.Has W x t) (hl : b.length + t.length ≤ 16777216) : Calls Tryz.prog 55 #[.pointer (some ⟨X, 0, none⟩), x] W fun e w' => e = .returned (.tuple #[]) ∧ PoW lo X (b ++ t) ver hs M W0 w' := by
 obtain ⟨M', s', m', f'⟩ := h
 exact (wrAdd_any s' hx hl).mono fun e w' h => ⟨h.1, PoW.comp m' f' h.2⟩
theorem PoW.call56 {lo X : Nat} {b : List Nat} {ver : Int} {hs : List (List Nat)} {M : Nat → Prop} {W0 W : World} (h : PoW lo X b ver hs M W0 W) (n : Nat) (hn : n < 9223372036854775808) (hl : b.length + 16 ≤ 16777216) : Calls Tryz.prog 56 #[.pointer (some ⟨X, 0, none⟩), .int .i64 (n : Int)] W fun e w' => e = .returned (.tuple #[]) ∧ PoW lo X (b ++ encN n) ver hs M W0 w' := by
 obtain ⟨M', s', m', f'⟩ := h
 exact (wrNumber_any n hn s' hl).mono fun e w' h => ⟨h.1, PoW.comp m' f' h.2⟩
theorem PoW.bytes {lo X : Nat} {b : List Nat} {ver : Int} {hs : List (List Nat)} {M : Nat → Prop} {W0 W : World} (h : PoW lo X b ver hs M W0 W) : ∃ po cap, W.cell? ⟨X, 0, none⟩ = some (.slice po b.length cap) ∧ Su.Owns W lo (.slice po b.length cap) b := by
 obtain ⟨M', ⟨u, vh, hW, _⟩, _, _⟩ := h
 obtain ⟨po, cap, e⟩ : ∃ po cap, u = .slice po b.length cap := by
  obtain ⟨_, ⟨rfl, h3⟩ | ⟨g, cap, _, rv, _⟩⟩ := hW.ow
  ·exact ⟨none, 0, by rw [h3]⟩
  ·exact ⟨_, cap, rv⟩
 subst e
 exact ⟨po, cap, lies_cell (lies_of_heap hW.at_) 0 _ rfl, hW.ow⟩
theorem PoW.low {lo X : Nat} {b : List Nat} {ver : Int} {hs : List (List Nat)} {M : Nat → Prop} {w W0 W : World} (h : PoW lo X b ver hs M W0 W) (hg : G w W0) (hM : ∀ c, M c → w.heap.size ≤ c) : G w W := by
 obtain ⟨_, _, _, hF⟩ := h
 exact Below.trans (B := w.heap.size) hg (hF.below hM hg.size)
theorem encoded_any (p : Nat) (v : Vd) (m : Md) (k : K) (w : World) (ver : Nat) (hver : ver < 9223372036854775808) (hT : AtT w p v m k) (hk : v.kind = 1) (hc : cOk v m) (hg : gOk k.flat) (hsz : k.flat.size ≤ 100000) (hTb : Su.Tabs w) (hTh : Su.Half w) (hl : (encT ver [] v m k.flat).length + 300 ≤ 16777216) (hB : Su.Bytes (arcB ver v m k.flat)) :
  Calls Tryz.prog 33 #[.pointer (some ⟨p, 0, none⟩), .int .i64 (ver : Int)] w fun e w' => ∃ u, e = .returned u ∧ Su.Owns w' w.heap.size u (arcW ver v m k.flat) ∧ G w w' := by
 unfold arcW
 obtain ⟨E, hE0⟩ : ∃ E, arcB ver v m k.flat = E := ⟨_, rfl⟩
 rw [hE0] at hB ⊢
 have CH := hashesOf_any p v m k w hT hc.2.1 hg.fOk hsz hTb
 have CO := count_any p v m k
 have HH := hid (⟨hT, hk, hc, hg, hsz, hTh, hl, hB⟩ : _ ∧ _ ∧ _ ∧ _ ∧ _ ∧ _ ∧ _ ∧ _)
 obtain ⟨hs, hhs⟩ : ∃ hs, dirs (hashT v k.flat).2 = hs := ⟨_, rfl⟩
 rw [hhs] at CH
 obtain ⟨cn, hcn⟩ : ∃ cn, 1 + k.flat.size = cn := ⟨_, rfl⟩
 rw [hcn] at CO
 have HCN := hid (⟨hcn, (by omega : cn < 9223372036854775808)⟩ : _ ∧ _)
 have HCO := hid CO
 clear hcn
 clear hT hk hc hg hsz hTb hTh hl hB CO
 go_enter Tryz.func33, Tryz.ntmps33
 go_upto_region 2 with (go_at_call 54; refine CH.mono ?_; rintro e w2 ⟨u, rfl, ho, hg2⟩; have HO := hid (⟨ho, hg2⟩ : _ ∧ _); obtain ⟨ua, un, uc, hu⟩ := owns_sl ho; subst hu; clear ho hg2 CH; obtain ⟨X, hX⟩ : ∃ X, w2.heap.size = X := ⟨_, rfl⟩)
 obtain ⟨M3, s3, l3⟩ := wr_new (ver : Int) HO.out.1 HO.out.2
 rw [hX] at s3
 have H3 : Hid (PoW w.heap.size X [] (ver : Int) hs M3 (w2.alloc (.cells #[.slice none 0 0, .int .i64 (ver : Int), .slice ua un uc] 112)) (w2.alloc (.cells #[.slice none 0 0, .int .i64 (ver : Int), .slice ua un uc] 112)) ∧ (∀ c, M3 c → w.heap.size ≤ c) ∧ G w (w2.alloc (.cells #[.slice none 0 0, .int .i64 (ver : Int), .slice ua un uc] 112))) := ⟨⟨M3, s3, fun _ h => .inl h, Fr.of_G (G.refl _)⟩, l3, HO.out.2.trans (G.alloc _ _)⟩
 clear s3 l3
 generalize w2.alloc (.cells #[.slice none 0 0, .int .i64 (ver : Int), .slice ua un uc] 112) = w3 at *
 clear HO hX
 obtain ⟨B3, hB3⟩ : ∃ B3, w3.heap.size = B3 := ⟨_, rfl⟩
 have kc := Lib.run_convert_bytes_const (P := Tryz.prog) w3 35 5 #[.int .u8 116, .int .u8 119, .int .u8 110, .int .u8 101] 4 4 Tryz.underlying35 Tryz.underlying5
 rw [hB3] at kc
 have HMk : Hid (Su.Has (w3.alloc (.cells #[.int .u8 116, .int .u8 119, .int .u8 110, .int .u8 101] 5 (4, 5))) (.slice (some ⟨B3, 0, none⟩) 4 4) [116, 119, 110, 101]) := by
  refine .inr ⟨⟨B3, 0, none⟩, 4, rfl, Nat.le_refl _, fun i hi => ?_⟩
  rw [Su.addr_add, Nat.zero_add, ← hB3, World.cell?_alloc_mark]
  have h4 : i = 0 ∨ i = 1 ∨ i = 2 ∨ i = 3 := by simp at hi; omega
  rcases h4 with rfl | rfl | rfl | rfl <;> rfl
 have H4 := hid (H3.out.1.grow (G.alloc w3 (.cells #[.int .u8 116, .int .u8 119, .int .u8 110, .int .u8 101] 5 (4, 5))))
 go_upto_region 3 with (go_at_call 55; refine (H4.out.call55 HMk.out (by simp)).mono ?_; rintro e w5 ⟨rfl, h5⟩; have H5 := hid h5; clear h5)
 go_upto_region 4 with (go_at_call 56; refine (H5.out.call56 ver hver (by simp)).mono ?_; rintro e w6 ⟨rfl, h6⟩; have H6 := hid h6; clear h6)
 have H6G := hid (H6.out.low H3.out.2.2 H3.out.2.1)
 have C56 := H6.out.call56 cn HCN.out.2 (by have := encN_len10 (n := ver) (by omega); simp only [lA, lC, lN]; omega)
 go_upto_region 5 with (first
  | (go_at_call 18; refine (HCO.out w6 (HH.out.1.grow H6G.out) (by have := HH.out.2.2.2.2.1; omega)).mono ?_; rintro e w7 ⟨rfl, hw7⟩; subst hw7)
  | (go_at_call 56; refine C56.mono ?_; rintro e w8 ⟨rfl, h8⟩; have H8 := hid h8; clear h8 C56))
 have H8G := hid (H8.out.low H3.out.2.2 H3.out.2.1)
 have hlen : ([] ++ [116, 119, 110, 101] ++ encN ver ++ encN cn).length ≤ 24 := by
  have h1 := encN_len10 (n := ver) (by omega)
  have h2 := encN_len10 (n := cn) (by have := HCN.out.2; omega)
  simp only [lA, lC, lN]
  omega
 obtain ⟨M8, s8, m8, f8⟩ := H8.out
 have CN := wrNode_any (lo := w.heap.size) (X := X) (ver := (ver : Int)) w (Nat.le_refl _) (k.flat.size + 1) k (Nat.lt_succ_self _) HH.out.2.2.2.2.1 p v m HH.out.1 HH.out.2.2.1 HH.out.2.2.2.1 _ [] [] M8 w8 (.slice none 0 0) H8G.out (by rw [List.append_nil]; unfold dirT; rw [hhs]; exact s8) (fun _ _ => .inl ⟨rfl, rfl⟩) (by have := HH.out.2.2.2.2.2.2.1; omega)
 have H9' := hid (⟨m8, f8⟩ : _ ∧ _)
 clear m8 f8 s8 hlen kc
 go_upto_region 6 with (go_at_call 57; refine CN.mono ?_; rintro e w9 ⟨rfl, h9⟩; have H9 := hid (PoW.comp H9'.out.1 H9'.out.2 h9); clear h9)
 clear CN H9'
 have hE : [] ++ [116, 119, 110, 101] ++ encN ver ++ encN cn ++ encT (ver : Int) [] v m k.flat = E := by rw [← hE0]; unfold arcB; rw [HCN.out.1]; simp
 rw [hE] at H9
 have hEl : E.length + 100 ≤ 16777216 := by
  have h0 := HH.out.2.2.2.2.2.2.1
  have h1 := encN_len10 (n := ver) (by omega)
  have h2 := encN_len10 (n := cn) (by have := HCN.out.2; omega)
  rw [← hE]
  simp only [lA, lC, lN]
  omega
 have HE := hid (⟨HH.out.2.2.2.2.2.2.2, hEl⟩ : _ ∧ _)
 clear hE hEl hE0
 have H9G := hid (H9.out.low H3.out.2.2 H3.out.2.1)
 obtain ⟨po, cap, q0, ow⟩ := H9.out.bytes
 have CS := sumOf_any _ E w9 ow.has HE.out.1 (HH.out.2.2.2.2.2.1.below H9G.out HH.out.2.2.2.2.2.1.size) (by have := HE.out.2; omega)
 clear ow
 go_upto_region 7 with (first
  | (go_at_call 58; refine CS.mono ?_; rintro e w10 ⟨vs, rfl, hos, hg10⟩; have C55 := (H9.out.grow hg10).call55 hos.has (by have := HE.out.2; have : (le4 (Su.Crc.crc E)).length = 4 := rfl; omega); clear CS hos hg10)
  | (go_at_call 55; refine C55.mono ?_; rintro e w11 ⟨rfl, h11⟩; obtain ⟨po2, cap2, r0, ow2⟩ := h11.bytes; have H11 := hid (⟨ow2, h11.low H3.out.2.2 H3.out.2.1⟩ : _ ∧ _); clear h11 ow2 C55 q0))
 go_wp2
 refine bodyPost_ret (results_tmp rfl _ _ _) rfl ⟨_, rfl, ?_, H11.out.2⟩
 have := H11.out.1
 rw [lA] at this
 exact this
theorem bytes_nil : Su.Bytes [] := fun _ h => by cases h
theorem hashT_bytes (v : Vd) (ks : F) : Su.Bytes (hashT v ks).1 := by
 unfold hashT
 split <;> exact sha_bytes _
theorem modB_bytes (ver : Int) {v : Vd} (h : 0 ≤ v.mode ∧ v.mode < 256) : Su.Bytes (modB ver v) := by
 unfold modB
 split
 ·exact bytes_cons (by omega) bytes_nil
 ·exact bytes_nil
theorem mkB_bytes (m : Md) : ∀ k, Su.Bytes (mkB m k)
 | 0 => bytes_nil
 | k + 1 => bytes_app (mkB_bytes m k) (bytes_app (encN_bytes _) (encN_bytes _))
theorem marB_bytes (ver : Int) (m : Md) : Su.Bytes (marB ver m) := by
 unfold marB
 split
 ·exact bytes_nil
 ·exact mkB_bytes m 2
theorem oneB_bytes (ver : Int) {nm : List Nat} {v : Vd} {m : Md} {c : Nat} {h ks : List Nat} (hn : Su.Bytes nm) (hc : cOk v m) (hh : Su.Bytes h) (hk : Su.Bytes ks) : Su.Bytes (oneB ver nm v m c h ks) := by
 unfold oneB
 have hcon : Su.Bytes (conB v) := bytes_app (encN_bytes _) hc.2.1.2.2
 split
 ·exact bytes_app (bytes_cons (by decide) bytes_nil) (bytes_app hn (bytes_app (modB_bytes ver hc.2.2.1) (bytes_app (encN_bytes _) (bytes_app hh hk))))
 ·split
  ·exact bytes_app (bytes_cons (by decide) bytes_nil) (bytes_app hn (bytes_app hcon (bytes_app (modB_bytes ver hc.2.2.1) (marB_bytes ver m))))
  ·exact bytes_app (bytes_cons (by decide) bytes_nil) (bytes_app hn hcon)
theorem namB_bytes (nm : ByteArray) : Su.Bytes (namB nm) := bytes_app (encN_bytes _) (strN_bytes _)
theorem encF_bytes (ver : Int) : ∀ {f : F}, gOk f → Su.Bytes (encF ver f)
 | .nil, _ => bytes_nil
 | .cons nm v m ks r, h => by
  rw [encF]
  exact bytes_app (oneB_bytes ver (namB_bytes nm) h.2.1 (hashT_bytes v ks) (encF_bytes ver h.2.2.1)) (encF_bytes ver h.2.2.2)
theorem encT_bytes (ver : Int) {nm : List Nat} {v : Vd} {m : Md} {ks : F} (hn : Su.Bytes nm) (hc : cOk v m) (hk : gOk ks) : Su.Bytes (encT ver nm v m ks) := oneB_bytes ver hn hc (hashT_bytes v ks) (encF_bytes ver hk)
theorem arcB_bytes (ver : Nat) {v : Vd} {m : Md} {ks : F} (hc : cOk v m) (hk : gOk ks) : Su.Bytes (arcB ver v m ks) :=
 bytes_app (bytes_cons (by decide) (bytes_cons (by decide) (bytes_cons (by decide) (bytes_cons (by decide) bytes_nil)))) (bytes_app (encN_bytes _) (bytes_app (encN_bytes _) (encT_bytes ver bytes_nil hc hk)))
theorem oneB_len (ver : Int) {nm : List Nat} {v : Vd} {m : Md} {c : Nat} {h ks : List Nat} (hc : cOk v m) (hn : c < 9223372036854775808) (hh : h.length = 32) : (oneB ver nm v m c h ks).length ≤ nm.length + 84 + (if v.kind = 1 then ks.length else 0) := by
 obtain ⟨_, ⟨_, hs, _⟩, _, hm1, hm2, hm3, hm4⟩ := hc
 have e2 := encN_len10 (n := v.size.toNat) (by omega)
 have e3 := encN_len10 (n := c) (by omega)
 have e4 := v.len
 have a1 := encN_len10 (n := m.n0.toNat) (by omega)
 have a2 := encN_len10 (n := m.s0.toNat) (by omega)
 have a3 := encN_len10 (n := m.n1.toNat) (by omega)
 have a4 := encN_len10 (n := m.s1.toNat) (by omega)
 have h1 : (modB ver v).length ≤ 1 := by unfold modB; split <;> simp
 have h2 : (marB ver m).length ≤ 40 := by
  unfold marB
  split
  ·simp
  ·simp only [mkB, mN, mS, lA, lN, if_true, Nat.succ_ne_zero, if_false]
   omega
 have h3 : (conB v).length ≤ 42 := by simp only [conB, lA]; omega
 unfold oneB
 split
 ·simp only [lA, lC, lN]; omega
 ·split <;> simp only [lA, lC, lN] <;> omega
def nOk : F → Prop
 | .nil => True
 | .cons nm _ _ ks r => nm.size ≤ 255 ∧ nOk ks ∧ nOk r
theorem namB_len {nm : ByteArray} (h : nm.size ≤ 255) : (namB nm).length ≤ 265 := by
 have := encN_len10 (n := nm.size) (by omega)
 have e : (strN nm).length = nm.size := by simp [strN]
 simp only [namB, lA, e]
 omega
theorem encF_len (ver : Int) : ∀ {f : F}, gOk f → nOk f → f.size < 9223372036854775808 → (encF ver f).length ≤ 350 * f.size
 | .nil, _, _, _ => by simp [encF, F.size]
 | .cons nm v m ks r, h, hn, hs => by
  have hs' : ks.size < 9223372036854775808 ∧ r.size < 9223372036854775808 := by simp only [F.size] at hs; omega
  have h1 := encF_len ver h.2.2.1 hn.2.1 hs'.1
  have h2 := encF_len ver h.2.2.2 hn.2.2 hs'.2
  have hl := ks.len_le_size
  have h3 := oneB_len ver (nm := namB nm) (c := ks.len) (h := (hashT v ks).1) (ks := encF ver ks) h.2.1 (by omega) (hashT_len v ks)
  have h4 := namB_len hn.1
  have h5 : (if v.kind = 1 then (encF ver ks).length else 0) ≤ (encF ver ks).length := by split <;> omega
  rw [encF, lA]
  simp only [F.size]
  omega
theorem arcW_len (ver : Nat) (hv : ver < 9223372036854775808) {v : Vd} {m : Md} {ks : F} (hc : cOk v m) (hk : gOk ks) (hn : nOk ks) (hs : ks.size < 1000000000) : (arcW ver v m ks).length ≤ 350 * (1 + ks.size) ∧ (encT ver [] v m ks).length + 250 ≤ 350 * (1 + ks.size) := by
 have hl := ks.len_le_size
 have h3 := oneB_len ver (nm := []) (c := ks.len) (h := (hashT v ks).1) (ks := encF ver ks) hc (by omega) (hashT_len v ks)
 have h5 : (if v.kind = 1 then (encF ver ks).length else 0) ≤ (encF ver ks).length := by split <;> omega
 have h6 := encF_len ver hk hn (by omega)
 have h7 := encN_len10 (n := ver) (by omega)
 have h8 := encN_len10 (n := 1 + ks.size) (by omega)
 have h9 : (le4 (Su.Crc.crc (arcB ver v m ks))).length = 4 := rfl
 have e : (arcB ver v m ks).length = 4 + ((encN ver).length + ((encN (1 + ks.size)).length + (encT ver [] v m ks).length)) := by simp only [arcB, lA, lC, lN]
 have e2 : (encT ver [] v m ks).length = (oneB ver [] v m ks.len (hashT v ks).1 (encF ver ks)).length := rfl
 simp only [arcW, lA, h9, e]
 simp only [lN] at h3
 omega
theorem bound_any (most : Int) (w : World) : Calls Tryz.prog 32 #[.int .i64 most] w fun e w' => e = .returned (.int .i64 (min (max most 1) 1048576)) ∧ w' = w := by
 go_enter Tryz.func32, Tryz.ntmps32
 go_wp2
 exact bodyPost_ret (results_tmp rfl _ _ _) rfl ⟨rfl, rfl⟩
def bnd (most : Int) : Nat := (min (max most 1) 1048576).toNat
theorem bnd_le (most : Int) : bnd most ≤ 1048576 := by unfold bnd; omega
theorem bnd_int (most : Int) : ((bnd most : Nat) : Int) = min (max most 1) 1048576 := by unfold bnd; omega
def decL (b : List Nat) : List Int := up (b.take (b.length - 4))
def decR (b : List Nat) : Rv := ⟨⟨(opU b).2.p, 0, 0⟩, 0, none, []⟩
def decN (b : List Nat) (most : Int) : Nd × Rv := nodesR (decL b) (opU b).1 (bnd most) (decR b)
def DFlt (x : Int × Int) (e : Ending) (w' : World) : Prop := ∃ fb, e = .returned (.tuple #[.pointer none, .int .i64 0, .iface 72 (.pointer (some ⟨fb, 0, none⟩))]) ∧ w'.heap[fb]? = some (.cells #[.int .i64 x.1, .string ⟨#[]⟩, .int .i64 x.2] 93 (0, 0))
def DHsh (st : List Stp) (e : Ending) (w' : World) : Prop := ∃ s ∈ st, ∃ fb pt, e = .returned (.tuple #[.pointer none, .int .i64 0, .iface 72 (.pointer (some ⟨fb, 0, none⟩))]) ∧ w'.heap[fb]? = some (.cells #[.int .i64 (s.pl : Int), .string pt, .int .i64 65] 93 (0, 0))
def DTree (d : Nd) (ver : Int) (e : Ending) (w' : World) : Prop := ∃ p k, e = .returned (.tuple #[.pointer (some ⟨p, 0, none⟩), .int .i64 ver, .nilIface]) ∧ AtT w' p d.v d.m k ∧ k.flat = d.ks ∧ k.plain w' ∧ Tr w' p
def DecP (b : List Nat) (most : Int) (e : Ending) (w' : World) : Prop :=
 (∃ x, opF b = some x ∧ DFlt x e w') ∨ (opF b = none ∧ ((∃ x, (decN b most).2.flt = some x ∧ DFlt x e w') ∨ ((decN b most).2.flt = none ∧
  ((((decN b most).2.st.map (·.hash)) ≠ dirT (decN b most).1.v (decN b most).1.ks ∧ DHsh (decN b most).2.st e w') ∨ (((decN b most).2.st.map (·.hash)) = dirT (decN b most).1.v (decN b most).1.ks ∧ DTree (decN b most).1 (opU b).1 e w')))))
structure DecOk (d : Nd) (r : Rv) : Prop where
 chk : checkE d.v d.m d.ks = 0
 wt : d.ks.weight ≤ 100000
 v : vOk d.v
 f : fOk d.ks
 st : r.st.length = (dirT d.v d.ks).length
 stb : r.st.length ≤ 100000000
 sz : d.ks.size ≤ 100000
theorem decode_any (vb : Value) (b : List Nat) (most : Int) (w : World) (hb : Su.Has w vb b) (hB : Su.Bytes b) (hT : Su.Half w) (hTb : Su.Tabs w) (hE : ErrT w) (h1 : 1 < w.heap.size) (hl : b.length ≤ 16777216)
  (hc : opF b = none → (nodesA (decL b) (bnd most) (decR b)).left ≤ 100000 ∨ b.length ≤ 100000) (hok : opF b = none → (decN b most).2.flt = none → DecOk (decN b most).1 (decN b most).2) :
  Calls Tryz.prog 13 #[vb, .int .i64 most] w fun e w' => G w w' ∧ DecP b most e w' := by
 have CO := opened_any vb b w hb hB hT hl
 have CB := bound_any most
 rw [← bnd_int most] at CB
 have hbl := bnd_le most
 have HH := hid (⟨hTb, hE, h1, hc, hok⟩ : _ ∧ _ ∧ _ ∧ _ ∧ _)
 obtain ⟨ao, n, cap, hv⟩ : ∃ ao n cap, vb = .slice ao n cap := by
  rcases hb with ⟨rfl, rfl⟩ | ⟨a, cp, rfl, _⟩
  ·exact ⟨_, _, _, rfl⟩
  ·exact ⟨_, _, _, rfl⟩
 subst hv
 obtain ⟨BM, hBM⟩ : ∃ BM, bnd most = BM := ⟨_, rfl⟩
 rw [hBM] at CB hbl
 have HBM := hid hBM
 clear hb hB hT hTb hE hc hok hl hBM
 cases hF : opF b with
 | some x =>
  have CO2 : Calls Tryz.prog 35 #[.slice ao n cap] w fun e w' => ∃ fb, e = .returned (.tuple #[.pointer none, .pointer (some ⟨fb, 0, none⟩)]) ∧ w'.heap[fb]? = some (.cells #[.int .i64 x.1, .string ⟨#[]⟩, .int .i64 x.2] 93 (0, 0)) ∧ G w w' := CO.mono fun e w' ⟨h, g⟩ => by
   rcases h with ⟨x', fb, q1, q2, q3, _⟩ | ⟨c, M, q1, _⟩
   ·rw [hF] at q1
    cases q1
    exact ⟨fb, q2, q3, g⟩
   ·rw [hF] at q1; cases q1
  have HF := hid hF
  clear CO CB hF
  go_enter Tryz.func13, Tryz.ntmps13
  go_wp2_with (go_at_call 35; refine CO2.mono ?_; rintro e w1 ⟨fb, rfl, q3, q4⟩; have HQ := hid (⟨q3, q4⟩ : _ ∧ _); clear q3 q4 CO2)
  go_ret3
  exact ⟨HQ.out.2, .inl ⟨x, HF.out, fb, rfl, HQ.out.1⟩⟩
 | none =>
  have CO2 : Calls Tryz.prog 35 #[.slice ao n cap] w fun e w' => ∃ c M, e = .returned (.tuple #[.pointer (some ⟨c.X, 0, none⟩), .pointer none]) ∧ c.lo = w.heap.size ∧ c.l = decL b ∧ c.ver = ((opU b).1 : Int) ∧ Rs c (decR b) M w' ∧ G w w' := CO.mono fun e w' ⟨h, g⟩ => by
   rcases h with ⟨x', fb, q1, _⟩ | ⟨c, M, q1, q2, q3, q4, q5, q6⟩
   ·rw [hF] at q1; cases q1
   ·exact ⟨c, M, q2, q3, q4, q5, q6, g⟩
  have hc2 := HH.out.2.2.2.1 hF
  have hok2 := HH.out.2.2.2.2 hF
  rw [HBM.out] at hc2
  have hdN : decN b most = nodesR (decL b) (opU b).1 BM (decR b) := by unfold decN; rw [HBM.out]
  rw [hdN] at hok2
  have HF := hid (⟨hF, hc2, hok2, hdN⟩ : _ ∧ _ ∧ _ ∧ _)
  clear CO hF hc2 hok2 hdN
  go_enter Tryz.func13, Tryz.ntmps13
  go_upto_region 4 with (go_at_call 35; refine CO2.mono ?_; rintro e w1 ⟨c, M, rfl, q3, q4, q5, q6, q7⟩; have HQ := hid (⟨q3, q4, q5, q6, q7⟩ : _ ∧ _ ∧ _ ∧ _ ∧ _); clear q3 q4 q5 q6 q7 CO2)
  have hlo1 : 1 < c.lo := by rw [HQ.out.1]; exact h1
  have CN := rdNodes_any (c := c) (r := decR b) (M := M) (w := w1) BM hbl HQ.out.2.2.2.1 (HQ.out.2.2.2.2.cell HH.out.2.1) hlo1 (by
   unfold capR
   rw [HQ.out.2.1]
   have hq := HF.out.2.1
   have e0 : (nodesA (decL b) BM (decR b)).st.length = 0 := by
    unfold nodesA
    rw [(Sm.must _ _ _).st, (Sm.bound _).st]
    rfl
   have e1 : (decL b).length ≤ b.length := by unfold decL; rw [up_len, List.length_take]; omega
   omega)
  rw [HQ.out.2.1, HQ.out.2.2.1] at CN
  generalize nodesR (decL b) (opU b).1 BM (decR b) = NN at *
  obtain ⟨d, r⟩ := NN
  simp only at CN HF
  clear hlo1
  go_upto_region 5 with (first
   | (go_at_call 32; refine (CB w1).mono ?_; rintro e w2 ⟨rfl, hw2⟩; replace hw2 := hw2.symm; subst hw2)
   | (go_at_call 36; refine CN.mono ?_; rintro e W2 ⟨C, rfl, hN⟩; obtain ⟨D, hD⟩ : ∃ D, W2.heap.size = D := ⟨_, rfl⟩; have HN := hid hN; have HZ : Hid (C.size = 41 ∧ C.all (·.oneCell') = true) := by { obtain ⟨_, _, _, _, _, ⟨kv2, rfl, hk2⟩, _⟩ := hN; obtain ⟨a2, cap2, rfl, _⟩ := hk2; exact ⟨nc_size .., nc_one _ _ _ _ rfl⟩ }; have HV := hid (new_var W2 C); rw [hD] at HV; clear CN hN)
   | ((with_reducible refine wpList_execW (.pointer (some ⟨D, 0, none⟩)) (W2.alloc (.cells z30 30)) ?_ ?_ ?_); exact exec_allocT 30 z30 rfl zero30 _ _ hD; kernel_rfl)
   | ((with_reducible refine wpList_skipW ((W2.alloc (.cells z30 30)).setRow D C) ?_ ?_ ?_); exact exec_store30 _ _ rfl D C z30 rfl rfl _ (by rw [← hD]; exact Var.new W2 z30) HZ.out.1 z30_size HZ.out.2; kernel_rfl))
  obtain ⟨M2, T2, n1, n2, n3, n4, n5⟩ := HN.out
  have hG2 : G w W2 := Below.trans (B := w.heap.size) HQ.out.2.2.2.2 (n3.fr.below (fun x hx => by have := (HQ.out.2.2.2.1.bnd x hx).1; rw [HQ.out.1] at this; exact this) HQ.out.2.2.2.2.size)
  have n1 := n1.grow HV.out.1
  have hN3 : HasN ((W2.alloc (.cells z30 30)).setRow D C) C d.nm d.v d.m d.ks := n4.has.below HV.out.1
  have HK := hid (⟨n1, hN3, G.trans hG2 HV.out.1, HV.out.2.1⟩ : _ ∧ _ ∧ _ ∧ _)
  clear n1 n2 n3 n4 n5 hN3 hG2 HN HV hD CB
  generalize (W2.alloc (.cells z30 30)).setRow D C = w3 at *
  obtain ⟨fp, q3, hq⟩ := HK.out.1.q3
  rcases hq with ⟨hf, rfl⟩ | ⟨hf, bq, rfl⟩
  ·have hD := HF.out.2.2.1 hf
   have CF := of_anyP C d.nm d.v d.m d.ks w3 HK.out.2.1 hD.wt
   rw [hD.chk] at CF
   have CF2 : Calls Tryz.prog 29 #[.agg C] w3 fun e w' => ∃ p k, e = .returned (.tuple #[.pointer (some ⟨p, 0, none⟩), .int .i64 0]) ∧ G w3 w' ∧ AtT w' p d.v d.m k ∧ k.flat = d.ks ∧ k.plain w' ∧ Tr w' p := CF.mono fun e w' ⟨u, e1, e2, e3⟩ => by
    rcases e3 with ⟨e3, _⟩ | ⟨_, p, k, e4, e5⟩
    ·exact absurd rfl e3
    ·subst e4
     exact ⟨p, k, e1, e2, e5⟩
   have HD := hid (⟨hD, hf⟩ : _ ∧ _)
   clear CF hD hf
   go_upto_region 8 with (first
    | ((with_reducible refine wpList_exec (.agg C) ?_ ?_ ?_); exact exec_load30 _ rfl D 0 rfl _ HZ.out.1 HK.out.2.2.2.lies; kernel_rfl)
    | (go_at_call 29; refine CF2.mono ?_; rintro e w4 ⟨p, k, rfl, g4, a1, a2, a3, a4⟩; have HT := hid (⟨g4, a1, a2, a3, a4⟩ : _ ∧ _ ∧ _ ∧ _ ∧ _); clear g4 a1 a2 a3 a4 CF2))
   have hR4 := HK.out.1.grow HT.out.1
   have hG4 := G.trans HK.out.2.2.1 HT.out.1
   have CW := wrongHash_any hR4 p d.v d.m k HT.out.2.1 HD.out.1.v (by rw [HT.out.2.2.1]; exact HD.out.1.f) (by rw [HT.out.2.2.1]; exact HD.out.1.sz) (HH.out.1.up hG4) (by rw [HT.out.2.2.1]; exact HD.out.1.st) HD.out.1.stb
   rw [HT.out.2.2.1] at CW
   have HG4 := hid hG4
   clear hR4 hG4
   by_cases heq : r.st.map (·.hash) = dirT d.v d.ks
   ·have CW2 : Calls Tryz.prog 37 #[.pointer (some ⟨c.X, 0, none⟩), .pointer (some ⟨p, 0, none⟩)] w4 fun e w' => e = .returned (.pointer none) ∧ G w4 w' := CW.mono fun e w' ⟨g, h⟩ => by
     rcases h with ⟨_, h⟩ | ⟨h, _⟩
     ·exact ⟨h, g⟩
     ·exact absurd heq h
    have HE := hid heq
    clear CW heq
    go_upto_region 11 with (go_at_call 37; refine CW2.mono ?_; rintro e w5 ⟨rfl, g5⟩; have HG5 := hid g5; clear g5 CW2)
    have q1 := (G.trans HT.out.1 HG5.out).cell HK.out.1.q1
    refine wp_region_G ?_
    have q1d := (G.drew w5).cell q1
    have HG6 : Hid (G w4 w5.drew) := G.trans HG5.out (G.drew w5)
    generalize w5.drew = w6 at *
    have HQ1 := hid q1d
    clear q1 q1d
    refine fG 0 48 (.pointer (some ⟨p, 0, none⟩)) ?_
    refine fG 1 49 (.pointer (some ⟨c.X, 0, none⟩)) ?_
    refine gG 2 50 (.pointer (some ⟨c.X, 0, none⟩)) ?_
    refine gG 3 51 (.pointer (some ⟨c.X, 1, none⟩)) ?_
    refine takeG 4 52 (.int .i64 c.ver) (fun wz hz => ?_) ?_
    ·have y := hz.cell HQ1.out; go_simp
    refine gG 5 4 (.pointer (some ⟨p, 0, none⟩)) ?_
    refine gG 6 5 (.int .i64 c.ver) ?_
    refine gG 7 6 (.nilIface) ?_
    refine doneG (by kernel_rfl) (fun w9 hg9 => ?_)
    have HG9 := hid (G.trans HG6.out hg9)
    clear hg9
    go_wp2
    go_ret3
    refine ⟨G.trans HG4.out HG9.out, .inr ⟨HF.out.1, .inr ?_⟩⟩
    rw [HF.out.2.2.2]
    refine ⟨HD.out.2, .inr ⟨HE.out, p, k, ?_, HT.out.2.1.grow HG9.out, HT.out.2.2.1, K.plain_grow HG9.out HT.out.2.2.2.1, HT.out.2.2.2.2.grow HG9.out⟩⟩
    rw [HQ.out.2.2.1]
    rfl
   ·have CW2 : Calls Tryz.prog 37 #[.pointer (some ⟨c.X, 0, none⟩), .pointer (some ⟨p, 0, none⟩)] w4 fun e w' => ∃ s fb pt, e = .returned (.pointer (some ⟨fb, 0, none⟩)) ∧ s ∈ r.st ∧ w'.heap[fb]? = some (.cells #[.int .i64 (s.pl : Int), .string pt, .int .i64 65] 93 (0, 0)) ∧ G w4 w' := CW.mono fun e w' ⟨g, h⟩ => by
     rcases h with ⟨h, _⟩ | ⟨_, s, hs, fb, pt, h1, h2⟩
     ·exact absurd h heq
     ·exact ⟨s, fb, pt, h1, hs, h2, g⟩
    have HE := hid heq
    clear CW heq
    go_wp2_with (go_at_call 37; refine CW2.mono ?_; rintro e w5 ⟨s, fb, pt, rfl, g1, g2, g3⟩; have HG5 := hid (⟨g1, g2, g3⟩ : _ ∧ _ ∧ _); clear g1 g2 g3 CW2)
    go_ret3
    refine ⟨G.trans HG4.out HG5.out.2.2, .inr ⟨HF.out.1, .inr ?_⟩⟩
    rw [HF.out.2.2.2]
    exact ⟨HD.out.2, .inl ⟨HE.out, s, HG5.out.1, fb, pt, rfl, HG5.out.2.1⟩⟩
  ·obtain ⟨x, hx⟩ : ∃ x, r.flt = some x := Option.isSome_iff_exists.1 hf
   have hfb : w3.heap[bq]? = some (.cells #[.int .i64 x.1, .string ⟨#[]⟩, .int .i64 x.2] 93 (0, 0)) := by
    obtain ⟨fp9, sv9, xs9, h9⟩ := id HK.out.1
    have e9 : w3.cell? ⟨c.X, 3, none⟩ = some fp9 := lies_cell h9.lies 3 _ rfl
    rw [q3] at e9
    injection e9 with e9
    have f9 := h9.fl
    rw [hx, ← e9] at f9
    obtain ⟨b9, e10, _, e11⟩ := f9
    injection e10 with e10
    injection e10 with e10
    injection e10 with e10
    subst e10
    exact e11
   have HX := hid (⟨hx, hfb⟩ : _ ∧ _)
   clear hx hfb hf
   go_upto_region 6 with fail
   refine wp_region_G ?_
   have q3d := (G.drew w3).cell q3
   have HG6 : Hid (G w3 w3.drew) := G.drew w3
   generalize w3.drew = w6 at *
   have HQ3 := hid q3d
   clear q3 q3d
   refine fG 0 31 (.pointer (some ⟨c.X, 0, none⟩)) ?_
   refine gG 1 32 (.pointer (some ⟨c.X, 0, none⟩)) ?_
   refine gG 2 33 (.pointer (some ⟨c.X, 3, none⟩)) ?_
   refine takeG 3 34 (.pointer (some ⟨bq, 0, none⟩)) (fun wz hz => ?_) ?_
   ·have y := hz.cell HQ3.out; go_simp
   refine gG 4 35 (.iface 72 (.pointer (some ⟨bq, 0, none⟩))) ?_
   refine gG 5 4 (.pointer none) ?_
   refine gG 6 5 (.int .i64 0) ?_
   refine gG 7 6 (.iface 72 (.pointer (some ⟨bq, 0, none⟩))) ?_
   refine doneG (by kernel_rfl) (fun w9 hg9 => ?_)
   have HG9 := hid (G.trans HG6.out hg9)
   clear hg9
   go_wp2
   go_ret3
   refine ⟨G.trans HK.out.2.2.1 HG9.out, .inr ⟨HF.out.1, .inl ⟨x, ?_, bq, rfl, (HG9.out.block bq (gS HX.out.2)).trans HX.out.2⟩⟩⟩
   rw [HF.out.2.2.2]
   exact HX.out.1
end Go.Proofs.YtjikkhbcbfpocaaGreatDoor
namespace Go.Proofs.YtjikkhbcbfpocaaGreatDoor
open Go.RowKit Go.Shelf
theorem rd_cons_ok {i n k : Nat} {c : Int} {t : List Int} (h : Wire.rd i (c :: t) = .ok n k) : Wire.bad i c = false ∧ ((c < 128 ∧ n = c.toNat * 128 ^ i ∧ k = i + 1) ∨ (¬ c < 128 ∧ ∃ m, Wire.rd (i + 1) t = .ok m k ∧ n = c.toNat % 128 * 128 ^ i + m)) := by
 simp only [Wire.rd] at h
 by_cases hb : Wire.bad i c = true
 ·simp [hb] at h
 ·simp only [hb, Bool.false_eq_true, if_false] at h
  refine ⟨by simpa using hb, ?_⟩
  by_cases hc : c < 128
  ·simp only [hc, if_true, Wire.Rd.ok.injEq] at h
   exact .inl ⟨hc, h.1.symm, h.2.symm⟩
  ·simp only [hc, if_false] at h
   cases hr : Wire.rd (i + 1) t with
   | ok m j =>
    rw [hr] at h
    simp only [Wire.Rd.plus, Wire.Rd.ok.injEq] at h
    exact .inr ⟨hc, m, by rw [h.2], h.1.symm⟩
   | form j => rw [hr] at h; simp [Wire.Rd.plus] at h
   | short => rw [hr] at h; simp [Wire.Rd.plus] at h
theorem rd_enc_back : ∀ (l : List Int) (i n k : Nat), Wire.Bytes l → Wire.rd i l = .ok n k → ∃ m, n = m * 128 ^ i ∧ Wire.enc m = l.take (k - i) ∧ (0 < i → 0 < m)
 | [], i, n, k, _, h => by simp [Wire.rd] at h
 | c :: t, i, n, k, hB, h => by
  have hc0 := hB c (by simp)
  obtain ⟨hb, ⟨hc, hn, hk⟩ | ⟨hc, m, hr, hn⟩⟩ := rd_cons_ok h
  ·refine ⟨c.toNat, hn, ?_, fun hi => ?_⟩
   ·rw [Wire.enc_lt (by omega), hk, show i + 1 - i = 1 by omega]
    simp; omega
   ·simp [Wire.bad] at hb; omega
  ·obtain ⟨m', hm, he, hp⟩ := rd_enc_back t (i + 1) m k (fun x hx => hB x (by simp [hx])) hr
   have hp' := hp (by omega)
   have hle := (Wire.rd_le t (i + 1) m k hr).1
   refine ⟨c.toNat % 128 + 128 * m', ?_, ?_, fun _ => by omega⟩
   ·rw [hn, hm, Nat.pow_succ, Nat.add_mul, Nat.mul_comm 128 m', Nat.mul_assoc m' 128, Nat.mul_comm 128 (128 ^ i)]
   ·rw [Wire.enc_ge (by omega), show (c.toNat % 128 + 128 * m') / 128 = m' by omega, he, show k - i = (k - (i + 1)) + 1 by omega, List.take_succ_cons]
    congr 1
    omega
theorem form_enc {l : List Int} {n k : Nat} (hB : Wire.Bytes l) (h : Wire.rd 0 l = .ok n k) : Wire.enc n = l.take k := by
 obtain ⟨m, hm, he, _⟩ := rd_enc_back l 0 n k hB h
 simp at hm he
 rw [hm]; exact he
structure Stands (l : List Int) (r : Rv) (X : List Nat) (r' : Rv) : Prop where
 fe : r.s.fe = 0
 fl : r.flt = none
 drop : l.drop r.s.p = up X ++ l.drop (r.s.p + X.length)
 eq : r' = { r with s := ⟨r.s.p + X.length, r.s.fa, r.s.fe⟩ }
theorem Stands.refl {l : List Int} {r : Rv} (h1 : r.s.fe = 0) (h2 : r.flt = none) : Stands l r [] r := ⟨h1, h2, rfl, rfl⟩
theorem Stands.trans {l : List Int} {a b c : Rv} {X Y : List Nat} (h : Stands l a X b) (k : Stands l b Y c) : Stands l a (X ++ Y) c := by
 have e := h.eq
 subst e
 have k2 := k.drop
 simp only at k2
 refine ⟨h.fe, h.fl, ?_, ?_⟩
 ·rw [h.drop, k2, up_append, List.append_assoc, lA, Nat.add_assoc]
 ·rw [k.eq]
  simp only [lA, Nat.add_assoc]
theorem up_enc_take {l : List Int} (hB : Wire.Bytes l) {p n k : Nat} (h : Wire.rd 0 (l.drop p) = .ok n k) : l.drop p = up (encN n) ++ l.drop (p + (encN n).length) ∧ (encN n).length = k := by
 have h1 := form_enc (hB.drop p) h
 have hk := (Wire.rd_le _ _ _ _ h).2
 have hl : (encN n).length = k := by rw [encN_len, h1, List.length_take]; omega
 refine ⟨?_, hl⟩
 rw [up_encN, h1, hl, ← List.drop_drop, List.take_append_drop]
theorem num_none {l : List Int} (hB : Wire.Bytes l) {least : Int} {most : Nat} {r : Rv} (h : (numR l least most r).2.flt = none) : least ≤ ((numR l least most r).1 : Int) ∧ (numR l least most r).1 ≤ most ∧ Stands l r (encN (numR l least most r).1) (numR l least most r).2 := by
 unfold numR at h ⊢
 simp only at h ⊢
 obtain ⟨h1, h2, h3, h4⟩ := must_none h
 simp only at h1 h2 h3 h4
 have h2 := of_decide_eq_true h2
 have hfe : r.s.fe = 0 := by
  unfold Wi.uintS at h1
  split at h1
  ·exact h1
  ·rename_i q; exact Classical.byContradiction q
 cases hr : Wire.rd 0 (l.drop r.s.p) with
 | ok n k =>
  have hu : Wi.uintS l r.s most = if n ≤ most then (n, ⟨r.s.p + k, r.s.fa, r.s.fe⟩) else (0, ⟨r.s.p, r.s.p, 12⟩) := by
   unfold Wi.uintS
   rw [if_neg (by omega), hr]
  by_cases hm : n ≤ most
  ·rw [if_pos hm] at hu
   obtain ⟨e1, e2⟩ := up_enc_take hB hr
   rw [hu] at h2
   rw [h4, hu]
   refine ⟨h2, hm, hfe, h3, e1, ?_⟩
   rw [e2]
  ·rw [if_neg hm] at hu
   rw [hu] at h1
   simp at h1
 | form i =>
  have hu : Wi.uintS l r.s most = (0, ⟨r.s.p, (r.s.p + i : Nat), 11⟩) := by
   unfold Wi.uintS
   rw [if_neg (by omega), hr]
  rw [hu] at h1; simp at h1
 | short =>
  have hu : Wi.uintS l r.s most = (0, ⟨r.s.p, l.length, 10⟩) := by
   unfold Wi.uintS
   rw [if_neg (by omega), hr]
  rw [hu] at h1; simp at h1
theorem up_b32 {t : List Int} (hB : Wire.Bytes t) (h : t.length = 32) : up (b32 t) = t ∧ Su.Bytes (b32 t) := by
 unfold b32
 rw [if_pos h]
 constructor
 ·unfold up
  rw [List.map_map]
  clear h
  induction t with
  | nil => rfl
  | cons a t ih =>
   rw [List.map_cons, ih fun x hx => hB x (by simp [hx])]
   simp only [Function.comp]
   rw [show Int.ofNat a.toNat = a from Int.toNat_of_nonneg (hB a (by simp)).1]
 ·intro x hx
  obtain ⟨y, hy, rfl⟩ := List.mem_map.1 hx
  have := hB y hy
  omega
theorem sum_none {l : List Int} (hB : Wire.Bytes l) {r : Rv} (h : (sumR l r).2.flt = none) : Su.Bytes (sumR l r).1 ∧ Stands l r (sumR l r).1 (sumR l r).2 := by
 unfold sumR at h ⊢
 simp only at h ⊢
 obtain ⟨h1, _, h3, h4⟩ := must_none h
 simp only at h1 h3 h4
 have hfe : r.s.fe = 0 := by
  unfold Wi.rawS at h1
  split at h1
  ·exact h1
  ·rename_i q; exact Classical.byContradiction q
 have e32 : (32 : Int).toNat = 32 := rfl
 have hl : ¬ l.length < r.s.p + 32 := fun q => by
  unfold Wi.rawS at h1
  rw [e32, if_neg (by omega), if_pos q] at h1
  simp at h1
 have hraw : Wi.rawB l r.s 32 = (l.drop r.s.p).take 32 := by
  unfold Wi.rawB
  rw [e32, if_neg (by omega), if_neg hl]
 have hrs : Wi.rawS l r.s 32 = ⟨r.s.p + 32, r.s.fa, r.s.fe⟩ := by
  unfold Wi.rawS
  rw [e32, if_neg (by omega), if_neg hl]
 have h32 : ((l.drop r.s.p).take 32).length = 32 := by rw [List.length_take, List.length_drop]; omega
 obtain ⟨e1, e2⟩ := up_b32 ((hB.drop r.s.p).take 32) h32
 rw [h4, hraw, hrs]
 refine ⟨e2, hfe, h3, ?_, by rw [b32_len]⟩
 rw [b32_len, e1, ← List.drop_drop, List.take_append_drop]
theorem byte_none {l : List Int} {ok : Int → Bool} {r : Rv} (h : (mustR r.s.p (ok (Wi.byteS l r.s).1) { r with s := (Wi.byteS l r.s).2 }).flt = none) (hB : Wire.Bytes l) : ok (Wi.byteS l r.s).1 = true ∧ (0 ≤ (Wi.byteS l r.s).1 ∧ (Wi.byteS l r.s).1 < 256) ∧ Stands l r [(Wi.byteS l r.s).1.toNat] (mustR r.s.p (ok (Wi.byteS l r.s).1) { r with s := (Wi.byteS l r.s).2 }) := by
 obtain ⟨h1, h2, h3, h4⟩ := must_none h
 simp only at h1 h3
 have hfe : r.s.fe = 0 := by
  unfold Wi.byteS at h1
  split at h1
  ·exact h1
  ·rename_i q; exact Classical.byContradiction q
 have hq : r.s.p < l.length := by
  unfold Wi.byteS at h1
  rw [if_neg (by omega)] at h1
  split at h1
  ·assumption
  ·simp at h1
 have hb : Wi.byteS l r.s = (l[r.s.p]?.getD 0, ⟨r.s.p + 1, r.s.fa, r.s.fe⟩) := by unfold Wi.byteS; rw [if_neg (by omega), if_pos hq]
 have hbb := byteS_byte hB r.s
 refine ⟨h2, hbb, hfe, h3, ?_, by rw [h4, hb]; rfl⟩
 rw [hb]
 simp only [lC, lN]
 rw [List.drop_eq_getElem_cons hq, List.getElem?_eq_getElem hq]
 simp only [Option.getD_some, up, List.map_cons, List.map_nil, List.cons_append, List.nil_append]
 rw [hb, List.getElem?_eq_getElem hq] at hbb
 simp only [Option.getD_some] at hbb
 rw [show Int.ofNat (l[r.s.p]).toNat = l[r.s.p] from Int.toNat_of_nonneg hbb.1]
theorem mod_none {l : List Int} (hB : Wire.Bytes l) {ver : Int} {r : Rv} (h0 : r.s.fe = 0) (h : (modR l ver r).2.flt = none) : (0 ≤ (modR l ver r).1 ∧ (modR l ver r).1 ≤ 8) ∧ (ver < 2 → (modR l ver r).1 = 8) ∧ Stands l r (if 2 ≤ ver then [(modR l ver r).1.toNat] else []) (modR l ver r).2 := by
 unfold modR at h ⊢
 by_cases hv : ver < 2
 ·rw [if_pos hv] at h ⊢
  rw [if_neg (by omega)]
  exact ⟨⟨by show (0 : Int) ≤ 8; omega, by show (8 : Int) ≤ 8; omega⟩, fun _ => rfl, Stands.refl h0 h⟩
 ·rw [if_neg hv] at h ⊢
  rw [if_pos (by omega)]
  obtain ⟨e1, e2, e3⟩ := byte_none (ok := fun x => decide (x ≤ 8)) h hB
  exact ⟨⟨e2.1, of_decide_eq_true e1⟩, fun q => absurd q hv, e3⟩
theorem Stands.st {l : List Int} {r r' : Rv} {X : List Nat} (h : Stands l r X r') : r'.left = r.left ∧ r'.st = r.st ∧ r'.flt = none ∧ r'.s.fe = 0 ∧ r'.s.p = r.s.p + X.length ∧ r'.s.fa = r.s.fa := by
 rw [h.eq]
 exact ⟨rfl, rfl, h.fl, h.fe, rfl, rfl⟩
theorem mark_none {l : List Int} (hB : Wire.Bytes l) {r : Rv} (h : (markR l r).2.flt = none) : rightMB (markR l r).1.1 (markR l r).1.2 = true ∧ Stands l r (encN (markR l r).1.1 ++ encN (markR l r).1.2) (markR l r).2 := by
 unfold markR at h ⊢
 split
 ·rename_i h0
  rw [if_pos h0] at h
  obtain ⟨a1, a2, a3⟩ := num_none hB h
  obtain ⟨b1, b2, b3⟩ := num_none hB (a3.fl)
  rw [h0] at b3
  refine ⟨?_, b3.trans a3⟩
  unfold rightMB
  simp only
  exact decide_eq_true (.inl ⟨rfl, by omega⟩)
 ·rename_i h0
  rw [if_neg h0] at h
  obtain ⟨a1, a2, a3⟩ := num_none hB h
  obtain ⟨b1, b2, b3⟩ := num_none hB (a3.fl)
  refine ⟨?_, b3.trans a3⟩
  unfold rightMB
  simp only
  unfold mStamp at a2 b2 a1 h0 ⊢
  exact decide_eq_true (.inr ⟨⟨by omega, by omega⟩, by omega, by omega⟩)
theorem marks_none {l : List Int} (hB : Wire.Bytes l) {ver : Int} {r : Rv} (h0 : r.s.fe = 0) (h : (marksR l ver r).2.flt = none) : rightMB (marksR l ver r).1.n0 (marksR l ver r).1.s0 = true ∧ rightMB (marksR l ver r).1.n1 (marksR l ver r).1.s1 = true ∧ (ver < 3 → (marksR l ver r).1 = Md.zero) ∧ Stands l r (marB ver (marksR l ver r).1) (marksR l ver r).2 := by
 unfold marksR at h ⊢
 unfold marB
 by_cases hv : ver < 3
 ·rw [if_pos hv] at h ⊢
  rw [if_pos hv]
  exact ⟨rfl, rfl, fun _ => rfl, Stands.refl h0 h⟩
 ·rw [if_neg hv] at h ⊢
  rw [if_neg hv]
  obtain ⟨a1, a2⟩ := mark_none hB h
  obtain ⟨b1, b2⟩ := mark_none hB a2.fl
  refine ⟨b1, a1, fun q => absurd q hv, ?_⟩
  have := b2.trans a2
  simp only [mkB, mN, mS, List.nil_append, if_true]
  rw [if_neg (by decide), if_neg (by decide)]
  exact this
theorem con_none {l : List Int} (hB : Wire.Bytes l) {least : Int} {most : Nat} {r : Rv} (h : (conR l least most r).2.flt = none) : least ≤ ((conR l least most r).1.1 : Int) ∧ (conR l least most r).1.1 ≤ most ∧ Su.Bytes (conR l least most r).1.2 ∧ Stands l r (encN (conR l least most r).1.1 ++ (conR l least most r).1.2) (conR l least most r).2 := by
 unfold conR at h ⊢
 simp only at h ⊢
 obtain ⟨a1, a2⟩ := sum_none hB h
 obtain ⟨b1, b2, b3⟩ := num_none hB a2.fl
 exact ⟨b1, b2, a1, b3.trans a2⟩
end Go.Proofs.YtjikkhbcbfpocaaGreatDoor
