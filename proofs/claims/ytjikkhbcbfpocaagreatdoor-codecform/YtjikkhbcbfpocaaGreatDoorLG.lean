import Derived.Test.YtjikkhbcbfpocaaGreatDoorLB
import Derived.Test.YtjikkhbcbfpocaaGreatDoorCards
import Derived.Test.YtjikkhbcbfpocaaGreatDoorTie
import Derived.ProofKit
import Derived.OpenShut
import Derived.ShutString
import Derived.ChangeOld
import Derived.Deep.DeepHandedRow
import Derived.LaidHandle
import Derived.LaidLaws
import Derived.MakeChecks
import Derived.Lib.LaidTab
set_option maxRecDepth 100000
set_option maxHeartbeats 4000000
namespace Go.Proofs.YtjikkhbcbfpocaaGreatDoor
open Go.RowKit Go.Shelf
attribute [local go_sem] Oper.semAt_some
def knX : Array Value := (vx kv7).toArray
def knC : Array Value := nc ⟨#[]⟩ kv7 Md.zero (.slice none 0 0)
theorem exec_k24 {o : Oper} {a : Act} (ho : o.op = .build 24 #[(0, .const (.int .i64 1)), (1, .const (.int .i64 7))]) (w : World) : (execOp a.eval o).run Tryz.prog w = .ok (.value (.agg knX)) w := by
 unfold execOp
 simp only [ho]
 kernel_rfl
theorem exec_k30 {o : Oper} {a : Act} (x : Operand) (ho : o.op = .build 30 #[(1, x)]) (hx : a.eval x = .agg knX) (w : World) : (execOp a.eval o).run Tryz.prog w = .ok (.value (.agg knC)) w := by
 unfold execOp
 simp only [ho, List.map_toArray, List.map_cons, List.map_nil, hx]
 kernel_rfl
def kLit : List Nat := [116, 119, 110, 101, 3, 1, 1, 7, 0]
def kRow : Array Value := #[.int .u8 116, .int .u8 119, .int .u8 110, .int .u8 101, .int .u8 3, .int .u8 1, .int .u8 1, .int .u8 7, .int .u8 0]
theorem hasS_nil (w : World) : HasS w (.slice none 0 0) .nil := ⟨none, 0, rfl, Nat.le_refl _, .inl rfl⟩
theorem k_lit (W : World) : Su.Has (W.alloc (.cells kRow 5)) (.slice (some ⟨W.heap.size, 0, none⟩) 9 9) kLit := by
 refine .inr ⟨⟨W.heap.size, 0, none⟩, 9, rfl, Nat.le_refl _, fun i hi => ?_⟩
 have hi : i < 9 := hi
 have e : (⟨W.heap.size, 0, none⟩ : Addr).add i = ⟨W.heap.size, i, none⟩ := by
  simp [Addr.add]
  exact fun h => h.symm
 rw [e, World.cell?_alloc_new]
 match i, hi with
 | 0, _ | 1, _ | 2, _ | 3, _ | 4, _ | 5, _ | 6, _ | 7, _ | 8, _ => rfl
theorem k_same (a : Addr) (cap : Nat) (W : World) (h : Su.Has W (.slice (some a) 9 cap) kLit) : Calls Tryz.prog 20 #[.slice (some a) 9 cap, .slice (some ⟨W.heap.size, 0, none⟩) 9 9] (W.alloc (.cells kRow 5)) fun e w' => e = .returned (.bool true) ∧ G W w' := by
 have hg : G W (W.alloc (.cells kRow 5)) := G.alloc _ _
 refine (same_bytes _ _ kLit kLit _ (h.below hg) (k_lit W) (by decide) (by decide)).mono ?_
 rintro e w' ⟨q1, n, rfl⟩
 exact ⟨by rw [q1, decide_eq_true rfl], below_drewN hg n⟩
theorem known_any (w : World) (hTb : Su.Tabs w) (hTh : Su.Half w) (hE : ErrT w) (h1 : 1 < w.heap.size) : Calls Tryz.prog 9 #[] w fun e w' => e = .returned (.bool true) ∧ G w w' := by
 have C1 : Hid (Calls Tryz.prog 29 #[.agg knC] w fun e w' => ∃ p k, e = .returned (.tuple #[.pointer (some ⟨p, 0, none⟩), .int .i64 0]) ∧ G w w' ∧ AtT w' p kv7 Md.zero k ∧ k.flat = .nil) :=
  (of_anyP knC ⟨#[]⟩ kv7 Md.zero .nil w ⟨_, rfl, hasS_nil w⟩ (by decide)).mono fun e w' ⟨u, q1, q2, q3⟩ => by
   rw [kA_check] at q1 q3
   rcases q3 with ⟨q, _⟩ | ⟨_, p, k, rfl, h3, h4, _⟩
   ·exact absurd rfl q
   ·exact ⟨p, k, q1, q2, h3, h4⟩
 have HC2 : Hid (∀ (p : Nat) (k : K) (W : World), G w W → AtT W p kv7 Md.zero k → k.flat = .nil → Calls Tryz.prog 11 #[.pointer (some ⟨p, 0, none⟩), .int .i64 3, .int .i64 9] W fun e w' => ∃ a cap, e = .returned (.tuple #[.slice (some a) 45 cap, .int .i64 0]) ∧ G W w' ∧ Su.Has w' (.slice (some a) 45 cap) kA ∧ 45 ≤ cap) :=
  fun p k W hg h2 h3 => k_encode p k W h2 h3 (hTb.up hg) (hTh.below hg (by omega))
 have HC3 : Hid (∀ (v : Value) (W : World), G w W → Su.Has W v kA → Calls Tryz.prog 13 #[v, .int .i64 9] W fun e w' => ∃ p k, e = .returned (.tuple #[.pointer (some ⟨p, 0, none⟩), .int .i64 3, .nilIface]) ∧ G W w' ∧ AtT w' p kv7 Md.zero k ∧ k.flat = .nil) :=
  fun v W hg h2 => k_decode v W h2 (hTb.up hg) (hTh.below hg (by omega)) (hE.up hg) (by have := hg.size; omega)
 have HC4 : Hid (∀ (W : World), G w W → Calls Tryz.prog 13 #[.slice none 0 0, .int .i64 9] W fun e w' => ∃ fb, e = .returned (.tuple #[.pointer none, .int .i64 0, .iface 72 (.pointer (some ⟨fb, 0, none⟩))]) ∧ G W w' ∧ w'.heap[fb]? = some (.cells (fc 0 ⟨#[]⟩ 60) 93 (0, 0))) :=
  fun W hg => k_empty W (hTb.up hg) (hTh.below hg (by omega)) (hE.up hg) (by have := hg.size; omega)
 have HTo : Hid (∀ (fb : Nat) (W : World), W.heap[fb]? = some (.cells (fc 0 ⟨#[]⟩ 60) 93 (0, 0)) → Calls Tryz.prog 17 #[.iface 72 (.pointer (some ⟨fb, 0, none⟩))] W fun x w' => x = .returned (.tuple #[.agg #[.int .i64 0, .string ⟨#[]⟩, .int .i64 60], .bool true]) ∧ G W w') :=
  fun fb W h => told_some fb 0 60 ⟨#[]⟩ W h (by decide)
 clear hTb hTh hE h1
 go_enter Tryz.func9, Tryz.ntmps9
 go_upto_region 5 with (first
  | ((with_reducible refine wpList_exec (.agg knX) ?_ ?_ ?_); exact exec_k24 rfl _; kernel_rfl)
  | ((with_reducible refine wpList_exec (.agg knC) ?_ ?_ ?_); exact exec_k30 _ rfl rfl _; kernel_rfl)
  | (go_at_call 29; refine C1.out.mono ?_; rintro e w1 ⟨p, k, rfl, hg1, hT1, hk1⟩; have HT1 := hid (⟨hg1, hT1, hk1⟩ : _ ∧ _ ∧ _); clear hg1 hT1 hk1)
  | (go_at_call 11; refine (HC2.out p k _ HT1.out.1 HT1.out.2.1 HT1.out.2.2).mono ?_; rintro e w2 ⟨a, cap, rfl, hg2, hh2, hc2⟩; have HT2 := hid (⟨G.trans HT1.out.1 hg2, hh2, hc2, hg2⟩ : _ ∧ _ ∧ _ ∧ _); clear hg2 hh2))
 have HR : Hid (Su.Has w2 (.slice (some a) 9 cap) kLit) := has_take9 HT2.out.2.1 hc2
 go_upto_region 8 with (first
  | (go_at_call 20; refine (k_same a cap w2 HR.out).mono ?_; rintro e w3 ⟨rfl, hg3⟩; have HT3 := hid (⟨G.trans HT2.out.1 hg3, HT2.out.2.1.below hg3, G.trans HT2.out.2.2.2 hg3⟩ : _ ∧ _ ∧ _); clear hg3)
  | (go_at_call 13; refine (HC3.out _ _ HT3.out.1 HT3.out.2.1).mono ?_; rintro e w4 ⟨p4, k4, rfl, hg4, hT4, hk4⟩; have HT4 := hid (⟨G.trans HT3.out.1 hg4, hT4, hk4, G.trans HT3.out.2.2 hg4⟩ : _ ∧ _ ∧ _ ∧ _); clear hg4 hT4 hk4))
 go_upto_region 12 with (first
  | (go_at_call 19; refine (value_any p4 kv7 Md.zero k4 w4 HT4.out.2.1).mono ?_; rintro e w5 ⟨rfl, hg5⟩; have HT5 := hid (⟨hg5, G.trans HT4.out.1 hg5, G.trans HT4.out.2.2.2 hg5⟩ : _ ∧ _ ∧ _); clear hg5)
  | (go_at_call 19; refine (value_any p kv7 Md.zero k w5 (HT1.out.2.1.grow HT5.out.2.2)).mono ?_; rintro e w6 ⟨rfl, hg6⟩; have HT6 := hid (⟨G.trans HT5.out.1 hg6, G.trans HT5.out.2.1 hg6⟩ : _ ∧ _); clear hg6)
  | ((with_reducible refine wpList_exec (.bool false) ?_ ?_ ?_); exact exec_neq24 _ _ kv7 kv7 rfl rfl rfl _; kernel_rfl)
  | (go_at_call 18; refine (count_any p4 kv7 Md.zero k4 w6 (HT4.out.2.1.grow HT6.out.1) (by rw [HT4.out.2.2.1]; decide)).mono ?_; rintro e w7 ⟨he, hw7⟩; rw [HT4.out.2.2.1] at he; subst he; subst hw7)
  | (go_at_call 13; refine (HC4.out _ HT6.out.2).mono ?_; rintro e w8 ⟨fb, rfl, hg8, hf8⟩; have HT8 := hid (⟨G.trans HT6.out.2 hg8, hf8⟩ : _ ∧ _); clear hg8 hf8)
  | (go_at_call 17; refine (HTo.out fb w8 HT8.out.2).mono ?_; rintro e w9 ⟨rfl, hg9⟩; have HT9 := hid (G.trans HT8.out.1 hg9); clear hg9))
 go_wp2
 go_ret
 exact ⟨rfl, G.trans HT9.out (G.alloc _ _)⟩
theorem form_long (ao : Option Addr) (n cap : Nat) (most : Int) (w : World) (hn : 65536 < n) (hm : n ≤ 9223372036854775807) : Calls Tryz.prog 4 #[.slice ao n cap, .int .i64 most] w fun e w' => e = .returned (.bool true) ∧ G w w' := by
 have h1 : decide ((n : Int) > 65536) = true := by simp; omega
 go_enter Tryz.func4, Tryz.ntmps4
 go_wp2
 go_ret
 exact ⟨rfl, G.refl _⟩
structure FltOk (n : Nat) (p : Int) (s : ByteArray) (e : Int) : Prop where
 he : 60 ≤ e ∧ e ≤ 65
 hp : 0 ≤ p ∧ p ≤ max (n : Int) 5
 hs : s = ⟨#[]⟩ ∨ e = 65
theorem form_flt (ao : Option Addr) (n cap : Nat) (most : Int) (w : World) (hn : n ≤ 65536)
  (CK : Hid (Calls Tryz.prog 9 #[] w fun e w' => e = .returned (.bool true) ∧ G w w'))
  (CD : Hid (∀ W, G w W → Calls Tryz.prog 13 #[.slice ao n cap, .int .i64 most] W fun e w' => ∃ fb p s x, e = .returned (.tuple #[.pointer none, .int .i64 0, .iface 72 (.pointer (some ⟨fb, 0, none⟩))]) ∧ w'.heap[fb]? = some (.cells (fc p s x) 93 (0, 0)) ∧ FltOk n p s x ∧ G w w')) :
  Calls Tryz.prog 4 #[.slice ao n cap, .int .i64 most] w fun e w' => e = .returned (.bool true) ∧ G w w' := by
 have h1 : decide ((n : Int) > 65536) = false := by simp; omega
 have HTo : Hid (∀ (fb : Nat) (p e : Int) (s : ByteArray) (W : World), W.heap[fb]? = some (.cells (fc p s e) 93 (0, 0)) → e ≠ 0 → Calls Tryz.prog 17 #[.iface 72 (.pointer (some ⟨fb, 0, none⟩))] W fun x w' => x = .returned (.tuple #[.agg #[.int .i64 p, .string s, .int .i64 e], .bool true]) ∧ G W w') :=
  fun fb p e s W h he => told_some fb p e s W h he
 go_enter Tryz.func4, Tryz.ntmps4
 go_upto_region 6 with (first
  | (go_at_call 9; refine CK.out.mono ?_; rintro e w1 ⟨rfl, hg1⟩)
  | (go_at_call 13; refine (CD.out _ hg1).mono ?_; rintro e w2 ⟨fb, p, s, x, rfl, hf, hx, hg2⟩))
 have hx0 : (x != 0) = true := by have := hx.he; simp; omega
 have hx60 : decide (x ≥ 60) = true := by have := hx.he; simp; omega
 have hx65 : decide (x ≤ 65) = true := by have := hx.he; simp; omega
 have hp0 : decide (p ≥ 0) = true := by have := hx.hp; simp; omega
 obtain ⟨mx5, hmx⟩ : ∃ mx5 : Int, max (n : Int) 5 = mx5 := ⟨_, rfl⟩
 have hp5 : decide (p ≤ mx5) = true := by have := hx.hp; rw [hmx] at this; simp; omega
 have hne : x ≠ 0 := by have := hx.he; omega
 have HF := hid hf
 clear hf
 by_cases hs : s = ⟨#[]⟩
 ·subst hs
  clear hx
  go_wp2_with (go_at_call 17; refine (HTo.out fb p x _ _ HF.out hne).mono ?_; rintro e w3 ⟨rfl, hg3⟩)
  go_ret
  exact ⟨rfl, G.trans hg2 (G.trans hg3 (G.alloc _ _))⟩
 ·have hx5 : x = 65 := by
   rcases hx.hs with q | q
   ·exact absurd q hs
   ·exact q
  subst hx5
  clear hx hs hx0 hx60 hx65
  go_wp2_with (go_at_call 17; refine (HTo.out fb p 65 _ _ HF.out hne).mono ?_; rintro e w3 ⟨rfl, hg3⟩)
  all_goals (go_ret; exact ⟨rfl, G.trans hg2 (G.trans hg3 (G.alloc _ _))⟩)
theorem exec_vkind {o : Oper} {a : Act} (x : Operand) (ho : o.op = .field 24 x 0) (v : Vd) (hx : a.eval x = .agg (vx v).toArray) (hk : v.kind = 1) (w : World) : (execOp a.eval o).run Tryz.prog w = .ok (.value (.int .i64 1)) w := by
 unfold execOp
 simp only [ho, hx]
 simp only [Sem.run_bind, field24 v w, hk, Result.andThen_ok, Sem.run_pure]
theorem form_tree (ao : Option Addr) (n cap : Nat) (most : Int) (w : World) (b : List Nat) (ver : Int) (hver : 1 ≤ ver ∧ ver ≤ 3) (v : Vd) (m : Md) (ks : F) (hk : v.kind = 1) (hn : n ≤ 65536) (hsz : ks.size ≤ 40000) (hcnt : ((1 + ks.size : Nat) : Int) ≤ min (max most 1) 1048576) (hb : Su.Has w (.slice ao n cap) b) (hbl : b.length ≤ 65536)
  (CK : Hid (Calls Tryz.prog 9 #[] w fun e w' => e = .returned (.bool true) ∧ G w w'))
  (CD : Hid (∀ W, G w W → Calls Tryz.prog 13 #[.slice ao n cap, .int .i64 most] W fun e w' => ∃ p k, e = .returned (.tuple #[.pointer (some ⟨p, 0, none⟩), .int .i64 ver, .nilIface]) ∧ G w w' ∧ AtT w' p v m k ∧ k.flat = ks))
  (CE : Hid (∀ W p k, G w W → AtT W p v m k → k.flat = ks → Calls Tryz.prog 11 #[.pointer (some ⟨p, 0, none⟩), .int .i64 ver, .int .i64 most] W fun e w' => ∃ u, e = .returned (.tuple #[u, .int .i64 0]) ∧ Su.Has w' u b ∧ G w w')) :
  Calls Tryz.prog 4 #[.slice ao n cap, .int .i64 most] w fun e w' => e = .returned (.bool true) ∧ G w w' := by
 have h1 : decide ((n : Int) > 65536) = false := by simp; omega
 have hv1 : decide (ver < 1) = false := by simp; omega
 have hv3 : decide (ver > 3) = false := by simp; omega
 have HTo : Hid (∀ (W : World), Calls Tryz.prog 17 #[.nilIface] W fun x w' => x = .returned (.tuple #[.agg #[.int .i64 0, .string ⟨#[]⟩, .int .i64 0], .bool true]) ∧ G W w') := fun W => told_nil W
 have HB := hid hb
 have HN := hid (⟨hcnt, hsz, hbl⟩ : _ ∧ _ ∧ _)
 clear hb hcnt hsz hbl hver
 go_enter Tryz.func4, Tryz.ntmps4
 go_upto_region 7 with (first
  | (go_at_call 9; refine CK.out.mono ?_; rintro e w1 ⟨rfl, hg1⟩)
  | (go_at_call 13; refine (CD.out _ hg1).mono ?_; rintro e w2 ⟨p, k, rfl, hg2, hT, hkf⟩; have HT := hid (⟨hg2, hT, hkf⟩ : _ ∧ _ ∧ _); clear hg2 hT hkf)
  | (go_at_call 17; refine (HTo.out _).mono ?_; rintro e w3 ⟨rfl, hg3⟩; have HG3 := hid hg3; clear hg3))
 have HG4 : Hid (G w2 (w3.alloc (.cells #[.int .i64 0, .string ⟨#[]⟩, .int .i64 0] 49))) := G.trans HG3.out (G.alloc _ _)
 have HC : Hid (∀ W, G w2 W → Calls Tryz.prog 18 #[.pointer (some ⟨p, 0, none⟩)] W fun e w' => e = .returned (.int .i64 ((1 + ks.size : Nat) : Int)) ∧ w' = W) := fun W hg => by
  have := count_any p v m k W (HT.out.2.1.grow hg) (by rw [HT.out.2.2]; have := HN.out.2.1; omega)
  rw [HT.out.2.2] at this
  exact this
 obtain ⟨cn, hcn⟩ : ∃ cn : Int, ((1 + ks.size : Nat) : Int) = cn := ⟨_, rfl⟩
 obtain ⟨mn, hmn⟩ : ∃ mn : Int, min (max most 1) 1048576 = mn := ⟨_, rfl⟩
 have hcm : decide (cn > mn) = false := by have := HN.out.1; rw [hcn, hmn] at this; simp; omega
 rw [hcn] at HC
 go_upto_region 11 with (first
  | (go_at_call 18; refine (HC.out _ HG4.out).mono ?_; rintro e w5 ⟨rfl, rfl⟩)
  | (go_at_call 19; refine (value_any p v m k _ (HT.out.2.1.grow HG4.out)).mono ?_; rintro e w6 ⟨rfl, hg6⟩; have HG6 := hid (G.trans HG4.out hg6); clear hg6)
  | ((with_reducible refine wpList_exec (.int .i64 1) ?_ ?_ ?_); exact exec_vkind _ rfl v rfl hk _; kernel_rfl))
 go_wp2_with (first
  | (go_at_call 11; refine (CE.out _ p k (G.trans HT.out.1 HG6.out) (HT.out.2.1.grow HG6.out) HT.out.2.2).mono ?_; rintro e w7 ⟨u, rfl, hu, hg7⟩; have HU := hid (⟨hu, HB.out.below hg7, hg7⟩ : _ ∧ _ ∧ _); clear hu hg7)
  | (go_at_call 20; refine (same_bytes _ _ b b _ HU.out.1 HU.out.2.1 (by have := HN.out.2.2; omega) (by have := HN.out.2.2; omega)).mono ?_; rintro e w8 ⟨he, nn, hw8⟩; rw [decide_eq_true rfl] at he; subst he; subst hw8))
 go_ret
 exact ⟨rfl, below_drewN HU.out.2.2 nn⟩
theorem form_any (vb : Value) (b : List Nat) (most : Int) (w : World) (hb : Su.Has w vb b) (hB : Su.Bytes b) (hlen : b.length ≤ 9223372036854775807) (hTb : Su.Tabs w) (hTh : Su.Half w) (hE : ErrT w) (h1 : 1 < w.heap.size) :
  Calls Tryz.prog 4 #[vb, .int .i64 most] w fun e w' => e = .returned (.bool true) ∧ G w w' := by
 obtain ⟨ao, cap, rfl, _⟩ := hb.form
 by_cases hl : b.length ≤ 65536
 case neg => exact form_long ao b.length cap most w (by omega) hlen
 have CK := hid (known_any w hTb hTh hE h1)
 have CD : ∀ W, G w W → Calls Tryz.prog 13 #[.slice ao b.length cap, .int .i64 most] W fun e w' => G W w' ∧ DecP b most e w' := fun W hg =>
  decode_any _ b most W (hb.below hg) hB (hTh.below hg (by omega)) (hTb.up hg) (hE.up hg) (by have := hg.size; omega) (by omega) (fun _ => .inr (by omega)) fun a c => (took hB hl a c).ok
 have flt : (∀ W e w', G w W → DecP b most e w' → ∃ fb p s x, e = .returned (.tuple #[.pointer none, .int .i64 0, .iface 72 (.pointer (some ⟨fb, 0, none⟩))]) ∧ w'.heap[fb]? = some (.cells (fc p s x) 93 (0, 0)) ∧ FltOk b.length p s x) → Calls Tryz.prog 4 #[.slice ao b.length cap, .int .i64 most] w fun e w' => e = .returned (.bool true) ∧ G w w' :=
  fun h => form_flt ao b.length cap most w hl CK fun W hg => (CD W hg).mono fun e w' ⟨g, q⟩ => by
   obtain ⟨fb, p, s, x, q1, q2, q3⟩ := h W e w' hg q
   exact ⟨fb, p, s, x, q1, q2, q3, G.trans hg g⟩
 cases hF : opF b with
 | some x =>
  obtain ⟨p1, p2⟩ := open_places hB hF
  refine flt fun W e w' _ q => ?_
  rcases q with ⟨x', q1, fb, q2, q3⟩ | ⟨q, _⟩
  ·rw [hF] at q1
   cases q1
   exact ⟨fb, x.1, ⟨#[]⟩, x.2, q2, q3, ⟨by omega, by omega, .inl rfl⟩⟩
  ·rw [hF] at q; cases q
 | none =>
  obtain ⟨p1, p2⟩ := dec_places (most := most) hB hF
  cases hf : (decN b most).2.flt with
  | some x =>
   have p1 := p1 x hf
   refine flt fun W e w' _ q => ?_
   rcases q with ⟨x', q1, _⟩ | ⟨_, ⟨x', q1, fb, q2, q3⟩ | ⟨q1, _⟩⟩
   ·rw [hF] at q1; cases q1
   ·rw [hf] at q1
    cases q1
    exact ⟨fb, x.1, ⟨#[]⟩, x.2, q2, q3, ⟨by omega, by omega, .inl rfl⟩⟩
   ·rw [hf] at q1; cases q1
  | none =>
   have T := took hB hl hF hf
   by_cases hh : (decN b most).2.st.map (·.hash) = dirT (decN b most).1.v (decN b most).1.ks
   ·have hcnt := T.cnt
    have hbi := bnd_int most
    refine form_tree ao b.length cap most w b (opU b).1 ⟨by have := T.ver; omega, by have := T.ver; omega⟩ (decN b most).1.v (decN b most).1.m (decN b most).1.ks T.kind hl T.sz (by rw [← hbi]; omega) hb hl CK (fun W hg => (CD W hg).mono fun e w' ⟨g, q⟩ => ?_) fun W p k hg hA hk => ?_
    ·rcases q with ⟨x', q1, _⟩ | ⟨_, ⟨x', q1, _⟩ | ⟨_, ⟨q1, _⟩ | ⟨_, p, k, q1, q2, q3, _⟩⟩⟩
     ·rw [hF] at q1; cases q1
     ·rw [hf] at q1; cases q1
     ·exact absurd hh q1
     ·exact ⟨p, k, q1, G.trans hg g, q2, q3⟩
    ·refine (encode_whole p _ _ k W (opU b).1 most hA T.c (by rw [hk]; exact T.g) (by rw [hk]; exact T.n) (by rw [hk]; exact T.sz) (by rw [hk]; exact T.ok.wt) (by rw [hk]; exact T.unk) (hTb.up hg) (hTh.below hg (by omega))).mono ?_
     have h0 : encE (opU b).1 (decN b most).1.v.kind (1 + k.flat.size : Nat) most = 0 := by
      have := T.ver
      unfold encE
      rw [if_neg (by omega), if_neg (by rw [T.kind]; simp), if_neg (by rw [hk, ← hbi]; omega)]
     rintro e w' (⟨q, _⟩ | ⟨_, u, q1, q2, q3⟩)
     ·exact absurd h0 q
     ·refine ⟨u, q1, ?_, G.trans hg q3⟩
      rw [hk, Int.toNat_natCast, T.again hh] at q2
      exact q2.has
   ·refine flt fun W e w' _ q => ?_
    rcases q with ⟨x', q1, _⟩ | ⟨_, ⟨x', q1, _⟩ | ⟨_, ⟨_, s, hs, fb, pt, q2, q3⟩ | ⟨q1, _⟩⟩⟩
    ·rw [hF] at q1; cases q1
    ·rw [hf] at q1; cases q1
    ·have := p2 s hs
     exact ⟨fb, s.pl, pt, 65, q2, q3, ⟨by omega, by omega, .inr rfl⟩⟩
    ·exact absurd q1 hh
end Go.Proofs.YtjikkhbcbfpocaaGreatDoor
namespace Go.Proofs.YtjikkhbcbfpocaaGreatDoor.Fr6
open Go.ChangeShapes Go.WideShapes Go.ChangeAt Go.RowKit
open Go.ChangeMaps (open_string shut_string)
theorem own : ownKnob Tryz.prog.godebug = none := by kernel_rfl
theorem laidOut : laidOutB Tryz.prog = true := by kernel_rfl
theorem gHalf : Tryz.prog.globalNamed "twine/sum.halfSums" = some 0 := by kernel_rfl
theorem gErr : Tryz.prog.globalNamed "errors.errorType" = some 1 := by kernel_rfl
theorem gFirst : Tryz.prog.globalNamed "twine/sum.firstWords" = some 2 := by kernel_rfl
theorem gRound : Tryz.prog.globalNamed "twine/sum.roundWords" = some 3 := by kernel_rfl
theorem tHalf : (Tryz.prog.globals[0]?).map (·.type) = some 199 := by kernel_rfl
theorem tFirst : (Tryz.prog.globals[2]?).map (·.type) = some 238 := by kernel_rfl
theorem tRound : (Tryz.prog.globals[3]?).map (·.type) = some 270 := by kernel_rfl
theorem gRt : (Tryz.prog.cutTypes.find? (·.1 == "internal/reflectlite.rtype")).map (·.2) = some 248 := by kernel_rfl
def firstL : List Nat := [1779033703, 3144134277, 1013904242, 2773480762, 1359893119, 2600822924, 528734635, 1541459225]
theorem dHalf {H : Type} : (Rows.laid_twine_sum_halfSums : DataW H) = Lib.tabData .u32 (Su.Crc.tab.map Int.ofNat) := rfl
theorem dFirst {H : Type} : (Rows.laid_twine_sum_firstWords : DataW H) = Lib.tabData .u32 (firstL.map Int.ofNat) := rfl
theorem dRound {H : Type} : (Rows.laid_twine_sum_roundWords : DataW H) = Lib.tabData .u32 (Su.Sha.ks.map Int.ofNat) := rfl
theorem tab_cells {w : World} {n : String} {g : Nat} {t : TypeId} {len fuel : Nat} {zs : List Nat} {cs : Array Value} {p : List MemPlace} (hg : Tryz.prog.globalNamed n = some g) (hu : Tryz.prog.underlying t = some (.array len 56)) (hct : Tryz.prog.cellsOf t = len)
  (hv : w.var? Tryz.prog n = some cs) (hd : DataW.trod (fun _ => ()) Tryz.prog w 0 (fun _ => true) false fuel t cs.toList = some (Lib.tabData .u32 (zs.map Int.ofNat), p)) (i : Nat) (hi : i < zs.length) :
  w.cell? ⟨g, i, none⟩ = some (Su.vw (zs.getD i 0)) := by
 have hc := Lib.cells_of_tab hu Tryz.underlying56 (by kernel_rfl) hct hd
 rw [World.var?_cell hg hv i, ← Array.getElem?_toList, hc]
 simp [List.getD, hi, Su.vw]
theorem tySize : Tryz.prog.types.size = 307 := by kernel_rfl
theorem oneRow : ((List.range 307).filter fun t => Tryz.prog.rowNamed t [101, 114, 114, 111, 114]) = [41] := by kernel_rfl
theorem of_laid {W : World} (h : laidMetH Tryz.prog Rows.codecFormRow.laid W) : Su.Tabs W ∧ Su.Half W ∧ ErrT W := by
 first
  | (have h' : laidMet Tryz.prog [("twine/sum.halfSums", Rows.laid_twine_sum_halfSums), ("twine/sum.firstWords", Rows.laid_twine_sum_firstWords), ("twine/sum.roundWords", Rows.laid_twine_sum_roundWords)] W ∧ handlesMet Tryz.prog [("errors.errorType", Rows.laid_errors_errorType)] W := h; obtain ⟨⟨ps, ⟨g0, t0, cs0, f0, p0, q0, hg0, ht0, hv0, hd0, ⟨g1, t1, cs1, f1, p1, q1, hg1, ht1, hv1, hd1, ⟨g2, t2, cs2, f2, p2, q2, hg2, ht2, hv2, hd2, _, _⟩, _⟩, _⟩, _, _⟩, hh⟩ := h')
  | (have h' : laidMet Tryz.prog [("twine/sum.firstWords", Rows.laid_twine_sum_firstWords), ("twine/sum.roundWords", Rows.laid_twine_sum_roundWords), ("twine/sum.halfSums", Rows.laid_twine_sum_halfSums)] W ∧ handlesMet Tryz.prog [("errors.errorType", Rows.laid_errors_errorType)] W := h; obtain ⟨⟨ps, ⟨g1, t1, cs1, f1, p1, q1, hg1, ht1, hv1, hd1, ⟨g2, t2, cs2, f2, p2, q2, hg2, ht2, hv2, hd2, ⟨g0, t0, cs0, f0, p0, q0, hg0, ht0, hv0, hd0, _, _⟩, _⟩, _⟩, _, _⟩, hh⟩ := h')
 obtain rfl := Option.some.inj (gHalf.symm.trans hg0)
 obtain rfl := Option.some.inj (gFirst.symm.trans hg1)
 obtain rfl := Option.some.inj (gRound.symm.trans hg2)
 obtain rfl := Option.some.inj (tHalf.symm.trans ht0)
 obtain rfl := Option.some.inj (tFirst.symm.trans ht1)
 obtain rfl := Option.some.inj (tRound.symm.trans ht2)
 rw [dHalf] at hd0
 rw [dFirst] at hd1
 rw [dRound] at hd2
 refine ⟨⟨fun i hi => tab_cells gFirst Tryz.underlying238 (by kernel_rfl) hv1 hd1 i hi, fun i hi => tab_cells gRound Tryz.underlying270 (by kernel_rfl) hv2 hd2 i hi⟩, ⟨fun i hi => tab_cells gHalf Tryz.underlying199 (by kernel_rfl) hv0 hd0 i hi⟩, ?_⟩
 obtain ⟨name, u, ty, e1, e2, e3, e4, e5⟩ := hh _ (List.mem_singleton.2 rfl)
 have en : name = [101, 114, 114, 111, 114] := (Option.some.inj e1).symm
 subst en
 obtain rfl := Option.some.inj (gRt.symm.trans e2)
 have hm : ty ∈ (List.range 307).filter fun t => Tryz.prog.rowNamed t [101, 114, 114, 111, 114] := List.mem_filter.2 ⟨List.mem_range.2 (by rw [← tySize]; exact e3), e4⟩
 rw [oneRow] at hm
 obtain rfl := List.mem_singleton.1 hm
 have hth : typeHandle Tryz.prog 41 = .pointer (some ⟨5, 41, none⟩) := by kernel_rfl
 rw [hth] at e5
 have := World.var?_cell gErr e5 0
 unfold ErrT
 simpa using this
def lay (c : Array Value) : Obj → Obj
 | .cells _ t frozen => .cells c t frozen
 | o => o
noncomputable def laidWorld (os : Os) : World :=
 { World.holding Tryz.prog os ⟨#[], #[], []⟩ with heap := ((((World.holding Tryz.prog os ⟨#[], #[], []⟩).heap.modify 0 (lay (Su.Crc.tab.map Su.vw).toArray)).modify 2 (lay (firstL.map Su.vw).toArray)).modify 3 (lay (Su.Sha.ks.map Su.vw).toArray)).modify 1 (lay #[.iface 248 (.agg #[.pointer (some ⟨5, 41, none⟩)])]) }
theorem laid4 (os : Os) (args : Array Value) : laidMetH Tryz.prog Rows.codecFormRow.laid ((laidWorld os).forCall (fun _ _ => 0) ⟨#[], args, []⟩).memory :=
 laidMetH_of_parts (laidMet_of_run' 8 (by kernel_rfl) (by kernel_rfl)) (by kernel_rfl)
theorem slice_in {H : Type} {enc : TypeId × Value → H} {W : World} {a : Option Addr} {len cap : Nat} {d : DataW H} {p : List MemPlace}
  (h : DataW.Trod enc Tryz.prog W 0 (fun _ => true) true 35 (.slice a len cap) d p) : ∃ l : List Nat, l.length = len ∧ Su.Has W (.slice a len cap) l ∧ Su.Bytes l ∧ len ≤ 9223372036854775807 := by
 obtain ⟨fuel, hf⟩ := h
 rcases open_ints Tryz.underlying35 Tryz.underlying5 (by kernel_rfl) hf with ⟨hcs, _⟩ | ⟨x, l, c, zs, hcs, _, hl, hm, hz, _, hcell, hwz⟩
 ·simp [Value.cells] at hcs
  obtain ⟨rfl, rfl, rfl⟩ := hcs
  exact ⟨[], rfl, .inl ⟨rfl, rfl⟩, fun x hx => by simp at hx, by omega⟩
 ·simp [Value.cells] at hcs
  obtain ⟨rfl, rfl, rfl⟩ := hcs
  simp only [if_true] at hz
  unfold maxLen at hm
  have hlen : ((zs.take len).map Int.toNat).length = len := by simp; omega
  refine ⟨(zs.take len).map Int.toNat, hlen, .inr ⟨x, cap, by rw [hlen], by rw [hlen]; exact hl, fun i hi => ?_⟩, fun y hy => ?_, by omega⟩
  ·rw [hlen] at hi
   rw [hcell i (by omega)]
   have hzi : i < zs.length := by omega
   have hb := bounds_u8 (hwz zs[i] (List.getElem_mem hzi))
   have : ((zs[i].toNat : Nat) : Int) = zs[i] := Int.toNat_of_nonneg hb.1
   simp [List.getD, hi, hzi, Su.vb, this]
  ·obtain ⟨z, hz', rfl⟩ := List.mem_map.1 hy
   have := bounds_u8 (hwz z (List.mem_of_mem_take hz'))
   omega
end Go.Proofs.YtjikkhbcbfpocaaGreatDoor.Fr6
namespace Go.Proofs.YtjikkhbcbfpocaaGreatDoor.FormR
open Go.ChangeShapes Go.WideShapes Go.ChangeAt Go.RowKit Fr6
theorem contract (H : Type) (enc : TypeId × Value → H) (W : World) (base : Nat) (args : Array Value) (ds gs : List (DataW H)) (before : List MemPlace)
  (hval : ∀ (j : Nat) t v, Tryz.f4.params[j]? = some t → args[j]? = some v → Value.okWide Tryz.prog W .any base t v)
  (hW : DataW.Whole enc Tryz.prog Tryz.f4.params.toList Rows.codecFormSpec.vars false W args.toList ds gs before) (hL : laidMetH Tryz.prog Rows.codecFormRow.laid W) :
  Calls Tryz.prog 4 args W fun e W' => ∃ v, e = .returned v ∧ Rows.codecFormSpec.post enc Tryz.prog Tryz.f4 false true false false W args v W' := by
 have hW' := hW
 obtain ⟨p, q, hA0, hV, rfl, hfz, hnd⟩ := hW
 have hA : DataW.TrodAll enc Tryz.prog W 0 (fun _ => true) true Tryz.f4.params.toList args.toList ds p := hA0
 rw [Tryz.params4] at hA hval
 obtain ⟨v0, vs0, d0, ds0, p0, q0, hargs, rfl, rfl, h0, r0⟩ := trodAll_cons hA
 obtain ⟨v1, vs1, d1, ds1, p1, q1, rfl, rfl, rfl, h1, r1⟩ := trodAll_cons r0
 obtain ⟨rfl, rfl, rfl⟩ := trodAll_nil r1
 obtain rfl : args = #[v0, v1] := by cases args; simp_all
 obtain ⟨rfl, rfl⟩ := trodVars_none hV
 obtain ⟨a0, len0, cap0, rfl⟩ := okWide_slice Tryz.underlying35 (hval 0 35 v0 rfl rfl)
 obtain ⟨a1, rfl, rfl, rfl, w1⟩ := open_int Tryz.underlying3 (hval 1 3 v1 rfl rfl) h1
 have k0 := h0
 have lt0 : ∀ x ∈ p0, x.block < W.heap.size := by obtain ⟨m, hm⟩ := k0; exact DataW.trod_lt m _ _ _ hm
 obtain ⟨l, rfl, hl, hB, hml⟩ := slice_in h0
 clear hA0
 obtain ⟨hTb, hTh, hE⟩ := of_laid hL
 refine (form_any _ l a1 W hl hB hml hTb hTh hE (by have := hTb.size; omega)).mono fun e W' ⟨he, bel⟩ => ?_
 subst he
 exact ⟨_, rfl, _, _, _, [], _, [], hW', trodAll_mk1 (shut_bool Tryz.underlying4 _), (trodAll_cons_mk (Below.trod laidOut (by kernel_rfl) (of_decide_eq_true (by kernel_rfl)) k0 bel lt0) (trodAll_cons_mk (shut_int Tryz.underlying3 w1) trodAll_mk0)), rfl, bel.frame _, fun h => by cases h⟩
theorem laid_met (os : Os) : laidMetH Tryz.prog Rows.codecFormRow.laid ((laidWorld os).forCall (fun _ _ => 0) ⟨#[], #[.slice none 0 0, .int .i64 0], []⟩).memory := laid4 os _
theorem reads (os : Os) {H : Type} (enc : TypeId × Value → H) : ∃ places, DataW.whole enc Tryz.prog ((laidWorld os).forCall (fun _ _ => 0) ⟨#[], #[.slice none 0 0, .int .i64 0], []⟩).memory Tryz.f4.params.toList Rows.codecFormSpec.vars false #[Value.slice none 0 0, .int .i64 0].toList 8 = some ([.nil, .lit (.int .i64 0)], [], places) :=
 ⟨[], by kernel_rfl⟩
theorem lifted (os : Os) (started : os.Started) (H : Type) (enc : TypeId × Value → H) (F : Stop.Interp) :
  ReturnsInHanded {} Tryz.checked os 4 .any ((OpenSpec.ofChange Rows.codecFormSpec).preRow enc Tryz.prog Tryz.f4 Rows.codecFormRow.domain false Rows.codecFormRow.laid) (((OpenSpec.ofChange Rows.codecFormSpec).at F).post enc Tryz.prog Tryz.f4 false true false false) := by
 obtain ⟨places, hx⟩ := reads os enc
 refine returnsInHanded_of_row (C := Tryz.checked) (s := OpenSpec.ofChange Rows.codecFormSpec) own started (by kernel_rfl) Tryz.func4
  (witness_row_at (enc := enc) (C := Tryz.checked) false (laidWorld os) #[.slice none 0 0, .int .i64 0] rfl (by kernel_rfl) (by kernel_rfl) (by kernel_rfl)
   (OpenSpec.preRow_of_cond 8 hx (by kernel_rfl) (fun k hk => by cases hk) (by kernel_rfl) (laid_met os))) ?_
 intro W base args ds gs before hval hW _ _ _ hL _ _
 exact contract H enc W base args ds gs before hval hW hL
theorem said : Rows.CodecFormSaid :=
 OpenClaim.holds_of_cond 4 Tryz.f4 rfl rfl rfl rfl rfl rfl rfl ⟨rfl, rfl, rfl, rfl, rfl⟩ rfl rfl rfl rfl rfl (by kernel_rfl) Tryz.func4 (by kernel_rfl)
  (of_decide_eq_true (by kernel_rfl)) (by unfold Func.isWrapper; first | (rw [if_pos (by decide +kernel)]; kernel_rfl) | (rw [if_neg (by decide +kernel)]; exact ⟨rfl, rfl⟩))
  (fun os started H enc _ F => by rw [OpenClaim.pre_eq_preRow]; exact lifted os started H enc F)
theorem plain (f : FuncId) (fn : Func) (hf : Tryz.pinned.checked.prog.funcNamed "twine/twinelaw6.CodecForm" = some f) (hfn : Tryz.pinned.checked.prog.funcs[f]? = some fn) :
  true = Tryz.pinned.checked.prog.looks [] ∧ ∀ (j : Nat) t, fn.params[j]? = some t → Tryz.pinned.checked.prog.wantsStandIn t = false := by
 obtain rfl : f = 4 := Option.some.inj ((show Tryz.prog.funcNamed "twine/twinelaw6.CodecForm" = some 4 by kernel_rfl).symm.trans hf) |>.symm
 obtain rfl : fn = Tryz.f4 := (Option.some.inj (Tryz.func4.symm.trans hfn)).symm
 refine ⟨by kernel_rfl, fun j t ht => ?_⟩
 rw [Tryz.params4] at ht
 have h : t = 35 ∨ t = 3 := by simpa using Array.mem_of_getElem? ht
 rcases h with rfl | rfl
 ·exact (show Tryz.prog.wantsStandIn 35 = false by kernel_rfl)
 ·exact (show Tryz.prog.wantsStandIn 3 = false by kernel_rfl)
end Go.Proofs.YtjikkhbcbfpocaaGreatDoor.FormR
namespace Go.Proofs.YtjikkhbcbfpocaaGreatDoor
theorem codecForm_card : Rows.CodecFormCardSaid :=
 Claim7.holds_tied_plain_at .later [] _ _ _ _ FormR.said (fun _ h => by cases h) (by kernel_rfl) (fun _ h => by cases h) codecForm_row_tie rfl ⟨rfl, rfl⟩ (by kernel_rfl) rfl FormR.plain (by kernel_rfl)
#print axioms codecForm_card
end Go.Proofs.YtjikkhbcbfpocaaGreatDoor
