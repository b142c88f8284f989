import Derived.Test.YtjikkhbcbfpocaaGreatDoorUD
import Derived.Test.YtjikkhbcbfpocaaGreatDoorQC
set_option maxRecDepth 100000
set_option maxHeartbeats 8000000
namespace Go.Proofs.YtjikkhbcbfpocaaGreatDoor
open Go.RowKit
def F.nz : F → Prop
 | .nil => True
 | .cons _ v _ ks r => v.kind ≠ 0 ∧ ks.nz ∧ r.nz
theorem F.nz_drop : ∀ (f : F) (k : Nat), f.nz → (f.drop k).nz
 | f, 0, h => by rw [F.drop_zero]; exact h
 | .nil, k + 1, h => h
 | .cons _ _ _ _ r, k + 1, h => by show (r.drop k).nz; exact F.nz_drop r k h.2.2
def tS (ks : F) : Prop := ∀ (nm : ByteArray) (v : Vd) (m : Md) (c : Array Value) (w : World), HasN w c nm v m ks → v.kind ≠ 0 → ks.nz → ks.size ≤ 100000 →
  Calls Tryz.prog 12 #[.agg c] w fun e w' => e = .returned (.int .i64 ((1 + ks.size : Nat) : Int)) ∧ Below w.heap.size w w'
theorem count12 : ∀ (N : Nat) (ks : F), ks.size < N → tS ks := by
 intro N
 induction N with
 | zero => intro f h; omega
 | succ N ih =>
  intro ks hN nm v m c w ⟨kv, hc, hS⟩ hk hz hl
  obtain ⟨L, hL⟩ : ∃ L, ks.len = L := ⟨_, rfl⟩
  obtain ⟨a, cap, rfl, _⟩ := hS.form
  have hl' : L ≤ 100000 := by have := ks.len_le_size; omega
  have LB := jS w c 30
  have B1 : Below w.heap.size w (w.alloc (.cells c 30)) := (Below.refl _ w).alloc (Nat.le_refl _) _
  obtain ⟨H, hH⟩ : ∃ H, w.heap.size = H := ⟨_, rfl⟩
  have HH : Hid (w.heap.size = H ∧ ks.len = L ∧ HasS w (.slice a L cap) ks ∧ c = nc nm v m (.slice a L cap) ∧ ks.size < N + 1 ∧ ks.size ≤ 100000 ∧ ks.nz) := ⟨hH, hL, by rw [hL] at hS; exact hS, by rw [hL] at hc; exact hc, hN, hl, hz⟩
  have HIH : Hid (∀ ks : F, ks.size < N → tS ks) := ih
  have bk : (v.kind == 0) = false := by simpa using hk
  obtain ⟨S, hS2⟩ : ∃ S, ks.size = S := ⟨_, rfl⟩
  have hS3 : S ≤ 100000 := by omega
  have HSZ := hid hS2
  rw [hS2]
  clear hS hc hH hL hN ih hz hl hS2
  go_enter Tryz.func12, Tryz.ntmps12
  go_upto_region 1 with fail
  generalize w.alloc (.cells c 30) = w1 at *
  rw [HH.o.1] at LB ⊢
  have LC : Lies w1 H 0 (nc nm v m (.slice a L cap)) := by rw [← HH.o.2.2.2.1]; exact LB
  have c40 := yq LC
  have c1 : w1.cell? ⟨H, 1, none⟩ = some (.int .i64 v.kind) := by have := j7 LC 1 _ (by simp [nc, vx]; rfl); exact this
  rw [Nat.zero_add] at c40
  have HB : Hid (Below w.heap.size w w1) := B1
  clear LB LC B1
  go_wp2_with fail
  go_loopw [3, 4] (fun s i wr => ∃ k n : Nat, s = .int .i64 n ∧ i = .int .i64 k ∧ k ≤ L ∧ n ≤ 100001 ∧ wr.cell? ⟨H, 40, none⟩ = some (.slice a L cap) ∧ Hid (n + (ks.drop k).size = 1 + S ∧ Below w.heap.size w wr)) (fun _ i _ => L - iOf i)
  case atStart => exact ⟨0, 1, rfl, rfl, Nat.zero_le _, by omega, c40, by rw [F.drop_zero, HSZ.o], HB.o⟩
  case round =>
   obtain ⟨k, n, rfl, rfl, hk1, hn, q1, HI⟩ := hrel
   clear c40 c1
   by_cases hlt : k < L
   ·have hltI : (k : Int) < (L : Int) := by omega
    obtain ⟨g, o, cp, nm1, v1, m1, ks1, c1, hv1, hd1, hN1, hc1⟩ := HH.o.2.2.1.at (k := k) (by rw [HH.o.2.1]; exact hlt)
    obtain rfl : a = some ⟨g, o, none⟩ := by injection hv1
    clear hv1
    have hks := F.kids_size hd1
    have hsd : (ks.drop k).size = 1 + ks1.size + (ks.drop (k + 1)).size := by rw [hd1]; simp only [F.size]; omega
    have hnz := F.nz_drop ks k HH.o.2.2.2.2.2.2
    rw [hd1] at hnz
    have hq := HI.o.1
    have hz1 : ks1.size ≤ 100000 := by omega
    have hn2 : n + 1 + ks1.size ≤ 100001 := by omega
    have CC := HIH.o ks1 (by have := HH.o.2.2.2.2.1; omega) nm1 v1 m1 c1 wr (hN1.below HI.o.2) hnz.1 hnz.2.1 hz1
    have s1 : c1.size = 41 := by obtain ⟨kv1, rfl, _⟩ := hN1; exact jI ..
    have HL : Hid (Lies wr g (o + k * 41) c1 ∧ c1.size = 41 ∧ n + 1 + ks1.size + (ks.drop (k + 1)).size = 1 + S ∧ Below w.heap.size w wr) := ⟨Lies.below hc1 HI.o.2, s1, by omega, HI.o.2⟩
    have HD := hid hd1
    generalize ks1.size = z1 at *
    clear hd1 hN1 hc1 HI hks hsd hnz hq s1
    go_wp2_with (first
     | (with_reducible refine j0 (.agg c1) ?_ ?_; exact jF _ rfl g (o + k * 41) rfl c1 HL.o.2.1 HL.o.1)
     | (go_at_call 12; refine CC.mono ?_; rintro e w2 ⟨rfl, b2⟩; replace q1 := kt b2 q1; have HB2 := hid b2; clear b2 CC))
    go_roundw
    case rel => exact ⟨k + 1, n + 1 + z1, by go_num, by go_num, by omega, by omega, q1, HL.o.2.2.1, Below.trans (B := w.heap.size) HL.o.2.2.2 (HB2.o.mono HL.o.2.2.2.size)⟩
    case measure => simp; omega
   ·have hltI : ¬ (k : Int) < (L : Int) := by omega
    have HF : Hid (n = 1 + S) := by
     have h1 := HI.o.1
     rw [F.zn ks k (by rw [HH.o.2.1]; omega)] at h1
     exact h1
    have HB2 : Hid (Below w.heap.size w wr) := HI.o.2
    clear HI
    go_wp2_with fail
    go_ret
    exact ⟨by rw [HF.o]; rfl, HB2.o⟩
open Go.Shelf
theorem oS (c : Array Value) (nm : ByteArray) (v : Vd) (m : Md) (ks : F) (w : World) (hN : HasN w c nm v m ks) (hnm : nm.size ≤ 9223372036854775807) (hok : ks.ok) (hlen : ks.len ≤ 9223372036854775807) :
  Calls Tryz.prog 31 #[.agg c] w fun e w' => ∃ n : Int, e = .returned (.bool (decide (0 ≤ n))) ∧ (0 ≤ n → 1 + nm.size + ks.weight ≤ 20000) ∧ G w w' := by
 have hcs : c.size = 41 := by obtain ⟨_, rfl, _⟩ := hN; exact jI ..
 have hG0 : G w (w.alloc (.cells c 30)) := G.alloc _ _
 have HN := hid (⟨hN.below hG0, Var.new w c, hG0⟩ : HasN (w.alloc (.cells c 30)) c nm v m ks ∧ Var (w.alloc (.cells c 30)) w.heap.size c ∧ G w (w.alloc (.cells c 30)))
 have HO := hid (⟨hnm, hlen, hok⟩ : _ ∧ _ ∧ _)
 clear hN hG0 hnm hok hlen
 go_enter Tryz.func31, Tryz.ntmps31
 go_upto_region 1 with fail
 generalize w.alloc (.cells c 30) = w1 at *
 generalize w.heap.size = B0 at *
 go_wp2_with fail
 refine (om w1).mono ?_
 rintro e w2 ⟨rfl, hC, bl⟩
 have HC := hid (⟨hC, bl⟩ : qE w2 w1.heap.size 20000 ∧ Below w1.heap.size w1 w2)
 have hl : Lies w2 B0 0 c := (HN.o.2.1.grow bl).lies
 have HL := hid hl
 clear hC bl hl
 have C2 := gm w1 c nm v m ks HN.o.1 ⟨HO.o.1, HO.o.2.1, HO.o.2.2⟩ (lm w1 (ks.size + 1) ks (Nat.lt_succ_self _)) w2 w1.heap.size 20000 HC.o.2 (Nat.le_refl _) HC.o.1
 have HGG := hid (⟨HN.o.2.2, HC.o.2⟩ : G w w1 ∧ G w1 w2)
 obtain ⟨C, hCC⟩ : ∃ C, w1.heap.size = C := ⟨_, rfl⟩
 rw [hCC] at C2 ⊢
 have HCC := hid hCC
 clear hCC
 go_wp2_with ((with_reducible refine j0 (.agg c) ?_ ?_); exact jF _ rfl B0 0 rfl c hcs HL.o)
 refine C2.mono ?_
 rintro e w3 ⟨⟨b2, rfl⟩, n2, hC2, l2, bl2⟩
 have C3 := rP C n2 w3 hC2
 have HF := hid (⟨l2, bl2⟩ : _ ∧ _)
 clear C2 hC2 l2 bl2
 go_wp2_with fail
 refine C3.mono ?_
 rintro e w4 ⟨rfl, e3⟩
 subst e3
 clear C3
 go_wp2_with fail
 go_ret
 refine ⟨n2, rfl, fun h => ?_, ?_⟩
 ·have := HF.o.1 h
  omega
 ·have h1 := HGG.o.1.size
  have h2 := HGG.o.2.size
  have h3 := HCC.o
  exact Below.trans (B := w.heap.size) HGG.o.1 (Below.trans (B := w.heap.size) (Below.mono HGG.o.2 h1) (But.below HF.o.2 (by omega) (by omega)))
theorem qu {P : Program} {fn : Func} {u p : Tmp} {ty : TypeId} (h : fn.results = #[.tmp u, .cell p ty]) (tmps : Array Value) (w : World) (g : Nat) (t : TypeId) (cs : Array Value) (fr : Nat × Nat) (d : TypeDesc)
  (hp : tmps.getD p undef = .pointer (some ⟨g, 0, none⟩)) (hg : w.heap[g]? = some (.cells cs t fr)) (hu : P.underlying ty = some d) (hd : (match d with | .struct _ | .array _ _ => true | _ => false) = true) (hi : (P.info? ty).map (·.size) = some cs.size) :
  (results fn tmps).run P w = .ok (.tuple #[tmps.getD u undef, .agg cs]) w := by
 have hp' : tmps[p]?.getD undef = .pointer (some ⟨g, 0, none⟩) := by simpa using hp
 simp [results, h, hp', asAddr, run_loadVar_row w g t ty cs fr d hg hu hd hi]
theorem At.other {w w' : World} {B : Nat} {s : ByteArray} {x : Int} (h0 : w.cell? ⟨B, 0, none⟩ = some (.string s)) (h1 : w.cell? ⟨B, 1, none⟩ = some (.int .i64 x)) (hb : ∀ b, b ≠ B → w'.heap[b]? = w.heap[b]?) : ∀ {k : K} {u : Value}, At w k u → At w' k u
 | .nil, _, h => h
 | .node q p nm v m kk ah be, _, ⟨e, pk, pa, pb, ⟨h2, h3⟩, h4, h5, h6⟩ => by
  have c1 := j7 h2 1 (.pointer (some ⟨p, 0, none⟩)) rfl
  have c2 := j7 h3 0 (.int .i64 v.kind) rfl
  refine ⟨e, pk, pa, pb, ⟨h2.same (hb _ fun e => ?_), h3.same (hb _ fun e => ?_)⟩, At.other h0 h1 hb h4, At.other h0 h1 hb h5, At.other h0 h1 hb h6⟩
  ·rw [e, h1] at c1; cases c1
  ·rw [e, h0] at c2; cases c2
theorem AtT.other {w w' : World} {B p : Nat} {v : Vd} {m : Md} {k : K} (h : AtT w p v m k) {s : ByteArray} {x : Int} (z0 : w.cell? ⟨B, 0, none⟩ = some (.string s)) (z1 : w.cell? ⟨B, 1, none⟩ = some (.int .i64 x)) (hb : ∀ b, b ≠ B → w'.heap[b]? = w.heap[b]?) : AtT w' p v m k := by
 obtain ⟨pk, h1, h2⟩ := h
 have c2 := j7 h1 0 (.int .i64 v.kind) rfl
 refine ⟨pk, h1.same (hb _ fun e => ?_), h2.other z0 z1 hb⟩
 rw [e, z0] at c2; cases c2
def Grn (lo : Nat) (v : Vd) (m : Md) (ks : F) (wt : Nat) (e : Ending) (w' : World) : Prop :=
 (∃ c', e = .returned (.tuple #[.pointer none, .agg c']) ∧ c'.size = 41 ∧ c'.all (·.oneCell') = true) ∨
 (∃ p k c', e = .returned (.tuple #[.pointer (some ⟨p, 0, none⟩), .agg c']) ∧ AtT w' p v m k ∧ k.flat = ks ∧ (∃ P : Nat → Prop, (∀ b, P b → lo ≤ b) ∧ z8 w' P c' ⟨#[]⟩ v m ks) ∧ v.kind = 1 ∧ qZ v m ks = 0 ∧ wt ≤ 20000)
theorem oT (c : Array Value) (nm : ByteArray) (v : Vd) (m : Md) (ks : F) (w : World) (hN : HasN w c nm v m ks) (hnm : nm.size ≤ 9223372036854775807) (hok : ks.ok) (hlen : ks.len ≤ 9223372036854775807) :
  Calls Tryz.prog 10 #[.agg c] w fun e w' => G w w' ∧ Grn w.heap.size v m ks (1 + nm.size + ks.weight) e w' := by
 obtain ⟨hsz, hco⟩ : c.size = 41 ∧ c.all (·.oneCell') = true := by
  obtain ⟨_, rfl, a, cap, rfl, _⟩ := hN
  exact ⟨jI .., kW _ _ _ _ rfl⟩
 have hV1 := (Var.new w c).grow (G.alloc (w.alloc (.cells c 30)) (.cells z30 30))
 have hV2 := Var.new (w.alloc (.cells c 30)) z30
 rw [World.size_alloc] at hV2
 have hG1 : G w ((w.alloc (.cells c 30)).alloc (.cells z30 30)) := (G.alloc _ _).trans (G.alloc _ _)
 have CF := oS c nm v m ks _ (hN.below hG1) hnm hok hlen
 have q1 := j7 hV1.lies 1 (.int .i64 v.kind) (by obtain ⟨_, rfl, _⟩ := hN; exact zg ..)
 have H1 := hid (⟨⟨hV1, hV2⟩, hG1, hN.below hG1⟩ : (Var ((w.alloc (.cells c 30)).alloc (.cells z30 30)) w.heap.size c ∧ Var ((w.alloc (.cells c 30)).alloc (.cells z30 30)) (w.heap.size + 1) z30) ∧ G w ((w.alloc (.cells c 30)).alloc (.cells z30 30)) ∧ HasN ((w.alloc (.cells c 30)).alloc (.cells z30 30)) c nm v m ks)
 clear hN hV1 hV2 hG1 hnm hok hlen
 go_enter Tryz.func10, Tryz.ntmps10
 go_upto_region 1 with (with_reducible refine jA (.pointer (some ⟨(w.alloc (.cells c 30)).heap.size, 0, none⟩)) ((w.alloc (.cells c 30)).alloc (.cells z30 30)) ?_ ?_; exact xj rfl _)
 try simp only [Act.put, sA, sB, sC, World.size_alloc]
 generalize (w.alloc (.cells c 30)).alloc (.cells z30 30) = w1 at *
 obtain ⟨B, hB⟩ : ∃ B, w.heap.size = B := ⟨_, rfl⟩
 rw [hB] at H1 q1 ⊢
 have HB : Hid (w.heap.size = B) := hB
 clear hB
 go_wp2_with ((with_reducible refine j0 (.agg c) ?_ ?_); exact jF _ rfl B 0 rfl c hsz H1.o.1.1.lies)
 refine CF.mono ?_
 rintro e w2 ⟨n, rfl, hn, hg2⟩
 have H2 := hid (⟨H1.o.1.1.grow hg2, H1.o.1.2.grow hg2⟩ : Var w2 B c ∧ Var w2 (B + 1) z30)
 have HG2 := hid (⟨H1.o.2.1.trans hg2, H1.o.2.2.below hg2⟩ : G w w2 ∧ HasN w2 c nm v m ks)
 have HW := hid hn
 replace q1 := hg2.cell q1
 clear hn hg2 H1 CF
 by_cases h0 : 0 ≤ n
 case neg =>
  have b0 : decide (0 ≤ n) = false := by simpa using h0
  rw [b0]
  clear b0 h0 q1
  go_upto_region 2 with fail
  refine wp_region_held_drew (S := fun w' => Var w' B c) (by kernel_rfl) ((H2.o.1).grow (G.drew w2)) (fun hS => ?_)
  have HV := hid (H2.o.2.grow (G.drew w2))
  have HG := hid (HG2.o.1.trans (G.drew w2))
  generalize w2.drew = wd at *
  refine io 0 15 (.agg c) hS (fun wz hz => ?_) ?_
  ·exact jF _ rfl B 0 rfl c hsz hz.lies
  refine io 1 2 (.pointer none) hS (fun wz hz => ?_) ?_
  ·rfl
  refine tK 2 (wd.setRow (B + 1) c) rfl rfl (by kernel_rfl) (by kernel_rfl) (jJ _ _ rfl (B + 1) _ z30 rfl rfl _ HV.o hsz jQ hco) ((setRow_other _ (B + 1) B _ (by omega)).trans hS) ?_
  refine wpAnyH_done (by kernel_rfl) ?_ _
  go_wp2_with fail
  refine bodyPost_ret (qu rfl _ _ (B + 1) 30 c (0, 0) _ rfl HV.o.set qW rfl (by rw [kN, hsz])) rfl ?_
  exact ⟨Below.trans (B := w.heap.size) HG.o ⟨rfl, rfl, rfl, by simp, fun b hb => setRow_other _ (B + 1) b _ (by have := HB.o; omega)⟩, .inl ⟨c, rfl, hsz, hco⟩⟩
 have b0 : decide (0 ≤ n) = true := by simpa using h0
 rw [b0]
 have HWT := hid (HW.o h0)
 clear HW b0 h0
 by_cases h1 : v.kind = 1
 case neg =>
  have b1 : (v.kind != 1) = true := by simpa using h1
  have HK := hid h1
  clear h1
  go_upto_region 2 with fail
  refine wp_region_held_drew (S := fun w' => Var w' B c) (by kernel_rfl) ((H2.o.1).grow (G.drew w2)) (fun hS => ?_)
  have HV := hid (H2.o.2.grow (G.drew w2))
  have HG := hid (HG2.o.1.trans (G.drew w2))
  generalize w2.drew = wd at *
  refine io 0 15 (.agg c) hS (fun wz hz => ?_) ?_
  ·exact jF _ rfl B 0 rfl c hsz hz.lies
  refine io 1 2 (.pointer none) hS (fun wz hz => ?_) ?_
  ·rfl
  refine tK 2 (wd.setRow (B + 1) c) rfl rfl (by kernel_rfl) (by kernel_rfl) (jJ _ _ rfl (B + 1) _ z30 rfl rfl _ HV.o hsz jQ hco) ((setRow_other _ (B + 1) B _ (by omega)).trans hS) ?_
  refine wpAnyH_done (by kernel_rfl) ?_ _
  go_wp2_with fail
  refine bodyPost_ret (qu rfl _ _ (B + 1) 30 c (0, 0) _ rfl HV.o.set qW rfl (by rw [kN, hsz])) rfl ?_
  exact ⟨Below.trans (B := w.heap.size) HG.o ⟨rfl, rfl, rfl, by simp, fun b hb => setRow_other _ (B + 1) b _ (by have := HB.o; omega)⟩, .inl ⟨c, rfl, hsz, hco⟩⟩
 have HK := hid h1
 rw [h1] at q1
 clear h1
 have CO := dU c nm v m ks w2 HG2.o.2 (by have := HWT.o; omega)
 go_wp2_with ((with_reducible refine j0 (.agg c) ?_ ?_); exact jF _ rfl B 0 rfl c hsz H2.o.1.lies)
 refine CO.mono ?_
 rintro e w3 ⟨u, rfl, hg3, hr⟩
 replace H2 := hid (⟨H2.o.1.grow hg3, H2.o.2.grow hg3⟩ : Var w3 B c ∧ Var w3 (B + 1) z30)
 replace HG2 := hid (HG2.o.1.trans hg3)
 clear hg3 CO q1
 obtain ⟨ce, hce⟩ : ∃ ce, qZ v m ks = ce := ⟨_, rfl⟩
 rw [hce] at hr ⊢
 rcases hr with ⟨h0, rfl⟩ | ⟨h0, p, k, rfl, hA, hfl, _, _⟩
 ·have b1 : (ce != 0) = true := by simpa using h0
  clear hce h0
  go_upto_region 5 with fail
  refine wp_region_held_drew (S := fun w' => Var w' B c) (by kernel_rfl) ((H2.o.1).grow (G.drew w3)) (fun hS => ?_)
  have HV := hid (H2.o.2.grow (G.drew w3))
  have HG := hid (HG2.o.trans (G.drew w3))
  generalize w3.drew = wd at *
  refine io 0 27 (.agg c) hS (fun wz hz => ?_) ?_
  ·exact jF _ rfl B 0 rfl c hsz hz.lies
  refine io 1 2 (.pointer none) hS (fun wz hz => ?_) ?_
  ·rfl
  refine tK 2 (wd.setRow (B + 1) c) rfl rfl (by kernel_rfl) (by kernel_rfl) (jJ _ _ rfl (B + 1) _ z30 rfl rfl _ HV.o hsz jQ hco) ((setRow_other _ (B + 1) B _ (by omega)).trans hS) ?_
  refine wpAnyH_done (by kernel_rfl) ?_ _
  go_wp2_with fail
  refine bodyPost_ret (qu rfl _ _ (B + 1) 30 c (0, 0) _ rfl HV.o.set qW rfl (by rw [kN, hsz])) rfl ?_
  exact ⟨Below.trans (B := w.heap.size) HG.o ⟨rfl, rfl, rfl, by simp, fun b hb => setRow_other _ (B + 1) b _ (by have := HB.o; omega)⟩, .inl ⟨c, rfl, hsz, hco⟩⟩
 ·subst h0
  subst hfl
  have HX := hid (⟨hA, hce⟩ : _ ∧ _)
  have CN := yz _ k (Nat.lt_succ_self _) p v m w3 hA (by have := HWT.o; have := F.size_le_weight k.flat; omega)
  clear hA hce
  go_wp2_with (first
   | (go_at_call 15; refine CN.mono ?_; rintro e w4 ⟨c4, rfl, hn4, hg4⟩; have hs4 : c4.size = 41 ∧ c4.all (·.oneCell') = true := hn4.facts; have H4 := hid (⟨H2.o.2.grow hg4, hn4, HG2.o.trans hg4, HX.o.1.grow hg4, by have h8 := hg4.size; have h9 := H2.o.2.lt; omega⟩ : Var w4 (B + 1) z30 ∧ z8 w4 (NewC w3 w4) c4 ⟨#[]⟩ v m k.flat ∧ G w w4 ∧ AtT w4 p v m k ∧ B + 1 < w4.heap.size); clear hn4 hg4 CN)
   | ((with_reducible refine j8 (w4.setRow (B + 1) c4) ?_ ?_); exact jJ _ _ rfl (B + 1) _ z30 rfl rfl _ H4.o.1 hs4.1 jQ hs4.2))
  refine bodyPost_ret (qu rfl _ _ (B + 1) 30 c4 (0, 0) _ rfl H4.o.1.set qW rfl (by rw [kN, hs4.1])) rfl ?_
  obtain ⟨h1, ⟨kv, e4, h2⟩, h3, h4, h5⟩ := H4.o
  have h6 : B + 1 < w3.heap.size := H2.o.2.lt
  refine ⟨Below.trans (B := w.heap.size) h3 ⟨rfl, rfl, rfl, by simp, fun b hb => setRow_other _ (B + 1) b _ (by have := HB.o; omega)⟩, .inr ⟨p, k, c4, rfl, ?_, rfl, ?_, HK.o, HX.o.2, HWT.o⟩⟩
  ·exact h4.other (j7 h1.lies 0 (.string ⟨#[]⟩) rfl) (j7 h1.lies 1 (.int .i64 0) rfl) fun b hb => setRow_other _ (B + 1) b _ hb
  ·exact ⟨NewC w3 w4, fun b hb => by have := hb.1; have := HB.o; omega, kv, e4, h2.keep fun b hb => ⟨setRow_other _ (B + 1) b _ (by have := hb.1; omega), hb⟩⟩
attribute [local go_sem] Oper.semAt_some
theorem uP {n : Nat} (h1 : 1 ≤ n) (h3 : n ≤ 3) {v : Vd} {m : Md} {ks : F} (hk : v.kind = 1) (hc : qZ v m ks = 0) (hB : Su.Bytes v.sum) (hb : bytF ks) (hw : ks.weight ≤ 20000) : Ar n (wrV n v) m (wrF n ks) := by
 refine ⟨h1, h3, ?_, ?_, ⟨fun q => ?_, te _ _⟩, ?_, ?_, ?_⟩
 ·unfold wrV; split
  ·rw [pC]; exact hk
  ·exact hk
 ·unfold wrV wrF; split
  ·exact am hc
  ·exact hc
 ·unfold wrV unkV
  rw [if_pos q, if_neg (by rw [hk]; decide)]
 ·unfold wrV; split
  ·rw [mW]; exact hB
  ·exact hB
 ·unfold wrF; split
  ·exact gt mW hb
  ·exact hb
 ·unfold wrF; split
  ·rw [F.mp_weight]; exact hw
  ·exact hw
theorem i7 (ver : Int) (f : F) : (wrF ver f).size = f.size := by
 unfold wrF; split
 ·exact F.mp_size ..
 ·rfl
theorem si : ∀ {f : F}, gOk f → f.nz
 | .nil, _ => trivial
 | .cons _ v _ ks r, h => ⟨by have := h.2.1.1; omega, si h.2.2.1, si h.2.2.2⟩
theorem pu (ver : Nat) (hv : ver < 128) (v : Vd) (m : Md) (ks : F) : 10 ≤ (arcW ver v m ks).length := by
 have h1 : 1 ≤ (encN (1 + ks.size)).length := by rw [kT]; exact Wire.dt _
 unfold arcW
 rw [lA, dB, ym ver hv]
 simp only [lA, lC, lN]
 omega
theorem nx {w : World} {a : Option Addr} {n cap : Nat} {l : List Nat} (h : Su.Has w (.slice a n cap) l) (q : Nat) (hq : q < n) : Su.Has w (.slice a q cap) (l.take q) := by
 rcases h with ⟨e, rfl⟩ | ⟨a', cap', e, hc, hl⟩
 ·cases e; omega
 ·simp only [Value.slice.injEq] at e
  obtain ⟨rfl, rfl, rfl⟩ := e
  have hlen : (l.take q).length = q := by rw [List.length_take]; omega
  refine .inr ⟨a', cap, by rw [hlen], by omega, fun i hi => ?_⟩
  rw [hlen] at hi
  rw [hl i (by omega)]
  congr 2
  rw [List.getD_eq_getElem?_getD, List.getD_eq_getElem?_getD, List.getElem?_take_of_lt hi]
theorem lL (c : Array Value) (nm : ByteArray) (v : Vd) (m : Md) (ks : F) (w : World) (ver most at0 cut : Int) (bt : Nat) (hbt : bt < 4294967296) (hN : HasN w c nm v m ks) (hnm : nm.size ≤ 9223372036854775807) (hok : ks.ok) (hlen : ks.len ≤ 9223372036854775807) (hB : Su.Bytes v.sum) (hb : bytF ks)
  (hTb : Su.Tabs w) (hTh : Su.Half w) (hE : ErrT w) (h1 : 1 < w.heap.size) : Calls Tryz.prog 5 #[.agg c, .int .i64 ver, .int .i64 most, .int .i64 at0, .int .u32 (bt : Int), .int .i64 cut] w fun e w' => e = .returned (.bool true) ∧ G w w' := by
 have hsz : c.size = 41 := by obtain ⟨_, rfl, _⟩ := hN; exact jI ..
 have hV := Var.new w c
 have hG0 : G w (w.alloc (.cells c 30)) := G.alloc _ _
 have CK := nE (w.alloc (.cells c 30)) (hTb.up hG0) (hTh.below hG0 (by omega)) (hE.up hG0) (by simp; omega)
 have q0 := j7 hV.lies 0 (.string nm) (by obtain ⟨_, rfl, _⟩ := hN; exact yJ ..)
 have q1 := j7 hV.lies 1 (.int .i64 v.kind) (by obtain ⟨_, rfl, _⟩ := hN; exact zg ..)
 have HH := hid (⟨hV, hG0, hN.below hG0, q0, q1⟩ : Var (w.alloc (.cells c 30)) w.heap.size c ∧ G w (w.alloc (.cells c 30)) ∧ HasN (w.alloc (.cells c 30)) c nm v m ks ∧ _ ∧ _)
 have HX := hid (⟨⟨hnm, hok, hlen⟩, ⟨hB, hb⟩, hTb, hTh, hE, h1⟩ : (_ ∧ _ ∧ _) ∧ (_ ∧ _) ∧ _ ∧ _ ∧ _ ∧ _)
 clear hV hG0 hN q0 q1 hnm hok hlen hB hb hTb hTh hE h1
 go_enter Tryz.func5, Tryz.ntmps5
 go_upto_region 1 with fail
 generalize w.alloc (.cells c 30) = w1 at *
 obtain ⟨B, hBB⟩ : ∃ B, w.heap.size = B := ⟨_, rfl⟩
 rw [hBB] at HH ⊢
 have HB := hid hBB
 clear hBB
 go_upto_region 3 with (go_at_call 9; refine CK.mono ?_; rintro e w2 ⟨rfl, hg2⟩; have H2 := hid (⟨HH.o.1.grow hg2, HH.o.2.1.trans hg2, HH.o.2.2.1.below hg2, hg2.cell HH.o.2.2.2.1, hg2.cell HH.o.2.2.2.2⟩ : Var w2 B c ∧ G w w2 ∧ HasN w2 c nm v m ks ∧ _ ∧ _); clear hg2 CK HH)
 go_wp2_with ((with_reducible refine j0 (.agg c) ?_ ?_); exact jF _ rfl B 0 rfl c hsz H2.o.1.lies)
 refine (oT c nm v m ks w2 H2.o.2.2.1 HX.o.1.1 HX.o.1.2.1 HX.o.1.2.2).mono ?_
 rintro e w3 ⟨hg3, hgr⟩
 have H3 := hid (⟨H2.o.1.grow hg3, H2.o.2.1.trans hg3, hg3.cell H2.o.2.2.2.1, hg3.cell H2.o.2.2.2.2⟩ : Var w3 B c ∧ G w w3 ∧ _ ∧ _)
 have hs2 : B < w2.heap.size := H2.o.1.lt
 clear hg3
 have hSR : ∀ c4, G w (w3.setRow B c4) := fun c4 => Below.trans (B := w.heap.size) H3.o.2.1 ⟨rfl, rfl, rfl, by simp, fun b hb => setRow_other _ B b _ (by have := HB.o; omega)⟩
 rcases hgr with ⟨c4, rfl, hs4, ho4⟩ | ⟨p, k, c4, rfl, hA, hfl, ⟨P, hP, hn4⟩, hk1, hc0, hwt⟩
 ·have HSR := hid (hSR c4)
  clear hSR
  go_wp2_with ((with_reducible refine j8 (w3.setRow B c4) ?_ ?_); exact jJ _ _ rfl B _ c rfl rfl _ H3.o.1 hs4 hsz ho4)
  go_ret
  exact ⟨rfl, HSR.o⟩
 ·subst hfl
  obtain ⟨hs4, ho4⟩ := hn4.facts
  have hA4 : AtT (w3.setRow B c4) p v m k := hA.other H3.o.2.2.1 H3.o.2.2.2 fun b hb => setRow_other _ B b _ hb
  have hN4 : HasN (w3.setRow B c4) c4 ⟨#[]⟩ v m k.flat := by
   obtain ⟨kv, e4, h2⟩ := hn4
   exact z8.has (P := P) ⟨kv, e4, h2.keep fun b hb => ⟨setRow_other _ B b _ (by have := hP b hb; omega), hb⟩⟩
  have hG4 := hSR c4
  have hV4 : Var (w3.setRow B c4) B c4 := H3.o.1.set
  have hcc := d8 (qF hc0).1 HX.o.2.1.1
  have hgg := yk (qF hc0).2 HX.o.2.1.2
  have hw2 : k.flat.weight ≤ 20000 := by omega
  have hz2 : k.flat.size ≤ 20000 := Nat.le_trans (F.size_le_weight _) hw2
  have CE := hid (fun (ver : Int) (W : World) (hg : G (w3.setRow B c4) W) => xl p v m k W ver most (hA4.grow hg) hcc hgg.1 hgg.2 (by omega) (by omega) (am hc0) (HX.o.2.2.1.up (hG4.trans hg)) (HX.o.2.2.2.1.below (hG4.trans hg) (by have := HX.o.2.2.2.2.2; omega)))
  have H4 := hid (⟨hV4, hG4, hN4⟩ : _ ∧ _ ∧ _)
  have HK := hid (⟨hk1, hc0, hw2, hz2, si hgg.1⟩ : v.kind = 1 ∧ qZ v m k.flat = 0 ∧ k.flat.weight ≤ 20000 ∧ k.flat.size ≤ 20000 ∧ k.flat.nz)
  have hz3 := hz2
  clear hA hn4 hP hk1 hc0 hwt hA4 hN4 hG4 hV4 hcc hgg hw2 hz2 hs2 hSR
  have HC : Hid (∀ W, G (w3.setRow B c4) W → Calls Tryz.prog 12 #[.agg c4] W fun e w' => e = .returned (.int .i64 ((1 + k.flat.size : Nat) : Int)) ∧ Below W.heap.size W w') := fun W hg =>
   count12 _ k.flat (Nat.lt_succ_self _) ⟨#[]⟩ v m c4 W (H4.o.2.2.below hg) (by rw [HK.o.1]; decide) HK.o.2.2.2.2 (by have := HK.o.2.2.2.1; omega)
  by_cases hv : ver < 1 ∨ 3 < ver
  ·clear CE hz3 HC
   rcases hv with hv | hv
   ·have b1 : decide (ver < 1) = true := by simpa using hv
    go_wp2_with ((with_reducible refine j8 (w3.setRow B c4) ?_ ?_); exact jJ _ _ rfl B _ c rfl rfl _ H3.o.1 hs4 hsz ho4)
    go_ret
    exact ⟨rfl, H4.o.2.1⟩
   ·have b1 : decide (ver < 1) = false := by simp; omega
    have b3 : decide (ver > 3) = true := by simpa using hv
    go_wp2_with ((with_reducible refine j8 (w3.setRow B c4) ?_ ?_); exact jJ _ _ rfl B _ c rfl rfl _ H3.o.1 hs4 hsz ho4)
    go_ret
    exact ⟨rfl, H4.o.2.1⟩
  ·have b1 : decide (ver < 1) = false := by simp; omega
   have b3 : decide (ver > 3) = false := by simp; omega
   obtain ⟨cn, hcn⟩ : ∃ cn : Int, ((1 + k.flat.size : Nat) : Int) = cn := ⟨_, rfl⟩
   obtain ⟨mn, hmn⟩ : ∃ mn : Int, min (max most 1) 1048576 = mn := ⟨_, rfl⟩
   rw [hcn] at HC
   by_cases hcm : mn < cn
   ·have bm : decide (cn > mn) = true := by simpa using hcm
    clear CE hz3 hv hcn hcm
    go_wp2_with (first
     | ((with_reducible refine j8 (w3.setRow B c4) ?_ ?_); exact jJ _ _ rfl B _ c rfl rfl _ H3.o.1 hs4 hsz ho4)
     | ((with_reducible refine j0 (.agg c4) ?_ ?_); exact jF _ rfl B 0 rfl c4 hs4 H4.o.1.lies)
     | (go_at_call 12; refine (HC.o _ (G.refl _)).mono ?_; rintro e w6 ⟨rfl, hg6⟩; have HG6 := hid hg6; clear hg6))
    go_ret
    exact ⟨rfl, H4.o.2.1.trans HG6.o⟩
   ·have bm : decide (cn > mn) = false := by simpa using hcm
    obtain ⟨n, rfl⟩ : ∃ n : Nat, ver = n := ⟨ver.toNat, by omega⟩
    have h0 : encE n v.kind (1 + k.flat.size : Nat) most = 0 := by
     unfold encE
     rw [if_neg hv, if_neg (by rw [HK.o.1]; simp), if_neg (by rw [hcn, hmn]; omega)]
    have hAr := uP (n := n) (by omega) (by omega) HK.o.1 HK.o.2.1 HX.o.2.1.1 HX.o.2.1.2 HK.o.2.2.1
    have hbn : 1 + (wrF n k.flat).size ≤ bnd most := by rw [i7]; have := mL most; omega
    have HAr := hid (⟨hAr, hbn, h0⟩ : _ ∧ _ ∧ _)
    have CE2 := CE.o (n : Int)
    clear hv h0 hAr hbn hcn hcm CE hz3
    obtain ⟨ver, hver⟩ : ∃ ver : Int, (n : Int) = ver := ⟨_, rfl⟩
    rw [hver] at b1 b3 CE2 ⊢
    have HV := hid hver
    have HCE := hid CE2
    clear hver CE2
    go_wp2_with (first
     | ((with_reducible refine j8 (w3.setRow B c4) ?_ ?_); exact jJ _ _ rfl B _ c rfl rfl _ H3.o.1 hs4 hsz ho4)
     | ((with_reducible refine j0 (.agg c4) ?_ ?_); exact jF _ rfl B 0 rfl c4 hs4 H4.o.1.lies)
     | (go_at_call 12; refine (HC.o _ (G.refl _)).mono ?_; rintro e w6 ⟨rfl, hg6⟩; have HG6 := hid hg6; clear hg6))
    refine (HCE.o w6 HG6.o).mono ?_
    rintro e w5 (⟨hne, _, _⟩ | ⟨_, u, rfl, hu, hg5⟩)
    ·exact absurd (by rw [← HV.o]; exact HAr.o.2.2) hne
    obtain ⟨L, hL⟩ : ∃ L, arcW n (wrV n v) m (wrF n k.flat) = L := ⟨_, rfl⟩
    have hLl := HAr.o.1.len
    have hLt := pu n (by have := HAr.o.1.h3; omega) (wrV n v) m (wrF n k.flat)
    rw [i7] at hLl
    rw [← HV.o, Int.toNat_natCast] at hu
    rw [hL] at hLl hLt hu
    obtain ⟨ua, uc, rfl, _⟩ := hu.has.form
    obtain ⟨n8, hn8⟩ : ∃ n8, L.length = n8 := ⟨_, rfl⟩
    have hnu : n8 ≤ 8000000 := by have := HK.o.2.2.2.1; omega
    have hn10 : 10 ≤ n8 := by omega
    have b8 : decide ((n8 : Int) < 8) = false := by simp; omega
    have hLu := hu.has
    rw [hn8] at hLu ⊢
    have hG5 : G w w5 := (H4.o.2.1.trans HG6.o).trans hg5
    have HL := hid (⟨hLu, by rw [← hL]; exact HAr.o.1.bytes, hn8, hL⟩ : Su.Has w5 (.slice ua n8 uc) L ∧ Su.Bytes L ∧ L.length = n8 ∧ arcW n (wrV n v) m (wrF n k.flat) = L)
    have HU : Hid (∀ W, G w5 W → (Su.Tabs W ∧ Su.Half W ∧ ErrT W ∧ 1 < W.heap.size)) := fun W hg => by
     have hGW := hG5.trans hg
     exact ⟨HX.o.2.2.1.up hGW, HX.o.2.2.2.1.below hGW (by have := HX.o.2.2.2.2.2; omega), HX.o.2.2.2.2.1.up hGW, by have := hGW.size; have := HX.o.2.2.2.2.2; omega⟩
    obtain ⟨pp, hpp, CP⟩ : ∃ p : Nat, p < 8 * n8 ∧ Hid (∀ wz, Calls Tryz.prog 21 #[.int .i64 at0, .int .i64 (8 * (n8 : Int))] wz fun e w' => e = .returned (.int .i64 p) ∧ wz = w') := by
     obtain ⟨p, hp, hc⟩ := et at0 (8 * n8) (by omega) (by omega)
     refine ⟨p, hp, fun wz => ?_⟩
     have h := hc wz
     rw [show ((8 * n8 : Nat) : Int) = 8 * (n8 : Int) by omega] at h
     exact h
    obtain ⟨cq, hcq, CQ0⟩ := et cut n8 (by omega) (by omega)
    have CQ := hid CQ0
    have hcq9 : (cq : Int) ≤ (n8 : Int) := by omega
    have CDp : Hid (∀ W, G w5 W → Calls Tryz.prog 13 #[.slice ua cq uc, .int .i64 most] W fun e w' => ∃ fb, e = .returned (.tuple #[.pointer none, .int .i64 0, .iface 72 (.pointer (some ⟨fb, 0, none⟩))]) ∧ G W w') := fun W hg => by
     obtain ⟨a2, a3, a4, a5⟩ := HU.o W hg
     refine ru _ (L.take cq) most W (nx (HL.o.1.below hg) cq hcq) (fun x hx => HL.o.2.1 x (List.mem_of_mem_take hx)) (by rw [List.length_take]; omega) (fun q => ?_) a2 a3 a4 a5
     rw [← HL.o.2.2.2] at q ⊢
     exact gT HAr.o.1 HAr.o.2.1 (by rw [HL.o.2.2.2, HL.o.2.2.1]; exact hcq) q
    have hcu : (n8 : Int) ≤ (uc : Int) := by
     obtain ⟨_, _, e, h⟩ := hLu.form
     cases e
     rw [hn8] at h
     omega
    have HGw := hid hG5
    clear CQ0 hLu hG5 hL hLl hLt hu hg5 hn8 HC HCE
    go_wp2_with (first
     | (go_at_call 21; refine (CP.o _).mono ?_; rintro e w' ⟨rfl, rfl⟩)
     | (at_builtin; refine Su.qk rfl _ _ rfl w5.heap.size _ _ [] L rfl rfl (Su.Owns.nil _ _) HL.o.1 (by have := HL.o.2.2.1; simp; omega) (Nat.le_refl _) ?_; intro v1 w7 ho1 hb1; rw [List.nil_append] at ho1; have HO1 : Hid (Su.Owns w7 w5.heap.size v1 L ∧ Below w5.heap.size w5 w7) := ⟨ho1, hb1⟩; obtain ⟨xo, xc, hv1, _⟩ := ho1.has.form; rw [HL.o.2.2.1] at hv1; subst hv1; clear ho1 hb1))
    go_loopw [18] (fun iv wr => ∃ (i : Nat) (O : List Nat), i ≤ 32 ∧ iv = .int .i64 i ∧ Hid (Su.Owns wr w5.heap.size (.slice xo n8 xc) O ∧ O.length = n8 ∧ Su.Bytes O ∧ Su.Crc.num O ^^^ Su.Crc.num L = bt % 2 ^ i * 2 ^ pp ∧ Below w5.heap.size w5 wr)) (fun iv _ => 32 - iOf iv)
    case atStart => exact ⟨0, L, by omega, rfl, HO1.o.1, HL.o.2.2.1, HL.o.2.1, by simp [Nat.mod_one], HO1.o.2⟩
    case round =>
     clear HO1 CP
     obtain ⟨i, O, hi, rfl, HO⟩ := hrel
     by_cases hgo : i < 32 ∧ pp + i < 8 * n8
     ·have hiI : (i : Int) < 32 := by omega
      obtain ⟨kq, hk, HKq⟩ : ∃ k : Nat, (pp : Int) + (i : Int) = (k : Int) ∧ Hid (k = pp + i ∧ k < 8 * n8) := ⟨pp + i, by omega, rfl, hgo.2⟩
      have hkI : (kq : Int) < 8 * (n8 : Int) := by have := HKq.o.2; omega
      have ht : Int.tmod ((bt : Int) / 2 ^ i) 2 = ((bt / 2 ^ i % 2 : Nat) : Int) := by
       rw [show ((bt : Int) / 2 ^ i) = ((bt / 2 ^ i : Nat) : Int) by rw [Int.natCast_ediv, Int.natCast_pow]; rfl, Int.tmod_eq_emod_of_nonneg (Int.natCast_nonneg _)]; omega
      have hi32 : i < 32 := hgo.1
      clear hgo
      rcases Nat.mod_two_eq_zero_or_one (bt / 2 ^ i) with hbit | hbit
      ·have HN : Hid (bt % 2 ^ (i + 1) = bt % 2 ^ i) := by show _ = _; rw [Su.iI, if_neg (by omega)]
       rw [hbit] at ht
       clear hbit
       go_wp2
       go_roundw
       case rel => exact ⟨i + 1, O, by omega, by go_num, HO.o.1, HO.o.2.1, HO.o.2.2.1, by rw [HN.o]; exact HO.o.2.2.2.1, HO.o.2.2.2.2⟩
       case measure => simp; omega
      ·have HN : Hid (bt % 2 ^ (i + 1) = bt % 2 ^ i ^^^ 2 ^ i) := by show _ = _; rw [Su.iI, if_pos hbit]
       rw [hbit] at ht
       clear hbit
       obtain ⟨q, hq, HQ⟩ : ∃ q : Nat, (kq : Int) / 8 = (q : Int) ∧ Hid (q = kq / 8 ∧ q < n8) := ⟨kq / 8, by omega, rfl, by have := HKq.o.2; omega⟩
       obtain ⟨r, hr, HR⟩ : ∃ r : Nat, (kq : Int) % 8 = (r : Int) ∧ Hid (r = kq % 8 ∧ r < 8) := ⟨kq % 8, by omega, rfl, by omega⟩
       have hqI : (q : Int) < (n8 : Int) := by have := HQ.o.2; omega
       obtain ⟨g, xc', hv, hg, hcell, hfr, HOW, HBW⟩ := Su.Owns.set HO.o.1 q (O.getD q 0 ^^^ 2 ^ r) (by rw [HO.o.2.1]; exact HQ.o.2)
       rw [HO.o.2.1] at hv
       simp only [Value.slice.injEq, true_and] at hv
       obtain ⟨rfl, rfl⟩ := hv
       obtain ⟨y, hy⟩ : ∃ y, y = O.getD q 0 := ⟨_, rfl⟩
       rw [← hy] at hcell HOW HBW
       have hyl : y < 256 := by rw [hy]; exact HO.o.2.2.1 _ (by simp [List.getD, List.getElem?_eq_getElem (show q < O.length by rw [HO.o.2.1]; exact HQ.o.2)])
       have h2r : 2 ^ r < 256 := by
        have := HR.o.2
        exact Nat.lt_of_le_of_lt (Nat.pow_le_pow_right (by decide) (show r ≤ 7 by omega)) (by decide)
       obtain ⟨x, hx, HX⟩ : ∃ x : Nat, bits .xor .u8 (y : Int) ((2 : Int) ^ r % 256) = (x : Int) ∧ Hid (x = y ^^^ 2 ^ r ∧ x < 256) := ⟨y ^^^ 2 ^ r, by
        rw [show ((2 : Int) ^ r % 256) = ((2 ^ r : Nat) : Int) by rw [Int.natCast_pow]; exact Int.emod_eq_of_lt (Int.pow_nonneg (by decide)) (by exact_mod_cast h2r)]
        exact u8_xor_nat _ _ hyl h2r, rfl, Nat.xor_lt_two_pow (n := 8) hyl h2r⟩
       rw [← HX.o.1] at HOW HBW
       unfold Su.vb at hcell HOW HBW
       have HF : Hid (Su.Owns (wr.setCell ⟨g, q, none⟩ (.int .u8 (x : Int))) w5.heap.size (.slice (some ⟨g, 0, none⟩) n8 xc) (O.set q x) ∧ Below w5.heap.size w5 (wr.setCell ⟨g, q, none⟩ (.int .u8 (x : Int))) ∧ (O.set q x).length = n8 ∧ Su.Bytes (O.set q x) ∧ Su.Crc.num (O.set q x) ^^^ Su.Crc.num L = bt % 2 ^ (i + 1) * 2 ^ pp) := by
        refine ⟨HOW, HO.o.2.2.2.2.trans HBW, by rw [List.length_set]; exact HO.o.2.1, ?_, ?_⟩
        ·intro u hu
         rcases List.mem_or_eq_of_mem_set hu with h | h
         ·exact HO.o.2.2.1 u h
         ·rw [h]; exact HX.o.2
        ·have hn := Su.ng O kq (by rw [HO.o.2.1]; exact HKq.o.2)
         rw [← HQ.o.1, ← HR.o.1, ← hy, ← HX.o.1] at hn
         rw [hn, HN.o, Su.nj, ← HO.o.2.2.2.1, ← HKq.o.1]
         ac_rfl
       clear HOW HBW hy h2r
       go_wp2
       go_roundw
       case rel => exact ⟨i + 1, O.set q x, by omega, by go_num, HF.o.1, HF.o.2.2.1, HF.o.2.2.2.1, HF.o.2.2.2.2, HF.o.2.1⟩
       case measure => simp; omega
     ·by_cases h32 : i < 32
      case' pos =>
       have hiI : (i : Int) < 32 := by omega
       have hkI : ¬ ((pp : Int) + (i : Int) < 8 * (n8 : Int)) := by omega
       have hkD : decide ((pp : Int) + (i : Int) < 8 * (n8 : Int)) = false := by simp; omega
      case' neg =>
       have hiI : ¬ ((i : Int) < 32) := by omega
       have hiD : decide ((i : Int) < 32) = false := by simp; omega
      all_goals
       clear hgo
       have HS : Hid (∀ W, G wr W → Calls Tryz.prog 20 #[.slice xo n8 xc, .slice ua n8 uc] W fun e w' => e = .returned (.bool (decide (O = L))) ∧ G W w') := fun W hg => by
        refine (cP _ _ O L W (HO.o.1.has.below hg) (HL.o.1.below (HO.o.2.2.2.2.trans (hg.mono HO.o.2.2.2.2.size))) (by rw [HO.o.2.1]; omega) (by rw [HL.o.2.2.1]; omega)).mono fun e w' ⟨q1, nn, q2⟩ => ⟨q1, ?_⟩
        rw [q2]
        exact below_drewN (G.refl _) nn
       have HGr : Hid (G w5 wr) := HO.o.2.2.2.2
       by_cases hOL : O = L
       ·have CDx : Hid (Calls Tryz.prog 13 #[.slice xo n8 xc, .int .i64 most] wr fun e w' => ∃ p k', e = .returned (.tuple #[.pointer (some ⟨p, 0, none⟩), .int .i64 ver, .nilIface]) ∧ G wr w' ∧ AtT w' p (wrV ver v) (mz ver m) k' ∧ k'.flat = (wrF ver k.flat).mp id (mz ver)) := by
         obtain ⟨a2, a3, a4, a5⟩ := HU.o wr HGr.o
         have hh := HO.o.1.has
         rw [hOL, ← HL.o.2.2.2] at hh
         have h := gv _ (most := most) wr HAr.o.1 HAr.o.2.1 hh a2 a3 a4 a5
         rw [HV.o] at h
         exact h
        have bs : decide (O = L) = true := by simpa using hOL
        rw [bs] at HS
        clear hOL bs
        go_upto_region 18 with (go_at_call 13; refine CDx.o.mono ?_; rintro e wa ⟨p2, k2, rfl, hga, _, _⟩; have HGa := hid hga; clear hga CDx)
        go_upto_region 20 with (go_at_call 20; refine (HS.o _ HGa.o).mono ?_; rintro e wb ⟨rfl, hgb⟩; have HGb := hid (G.trans HGr.o (G.trans HGa.o hgb)); clear hgb)
        go_wp2_with (first
         | (go_at_call 21; refine (CQ.o _).mono ?_; rintro e w' ⟨rfl, rfl⟩)
         | (go_at_call 13; refine (CDp.o _ HGb.o).mono ?_; rintro e wc ⟨fb, rfl, hgc⟩; have HGc := hid (G.trans HGb.o hgc); clear hgc))
        go_ret
        exact ⟨rfl, HGw.o.trans HGc.o⟩
       ·have CDx : Hid (Calls Tryz.prog 13 #[.slice xo n8 xc, .int .i64 most] wr fun e w' => ∃ fb, e = .returned (.tuple #[.pointer none, .int .i64 0, .iface 72 (.pointer (some ⟨fb, 0, none⟩))]) ∧ G wr w') := by
         obtain ⟨a2, a3, a4, a5⟩ := HU.o wr HGr.o
         have hno : opF O ≠ none := by
          refine bu HAr.o.1 HO.o.2.2.1 (by rw [HL.o.2.2.2, HL.o.2.2.1]; exact HO.o.2.1) (z := bt % 2 ^ i) (p := pp) (Nat.lt_of_le_of_lt (Nat.mod_le _ _) hbt) (by rw [HL.o.2.2.2, HL.o.2.2.1]; omega) (by rw [HL.o.2.2.2]; exact HO.o.2.2.2.1) (by rw [HL.o.2.2.2]; exact hOL)
         exact ru _ O most wr (by have h := HO.o.1.has; exact h) HO.o.2.2.1 (by rw [HO.o.2.1]; omega) (fun q => absurd q hno) a2 a3 a4 a5
        have bs : decide (O = L) = false := by simpa using hOL
        rw [bs] at HS
        clear hOL bs
        go_upto_region 18 with (go_at_call 13; refine CDx.o.mono ?_; rintro e wa ⟨fa, rfl, hga⟩; have HGa := hid hga; clear hga CDx)
        go_upto_region 20 with (go_at_call 20; refine (HS.o _ HGa.o).mono ?_; rintro e wb ⟨rfl, hgb⟩; have HGb := hid (G.trans HGr.o (G.trans HGa.o hgb)); clear hgb)
        go_wp2_with (first
         | (go_at_call 21; refine (CQ.o _).mono ?_; rintro e w' ⟨rfl, rfl⟩)
         | (go_at_call 13; refine (CDp.o _ HGb.o).mono ?_; rintro e wc ⟨fb, rfl, hgc⟩; have HGc := hid (G.trans HGb.o hgc); clear hgc))
        go_ret
        exact ⟨rfl, HGw.o.trans HGc.o⟩
end Go.Proofs.YtjikkhbcbfpocaaGreatDoor
namespace Go.Proofs.YtjikkhbcbfpocaaGreatDoor.DamR
open Go.ChangeShapes Go.WideShapes Go.ChangeAt Go.RowKit Fr6
theorem contract (H : Type) (enc : TypeId × Value → H) (W : World) (base : Nat) (args : Array Value) (ds gs : List (DataW H)) (before : List MemPlace)
  (hval : ∀ (j : Nat) t v, Tryz.f5.params[j]? = some t → args[j]? = some v → Value.okWide Tryz.prog W .any base t v)
  (hW : DataW.Whole enc Tryz.prog Tryz.f5.params.toList Rows.codecDamageSpec.vars false W args.toList ds gs before) (hL : laidMetH Tryz.prog Rows.codecDamageRow.laid W) :
  Calls Tryz.prog 5 args W fun e W' => ∃ v, e = .returned v ∧ Rows.codecDamageSpec.post enc Tryz.prog Tryz.f5 false true false false W args v W' := by
 have hW' := hW
 obtain ⟨p, q, hA0, hV, rfl, hfz, hnd⟩ := hW
 have hA : DataW.TrodAll enc Tryz.prog W 0 (fun _ => true) true Tryz.f5.params.toList args.toList ds p := hA0
 rw [Tryz.params5] at hA hval
 obtain ⟨v0, vs0, d0, ds0, p0, q0, hargs, rfl, rfl, h0, r0⟩ := trodAll_cons hA
 obtain ⟨v1, vs1, d1, ds1, p1, q1, rfl, rfl, rfl, h1, r1⟩ := trodAll_cons r0
 obtain ⟨v2, vs2, d2, ds2, p2, q2, rfl, rfl, rfl, h2, r2⟩ := trodAll_cons r1
 obtain ⟨v3, vs3, d3, ds3, p3, q3, rfl, rfl, rfl, h3, r3⟩ := trodAll_cons r2
 obtain ⟨v4, vs4, d4, ds4, p4, q4, rfl, rfl, rfl, h4, r4⟩ := trodAll_cons r3
 obtain ⟨v5, vs5, d5, ds5, p5, q5, rfl, rfl, rfl, h5, r5⟩ := trodAll_cons r4
 obtain ⟨rfl, rfl, rfl⟩ := trodAll_nil r5
 obtain rfl : args = #[v0, v1, v2, v3, v4, v5] := by cases args; simp_all
 obtain ⟨rfl, rfl⟩ := trodVars_none hV
 obtain ⟨c0, rfl, hc0⟩ := okWide_struct qW (hval 0 30 v0 rfl rfl)
 obtain ⟨a1, rfl, rfl, rfl, w1⟩ := open_int Tryz.underlying3 (hval 1 3 v1 rfl rfl) h1
 obtain ⟨a2, rfl, rfl, rfl, w2⟩ := open_int Tryz.underlying3 (hval 2 3 v2 rfl rfl) h2
 obtain ⟨a3, rfl, rfl, rfl, w3⟩ := open_int Tryz.underlying3 (hval 3 3 v3 rfl rfl) h3
 obtain ⟨a4, rfl, rfl, rfl, w4⟩ := open_int Tryz.underlying56 (hval 4 56 v4 rfl rfl) h4
 obtain ⟨a5, rfl, rfl, rfl, w5⟩ := open_int Tryz.underlying3 (hval 5 3 v5 rfl rfl) h5
 have hw4 := bounds_u32 w4
 obtain ⟨bt, rfl⟩ : ∃ bt : Nat, a4 = bt := ⟨a4.toNat, by omega⟩
 have k0 := h0
 have lt0 : ∀ x ∈ p0, x.block < W.heap.size := by obtain ⟨m, hm⟩ := k0; exact DataW.trod_lt m _ _ _ hm
 obtain ⟨fuel, hf⟩ := h0
 obtain ⟨⟨nm, v, m, ks⟩, kv, hcs, hS, hnm, hok, hlen, hb1, hb2⟩ := sy fuel _ _ hf
 have hcc : c0 = nc nm v m kv := by
  have h1 : c0.toList = (nc nm v m kv).toList := hcs
  exact Array.toList_inj.1 h1
 clear hA0
 obtain ⟨hTb, hTh, hE⟩ := sh hL
 refine (lL c0 nm v m ks W a1 a2 a3 a5 bt (by omega) ⟨kv, hcc, hS⟩ hnm hok hlen hb1 hb2 hTb hTh hE (by have := hTb.size; omega)).mono fun e W' ⟨he, bel⟩ => ?_
 subst he
 exact ⟨_, rfl, _, _, _, [], _, [], hW', trodAll_mk1 (shut_bool Tryz.underlying4 _), (trodAll_cons_mk (Below.trod laidOut (by kernel_rfl) (of_decide_eq_true (by kernel_rfl)) k0 bel lt0) (trodAll_cons_mk (shut_int Tryz.underlying3 w1) (trodAll_cons_mk (shut_int Tryz.underlying3 w2) (trodAll_cons_mk (shut_int Tryz.underlying3 w3) (trodAll_cons_mk (shut_int Tryz.underlying56 w4) (trodAll_cons_mk (shut_int Tryz.underlying3 w5) trodAll_mk0)))))), rfl, bel.frame _, fun h => by cases h⟩
theorem pv (os : Os) : laidMetH Tryz.prog Rows.codecDamageRow.laid ((x8 os).forCall (fun _ _ => 0) ⟨#[], #[.agg z30, .int .i64 0, .int .i64 0, .int .i64 0, .int .u32 0, .int .i64 0], []⟩).memory := laid4 os _
theorem reads (os : Os) {H : Type} (enc : TypeId × Value → H) : ∃ x, DataW.whole enc Tryz.prog ((x8 os).forCall (fun _ _ => 0) ⟨#[], #[.agg z30, .int .i64 0, .int .i64 0, .int .i64 0, .int .u32 0, .int .i64 0], []⟩).memory Tryz.f5.params.toList Rows.codecDamageSpec.vars false #[Value.agg z30, .int .i64 0, .int .i64 0, .int .i64 0, .int .u32 0, .int .i64 0].toList 8 = some x :=
 Option.isSome_iff_exists.1 (by kernel_rfl)
theorem lifted (os : Os) (started : os.Started) (H : Type) (enc : TypeId × Value → H) (F : Stop.Interp) :
  ReturnsInHanded {} Tryz.checked os 5 .any ((OpenSpec.ofChange Rows.codecDamageSpec).preRow enc Tryz.prog Tryz.f5 Rows.codecDamageRow.domain false Rows.codecDamageRow.laid) (((OpenSpec.ofChange Rows.codecDamageSpec).at F).post enc Tryz.prog Tryz.f5 false true false false) := by
 obtain ⟨x, hx⟩ := reads os enc
 refine returnsInHanded_of_row (C := Tryz.checked) (s := OpenSpec.ofChange Rows.codecDamageSpec) own started (by kernel_rfl) Tryz.func5
  (witness_row_at (enc := enc) (C := Tryz.checked) false (x8 os) #[.agg z30, .int .i64 0, .int .i64 0, .int .i64 0, .int .u32 0, .int .i64 0] rfl (by kernel_rfl) (by kernel_rfl) (by kernel_rfl)
   (OpenSpec.preRow_of_cond 8 hx (by kernel_rfl) (fun k hk => by cases hk) (by kernel_rfl) (pv os))) ?_
 intro W base args ds gs before hval hW _ _ _ hL _ _
 exact contract H enc W base args ds gs before hval hW hL
theorem said : Rows.CodecDamageSaid :=
 OpenClaim.holds_of_cond 5 Tryz.f5 rfl rfl rfl rfl rfl rfl rfl ⟨rfl, rfl, rfl, rfl, rfl⟩ rfl rfl rfl rfl rfl (by kernel_rfl) Tryz.func5 (by kernel_rfl)
  (of_decide_eq_true (by kernel_rfl)) (by unfold Func.isWrapper; first | (rw [if_pos (by decide +kernel)]; kernel_rfl) | (rw [if_neg (by decide +kernel)]; exact ⟨rfl, rfl⟩))
  (fun os started H enc _ F => by rw [OpenClaim.pre_eq_preRow]; exact lifted os started H enc F)
theorem plain (f : FuncId) (fn : Func) (hf : Tryz.pinned.checked.prog.funcNamed "twine/twinelaw6.CodecDamage" = some f) (hfn : Tryz.pinned.checked.prog.funcs[f]? = some fn) :
  true = Tryz.pinned.checked.prog.looks [] ∧ ∀ (j : Nat) t, fn.params[j]? = some t → Tryz.pinned.checked.prog.wantsStandIn t = false := by
 obtain rfl : f = 5 := Option.some.inj ((show Tryz.prog.funcNamed "twine/twinelaw6.CodecDamage" = some 5 by kernel_rfl).symm.trans hf) |>.symm
 obtain rfl : fn = Tryz.f5 := (Option.some.inj (Tryz.func5.symm.trans hfn)).symm
 refine ⟨by kernel_rfl, fun j t ht => ?_⟩
 rw [Tryz.params5] at ht
 have h : t = 30 ∨ t = 3 ∨ t = 3 ∨ t = 3 ∨ t = 56 ∨ t = 3 := by simpa using Array.mem_of_getElem? ht
 rcases h with rfl | rfl | rfl | rfl | rfl | rfl
 ·exact (show Tryz.prog.wantsStandIn 30 = false by kernel_rfl)
 ·exact (show Tryz.prog.wantsStandIn 3 = false by kernel_rfl)
 ·exact (show Tryz.prog.wantsStandIn 3 = false by kernel_rfl)
 ·exact (show Tryz.prog.wantsStandIn 3 = false by kernel_rfl)
 ·exact (show Tryz.prog.wantsStandIn 56 = false by kernel_rfl)
 ·exact (show Tryz.prog.wantsStandIn 3 = false by kernel_rfl)
end Go.Proofs.YtjikkhbcbfpocaaGreatDoor.DamR
namespace Go.Proofs.YtjikkhbcbfpocaaGreatDoor
theorem codecDamage_card : Rows.CodecDamageCardSaid :=
 Claim7.holds_tied_plain_at .later [] _ _ _ _ DamR.said (fun _ h => by cases h) (by kernel_rfl) (fun _ h => by cases h) codecDamage_row_tie rfl ⟨rfl, rfl⟩ (by kernel_rfl) rfl DamR.plain (by kernel_rfl)
#print axioms codecDamage_card
end Go.Proofs.YtjikkhbcbfpocaaGreatDoor
