import Derived.Test.YtjikkhbcbfpocaaGreatDoorUD
set_option maxRecDepth 100000
set_option maxHeartbeats 8000000
namespace Go.Proofs.YtjikkhbcbfpocaaGreatDoor
open Go.RowKit
def F.nz : F → Prop
 | .nil => True
 | .cons _ v _ ks r => v.kind ≠ 0 ∧ ks.nz ∧ r.nz
theorem F.nz_drop : ∀ (f : F) (k : Nat), f.nz → (f.drop k).nz
 | f, 0, h => by rw [F.drop_zero]; exact h
 | .nil, k + 1, h => h
 | .cons _ _ _ _ r, k + 1, h => by show (r.drop k).nz; exact F.nz_drop r k h.2.2
def sr (ks : F) : Prop := ∀ (nm : ByteArray) (v : Vd) (m : Md) (c : Array Value) (w : World), HasN w c nm v m ks → v.kind ≠ 0 → ks.nz → ks.size ≤ 100000 →
  Calls Tryz.prog 12 #[.agg c] w fun e w' => e = .returned (.int .i64 ((1 + ks.size : Nat) : Int)) ∧ Below w.heap.size w w'
theorem count12 : ∀ (N : Nat) (ks : F), ks.size < N → sr ks := by
 intro N
 induction N with
 | zero => intro f h; omega
 | succ N ih =>
  intro ks hN nm v m c w ⟨kv, hc, hS⟩ hk hz hl
  obtain ⟨L, hL⟩ : ∃ L, ks.len = L := ⟨_, rfl⟩
  obtain ⟨a, cap, rfl, _⟩ := hS.form
  have hl' : L ≤ 100000 := by have := ks.len_le_size; omega
  have LB := jR w c 30
  have B1 : Below w.heap.size w (w.alloc (.cells c 30)) := (Below.refl _ w).alloc (Nat.le_refl _) _
  obtain ⟨H, hH⟩ : ∃ H, w.heap.size = H := ⟨_, rfl⟩
  have HH : Hid (w.heap.size = H ∧ ks.len = L ∧ HasS w (.slice a L cap) ks ∧ c = nc nm v m (.slice a L cap) ∧ ks.size < N + 1 ∧ ks.size ≤ 100000 ∧ ks.nz) := ⟨hH, hL, by rw [hL] at hS; exact hS, by rw [hL] at hc; exact hc, hN, hl, hz⟩
  have HIH : Hid (∀ ks : F, ks.size < N → sr ks) := ih
  have bk : (v.kind == 0) = false := by simpa using hk
  obtain ⟨S, hS2⟩ : ∃ S, ks.size = S := ⟨_, rfl⟩
  have hS3 : S ≤ 100000 := by omega
  have HSZ := hid hS2
  rw [hS2]
  clear hS hc hH hL hN ih hz hl hS2
  go_enter Tryz.func12, Tryz.ntmps12
  go_upto_region 1 with fail
  generalize w.alloc (.cells c 30) = w1 at *
  rw [HH.o.1] at LB ⊢
  have LC : Lies w1 H 0 (nc nm v m (.slice a L cap)) := by rw [← HH.o.2.2.2.1]; exact LB
  have c40 := y9 LC
  have c1 : w1.cell? ⟨H, 1, none⟩ = some (.int .i64 v.kind) := by have := j7 LC 1 _ (by simp [nc, vx]; rfl); exact this
  rw [Nat.zero_add] at c40
  have HB : Hid (Below w.heap.size w w1) := B1
  clear LB LC B1
  go_wp2_with fail
  go_loopw [3, 4] (fun s i wr => ∃ k n : Nat, s = .int .i64 n ∧ i = .int .i64 k ∧ k ≤ L ∧ n ≤ 100001 ∧ wr.cell? ⟨H, 40, none⟩ = some (.slice a L cap) ∧ Hid (n + (ks.drop k).size = 1 + S ∧ Below w.heap.size w wr)) (fun _ i _ => L - iOf i)
  case atStart => exact ⟨0, 1, rfl, rfl, Nat.zero_le _, by omega, c40, by rw [F.drop_zero, HSZ.o], HB.o⟩
  case round =>
   obtain ⟨k, n, rfl, rfl, hk1, hn, q1, HI⟩ := hrel
   clear c40 c1
   by_cases hlt : k < L
   ·have hltI : (k : Int) < (L : Int) := by omega
    obtain ⟨g, o, cp, nm1, v1, m1, ks1, c1, hv1, hd1, hN1, hc1⟩ := HH.o.2.2.1.at (k := k) (by rw [HH.o.2.1]; exact hlt)
    obtain rfl : a = some ⟨g, o, none⟩ := by injection hv1
    clear hv1
    have hks := F.kids_size hd1
    have hsd : (ks.drop k).size = 1 + ks1.size + (ks.drop (k + 1)).size := by rw [hd1]; simp only [F.size]; omega
    have hnz := F.nz_drop ks k HH.o.2.2.2.2.2.2
    rw [hd1] at hnz
    have hq := HI.o.1
    have hz1 : ks1.size ≤ 100000 := by omega
    have hn2 : n + 1 + ks1.size ≤ 100001 := by omega
    have CC := HIH.o ks1 (by have := HH.o.2.2.2.2.1; omega) nm1 v1 m1 c1 wr (hN1.below HI.o.2) hnz.1 hnz.2.1 hz1
    have s1 : c1.size = 41 := by obtain ⟨kv1, rfl, _⟩ := hN1; exact jE ..
    have HL : Hid (Lies wr g (o + k * 41) c1 ∧ c1.size = 41 ∧ n + 1 + ks1.size + (ks.drop (k + 1)).size = 1 + S ∧ Below w.heap.size w wr) := ⟨Lies.below hc1 HI.o.2, s1, by omega, HI.o.2⟩
    have HD := hid hd1
    generalize ks1.size = z1 at *
    clear hd1 hN1 hc1 HI hks hsd hnz hq s1
    go_wp2_with (first
     | (with_reducible refine j0 (.agg c1) ?_ ?_; exact jB _ rfl g (o + k * 41) rfl c1 HL.o.2.1 HL.o.1)
     | (go_at_call 12; refine CC.mono ?_; rintro e w2 ⟨rfl, b2⟩; replace q1 := qV b2 q1; have HB2 := hid b2; clear b2 CC))
    go_roundw
    case rel => exact ⟨k + 1, n + 1 + z1, by go_num, by go_num, by omega, by omega, q1, HL.o.2.2.1, Below.trans (B := w.heap.size) HL.o.2.2.2 (HB2.o.mono HL.o.2.2.2.size)⟩
    case measure => simp; omega
   ·have hltI : ¬ (k : Int) < (L : Int) := by omega
    have HF : Hid (n = 1 + S) := by
     have h1 := HI.o.1
     rw [F.ye ks k (by rw [HH.o.2.1]; omega)] at h1
     exact h1
    have HB2 : Hid (Below w.heap.size w wr) := HI.o.2
    clear HI
    go_wp2_with fail
    go_ret
    exact ⟨by rw [HF.o]; rfl, HB2.o⟩
open Go.Shelf
theorem ni (c : Array Value) (nm : ByteArray) (v : Vd) (m : Md) (ks : F) (w : World) (hN : HasN w c nm v m ks) (hnm : nm.size ≤ 9223372036854775807) (hok : ks.ok) (hlen : ks.len ≤ 9223372036854775807) :
  Calls Tryz.prog 31 #[.agg c] w fun e w' => ∃ n : Int, e = .returned (.bool (decide (0 ≤ n))) ∧ (0 ≤ n → 1 + nm.size + ks.weight ≤ 20000) ∧ G w w' := by
 have hcs : c.size = 41 := by obtain ⟨_, rfl, _⟩ := hN; exact jE ..
 have hG0 : G w (w.alloc (.cells c 30)) := G.alloc _ _
 have HN := hid (⟨hN.below hG0, Var.new w c, hG0⟩ : HasN (w.alloc (.cells c 30)) c nm v m ks ∧ Var (w.alloc (.cells c 30)) w.heap.size c ∧ G w (w.alloc (.cells c 30)))
 have HO := hid (⟨hnm, hlen, hok⟩ : _ ∧ _ ∧ _)
 clear hN hG0 hnm hok hlen
 go_enter Tryz.func31, Tryz.ntmps31
 go_upto_region 1 with fail
 generalize w.alloc (.cells c 30) = w1 at *
 generalize w.heap.size = B0 at *
 go_wp2_with fail
 refine (oD w1).mono ?_
 rintro e w2 ⟨rfl, hC, bl⟩
 have HC := hid (⟨hC, bl⟩ : qE w2 w1.heap.size 20000 ∧ Below w1.heap.size w1 w2)
 have hl : Lies w2 B0 0 c := (HN.o.2.1.grow bl).lies
 have HL := hid hl
 clear hC bl hl
 have C2 := gW w1 c nm v m ks HN.o.1 ⟨HO.o.1, HO.o.2.1, HO.o.2.2⟩ (lK w1 (ks.size + 1) ks (Nat.lt_succ_self _)) w2 w1.heap.size 20000 HC.o.2 (Nat.le_refl _) HC.o.1
 have HGG := hid (⟨HN.o.2.2, HC.o.2⟩ : G w w1 ∧ G w1 w2)
 obtain ⟨C, hCC⟩ : ∃ C, w1.heap.size = C := ⟨_, rfl⟩
 rw [hCC] at C2 ⊢
 have HCC := hid hCC
 clear hCC
 go_wp2_with ((with_reducible refine j0 (.agg c) ?_ ?_); exact jB _ rfl B0 0 rfl c hcs HL.o)
 refine C2.mono ?_
 rintro e w3 ⟨⟨b2, rfl⟩, n2, hC2, l2, bl2⟩
 have C3 := pv C n2 w3 hC2
 have HF := hid (⟨l2, bl2⟩ : _ ∧ _)
 clear C2 hC2 l2 bl2
 go_wp2_with fail
 refine C3.mono ?_
 rintro e w4 ⟨rfl, e3⟩
 subst e3
 clear C3
 go_wp2_with fail
 go_ret
 refine ⟨n2, rfl, fun h => ?_, ?_⟩
 ·have := HF.o.1 h
  omega
 ·have h1 := HGG.o.1.size
  have h2 := HGG.o.2.size
  have h3 := HCC.o
  exact Below.trans (B := w.heap.size) HGG.o.1 (Below.trans (B := w.heap.size) (Below.mono HGG.o.2 h1) (But.below HF.o.2 (by omega) (by omega)))
theorem qx {P : Program} {fn : Func} {u p : Tmp} {ty : TypeId} (h : fn.results = #[.tmp u, .cell p ty]) (tmps : Array Value) (w : World) (g : Nat) (t : TypeId) (cs : Array Value) (fr : Nat × Nat) (d : TypeDesc)
  (hp : tmps.getD p undef = .pointer (some ⟨g, 0, none⟩)) (hg : w.heap[g]? = some (.cells cs t fr)) (hu : P.underlying ty = some d) (hd : (match d with | .struct _ | .array _ _ => true | _ => false) = true) (hi : (P.info? ty).map (·.size) = some cs.size) :
  (results fn tmps).run P w = .ok (.tuple #[tmps.getD u undef, .agg cs]) w := by
 have hp' : tmps[p]?.getD undef = .pointer (some ⟨g, 0, none⟩) := by simpa using hp
 simp [results, h, hp', asAddr, run_loadVar_row w g t ty cs fr d hg hu hd hi]
theorem At.other {w w' : World} {B : Nat} {s : ByteArray} {x : Int} (h0 : w.cell? ⟨B, 0, none⟩ = some (.string s)) (h1 : w.cell? ⟨B, 1, none⟩ = some (.int .i64 x)) (hb : ∀ b, b ≠ B → w'.heap[b]? = w.heap[b]?) : ∀ {k : K} {u : Value}, At w k u → At w' k u
 | .nil, _, h => h
 | .node q p nm v m kk ah be, _, ⟨e, pk, pa, pb, ⟨h2, h3⟩, h4, h5, h6⟩ => by
  have c1 := j7 h2 1 (.pointer (some ⟨p, 0, none⟩)) rfl
  have c2 := j7 h3 0 (.int .i64 v.kind) rfl
  refine ⟨e, pk, pa, pb, ⟨h2.same (hb _ fun e => ?_), h3.same (hb _ fun e => ?_)⟩, At.other h0 h1 hb h4, At.other h0 h1 hb h5, At.other h0 h1 hb h6⟩
  ·rw [e, h1] at c1; cases c1
  ·rw [e, h0] at c2; cases c2
theorem AtT.other {w w' : World} {B p : Nat} {v : Vd} {m : Md} {k : K} (h : AtT w p v m k) {s : ByteArray} {x : Int} (z0 : w.cell? ⟨B, 0, none⟩ = some (.string s)) (z1 : w.cell? ⟨B, 1, none⟩ = some (.int .i64 x)) (hb : ∀ b, b ≠ B → w'.heap[b]? = w.heap[b]?) : AtT w' p v m k := by
 obtain ⟨pk, h1, h2⟩ := h
 have c2 := j7 h1 0 (.int .i64 v.kind) rfl
 refine ⟨pk, h1.same (hb _ fun e => ?_), h2.other z0 z1 hb⟩
 rw [e, z0] at c2; cases c2
def Grn (lo : Nat) (v : Vd) (m : Md) (ks : F) (wt : Nat) (e : Ending) (w' : World) : Prop :=
 (∃ c', e = .returned (.tuple #[.pointer none, .agg c']) ∧ c'.size = 41 ∧ c'.all (·.oneCell') = true) ∨
 (∃ p k c', e = .returned (.tuple #[.pointer (some ⟨p, 0, none⟩), .agg c']) ∧ AtT w' p v m k ∧ k.flat = ks ∧ (∃ P : Nat → Prop, (∀ b, P b → lo ≤ b) ∧ kV w' P c' ⟨#[]⟩ v m ks) ∧ v.kind = 1 ∧ qg v m ks = 0 ∧ wt ≤ 20000)
theorem nj (c : Array Value) (nm : ByteArray) (v : Vd) (m : Md) (ks : F) (w : World) (hN : HasN w c nm v m ks) (hnm : nm.size ≤ 9223372036854775807) (hok : ks.ok) (hlen : ks.len ≤ 9223372036854775807) :
  Calls Tryz.prog 10 #[.agg c] w fun e w' => G w w' ∧ Grn w.heap.size v m ks (1 + nm.size + ks.weight) e w' := by
 obtain ⟨hsz, hco⟩ : c.size = 41 ∧ c.all (·.oneCell') = true := by
  obtain ⟨_, rfl, a, cap, rfl, _⟩ := hN
  exact ⟨jE .., qM _ _ _ _ rfl⟩
 have hV1 := (Var.new w c).grow (G.alloc (w.alloc (.cells c 30)) (.cells z30 30))
 have hV2 := Var.new (w.alloc (.cells c 30)) z30
 rw [World.size_alloc] at hV2
 have hG1 : G w ((w.alloc (.cells c 30)).alloc (.cells z30 30)) := (G.alloc _ _).trans (G.alloc _ _)
 have CF := ni c nm v m ks _ (hN.below hG1) hnm hok hlen
 have q1 := j7 hV1.lies 1 (.int .i64 v.kind) (by obtain ⟨_, rfl, _⟩ := hN; exact zF ..)
 have H1 := hid (⟨⟨hV1, hV2⟩, hG1, hN.below hG1⟩ : (Var ((w.alloc (.cells c 30)).alloc (.cells z30 30)) w.heap.size c ∧ Var ((w.alloc (.cells c 30)).alloc (.cells z30 30)) (w.heap.size + 1) z30) ∧ G w ((w.alloc (.cells c 30)).alloc (.cells z30 30)) ∧ HasN ((w.alloc (.cells c 30)).alloc (.cells z30 30)) c nm v m ks)
 clear hN hV1 hV2 hG1 hnm hok hlen
 go_enter Tryz.func10, Tryz.ntmps10
 go_upto_region 1 with (with_reducible refine jA (.pointer (some ⟨(w.alloc (.cells c 30)).heap.size, 0, none⟩)) ((w.alloc (.cells c 30)).alloc (.cells z30 30)) ?_ ?_; exact qY rfl _)
 try simp only [Act.put, sA, sB, sC, World.size_alloc]
 generalize (w.alloc (.cells c 30)).alloc (.cells z30 30) = w1 at *
 obtain ⟨B, hB⟩ : ∃ B, w.heap.size = B := ⟨_, rfl⟩
 rw [hB] at H1 q1 ⊢
 have HB : Hid (w.heap.size = B) := hB
 clear hB
 go_wp2_with ((with_reducible refine j0 (.agg c) ?_ ?_); exact jB _ rfl B 0 rfl c hsz H1.o.1.1.lies)
 refine CF.mono ?_
 rintro e w2 ⟨n, rfl, hn, hg2⟩
 have H2 := hid (⟨H1.o.1.1.grow hg2, H1.o.1.2.grow hg2⟩ : Var w2 B c ∧ Var w2 (B + 1) z30)
 have HG2 := hid (⟨H1.o.2.1.trans hg2, H1.o.2.2.below hg2⟩ : G w w2 ∧ HasN w2 c nm v m ks)
 have HW := hid hn
 replace q1 := hg2.cell q1
 clear hn hg2 H1 CF
 by_cases h0 : 0 ≤ n
 case neg =>
  have b0 : decide (0 ≤ n) = false := by simpa using h0
  rw [b0]
  clear b0 h0 q1
  go_upto_region 2 with fail
  refine wp_region_held_drew (S := fun w' => Var w' B c) (by kernel_rfl) ((H2.o.1).grow (G.drew w2)) (fun hS => ?_)
  have HV := hid (H2.o.2.grow (G.drew w2))
  have HG := hid (HG2.o.1.trans (G.drew w2))
  generalize w2.drew = wd at *
  refine ji 0 15 (.agg c) hS (fun wz hz => ?_) ?_
  ·exact jB _ rfl B 0 rfl c hsz hz.lies
  refine ji 1 2 (.pointer none) hS (fun wz hz => ?_) ?_
  ·rfl
  refine pf 2 (wd.setRow (B + 1) c) rfl rfl (by kernel_rfl) (by kernel_rfl) (jG _ _ rfl (B + 1) _ z30 rfl rfl _ HV.o hsz jL hco) ((setRow_other _ (B + 1) B _ (by omega)).trans hS) ?_
  refine wpAnyH_done (by kernel_rfl) ?_ _
  go_wp2_with fail
  refine bodyPost_ret (qx rfl _ _ (B + 1) 30 c (0, 0) _ rfl HV.o.set qB rfl (by rw [qc, hsz])) rfl ?_
  exact ⟨Below.trans (B := w.heap.size) HG.o ⟨rfl, rfl, rfl, by simp, fun b hb => setRow_other _ (B + 1) b _ (by have := HB.o; omega)⟩, .inl ⟨c, rfl, hsz, hco⟩⟩
 have b0 : decide (0 ≤ n) = true := by simpa using h0
 rw [b0]
 have HWT := hid (HW.o h0)
 clear HW b0 h0
 by_cases h1 : v.kind = 1
 case neg =>
  have b1 : (v.kind != 1) = true := by simpa using h1
  have HK := hid h1
  clear h1
  go_upto_region 2 with fail
  refine wp_region_held_drew (S := fun w' => Var w' B c) (by kernel_rfl) ((H2.o.1).grow (G.drew w2)) (fun hS => ?_)
  have HV := hid (H2.o.2.grow (G.drew w2))
  have HG := hid (HG2.o.1.trans (G.drew w2))
  generalize w2.drew = wd at *
  refine ji 0 15 (.agg c) hS (fun wz hz => ?_) ?_
  ·exact jB _ rfl B 0 rfl c hsz hz.lies
  refine ji 1 2 (.pointer none) hS (fun wz hz => ?_) ?_
  ·rfl
  refine pf 2 (wd.setRow (B + 1) c) rfl rfl (by kernel_rfl) (by kernel_rfl) (jG _ _ rfl (B + 1) _ z30 rfl rfl _ HV.o hsz jL hco) ((setRow_other _ (B + 1) B _ (by omega)).trans hS) ?_
  refine wpAnyH_done (by kernel_rfl) ?_ _
  go_wp2_with fail
  refine bodyPost_ret (qx rfl _ _ (B + 1) 30 c (0, 0) _ rfl HV.o.set qB rfl (by rw [qc, hsz])) rfl ?_
  exact ⟨Below.trans (B := w.heap.size) HG.o ⟨rfl, rfl, rfl, by simp, fun b hb => setRow_other _ (B + 1) b _ (by have := HB.o; omega)⟩, .inl ⟨c, rfl, hsz, hco⟩⟩
 have HK := hid h1
 rw [h1] at q1
 clear h1
 have CO := dS c nm v m ks w2 HG2.o.2 (by have := HWT.o; omega)
 go_wp2_with ((with_reducible refine j0 (.agg c) ?_ ?_); exact jB _ rfl B 0 rfl c hsz H2.o.1.lies)
 refine CO.mono ?_
 rintro e w3 ⟨u, rfl, hg3, hr⟩
 replace H2 := hid (⟨H2.o.1.grow hg3, H2.o.2.grow hg3⟩ : Var w3 B c ∧ Var w3 (B + 1) z30)
 replace HG2 := hid (HG2.o.1.trans hg3)
 clear hg3 CO q1
 obtain ⟨ce, hce⟩ : ∃ ce, qg v m ks = ce := ⟨_, rfl⟩
 rw [hce] at hr ⊢
 rcases hr with ⟨h0, rfl⟩ | ⟨h0, p, k, rfl, hA, hfl, _, _⟩
 ·have b1 : (ce != 0) = true := by simpa using h0
  clear hce h0
  go_upto_region 5 with fail
  refine wp_region_held_drew (S := fun w' => Var w' B c) (by kernel_rfl) ((H2.o.1).grow (G.drew w3)) (fun hS => ?_)
  have HV := hid (H2.o.2.grow (G.drew w3))
  have HG := hid (HG2.o.trans (G.drew w3))
  generalize w3.drew = wd at *
  refine ji 0 27 (.agg c) hS (fun wz hz => ?_) ?_
  ·exact jB _ rfl B 0 rfl c hsz hz.lies
  refine ji 1 2 (.pointer none) hS (fun wz hz => ?_) ?_
  ·rfl
  refine pf 2 (wd.setRow (B + 1) c) rfl rfl (by kernel_rfl) (by kernel_rfl) (jG _ _ rfl (B + 1) _ z30 rfl rfl _ HV.o hsz jL hco) ((setRow_other _ (B + 1) B _ (by omega)).trans hS) ?_
  refine wpAnyH_done (by kernel_rfl) ?_ _
  go_wp2_with fail
  refine bodyPost_ret (qx rfl _ _ (B + 1) 30 c (0, 0) _ rfl HV.o.set qB rfl (by rw [qc, hsz])) rfl ?_
  exact ⟨Below.trans (B := w.heap.size) HG.o ⟨rfl, rfl, rfl, by simp, fun b hb => setRow_other _ (B + 1) b _ (by have := HB.o; omega)⟩, .inl ⟨c, rfl, hsz, hco⟩⟩
 ·subst h0
  subst hfl
  have HX := hid (⟨hA, hce⟩ : _ ∧ _)
  have CN := yN _ k (Nat.lt_succ_self _) p v m w3 hA (by have := HWT.o; have := F.size_le_weight k.flat; omega)
  clear hA hce
  go_wp2_with (first
   | (go_at_call 15; refine CN.mono ?_; rintro e w4 ⟨c4, rfl, hn4, hg4⟩; have hs4 : c4.size = 41 ∧ c4.all (·.oneCell') = true := hn4.facts; have H4 := hid (⟨H2.o.2.grow hg4, hn4, HG2.o.trans hg4, HX.o.1.grow hg4, by have h8 := hg4.size; have h9 := H2.o.2.lt; omega⟩ : Var w4 (B + 1) z30 ∧ kV w4 (NewC w3 w4) c4 ⟨#[]⟩ v m k.flat ∧ G w w4 ∧ AtT w4 p v m k ∧ B + 1 < w4.heap.size); clear hn4 hg4 CN)
   | ((with_reducible refine j8 (w4.setRow (B + 1) c4) ?_ ?_); exact jG _ _ rfl (B + 1) _ z30 rfl rfl _ H4.o.1 hs4.1 jL hs4.2))
  refine bodyPost_ret (qx rfl _ _ (B + 1) 30 c4 (0, 0) _ rfl H4.o.1.set qB rfl (by rw [qc, hs4.1])) rfl ?_
  obtain ⟨h1, ⟨kv, e4, h2⟩, h3, h4, h5⟩ := H4.o
  have h6 : B + 1 < w3.heap.size := H2.o.2.lt
  refine ⟨Below.trans (B := w.heap.size) h3 ⟨rfl, rfl, rfl, by simp, fun b hb => setRow_other _ (B + 1) b _ (by have := HB.o; omega)⟩, .inr ⟨p, k, c4, rfl, ?_, rfl, ?_, HK.o, HX.o.2, HWT.o⟩⟩
  ·exact h4.other (j7 h1.lies 0 (.string ⟨#[]⟩) rfl) (j7 h1.lies 1 (.int .i64 0) rfl) fun b hb => setRow_other _ (B + 1) b _ hb
  ·exact ⟨NewC w3 w4, fun b hb => by have := hb.1; have := HB.o; omega, kv, e4, h2.keep fun b hb => ⟨setRow_other _ (B + 1) b _ (by have := hb.1; omega), hb⟩⟩
attribute [local go_sem] Oper.semAt_some
theorem tv {n : Nat} (h1 : 1 ≤ n) (h3 : n ≤ 3) {v : Vd} {m : Md} {ks : F} (hk : v.kind = 1) (hc : qg v m ks = 0) (hB : Su.Bytes v.sum) (hb : bytF ks) (hw : ks.weight ≤ 20000) : Ar n (wrV n v) m (wrF n ks) := by
 refine ⟨h1, h3, ?_, ?_, ⟨fun q => ?_, tD _ _⟩, ?_, ?_, ?_⟩
 ·unfold wrV; split
  ·rw [oO]; exact hk
  ·exact hk
 ·unfold wrV wrF; split
  ·exact ai hc
  ·exact hc
 ·unfold wrV unkV
  rw [if_pos q, if_neg (by rw [hk]; decide)]
 ·unfold wrV; split
  ·rw [lw]; exact hB
  ·exact hB
 ·unfold wrF; split
  ·exact ge lw hb
  ·exact hb
 ·unfold wrF; split
  ·rw [F.mp_weight]; exact hw
  ·exact hw
theorem aM (ver : Int) (f : F) : (wrF ver f).size = f.size := by
 unfold wrF; split
 ·exact F.mp_size ..
 ·rfl
theorem gu (ver : Int) (f : F) : (drF ver f).size = f.size := by unfold drF; rw [F.mp_size, aM]
theorem sH : ∀ {f : F}, gOk f → f.nz
 | .nil, _ => trivial
 | .cons _ v _ ks r, h => ⟨by have := h.2.1.1; omega, sH h.2.2.1, sH h.2.2.2⟩
theorem oo (u : Value) {ver : Nat} {v : Vd} {m : Md} {ks : F} {most : Int} (W : World) (h : Ar ver v m ks) (hb : bnd most < 1 + ks.size) (hu : Su.Has W u (arcW ver v m ks)) (hTb : Su.Tabs W) (hTh : Su.Half W) (hE : ErrT W) (h1 : 1 < W.heap.size) :
  Calls Tryz.prog 13 #[u, .int .i64 most] W fun e w' => ∃ fb, e = .returned (.tuple #[.pointer none, .int .i64 0, .iface 72 (.pointer (some ⟨fb, 0, none⟩))]) ∧ G W w' ∧ w'.heap[fb]? = some (.cells (fc 5 ⟨#[]⟩ 64) 93 (0, 0)) := by
 have hl := h.len
 have hz := h.sz
 have d4 := oN h.h1 h.h3 (v := v) (m := m) hb (by omega)
 obtain ⟨_, d1, _⟩ := xQ h.h1 h.h3 v m ks
 refine (xP u _ most W hu h.bytes hTh hTb hE h1 (by omega) (fun _ => .inl (gi h.h1 h.h3 hz)) fun _ q => by rw [d4] at q; cases q).mono ?_
 rintro e w' ⟨hg, hp⟩
 rcases hp with ⟨x, q, _⟩ | ⟨_, ⟨x, q, fb, q1, q2⟩ | ⟨q, _⟩⟩
 ·rw [d1] at q; cases q
 ·rw [d4] at q; cases q
  exact ⟨fb, q1, hg, q2⟩
 ·rw [d4] at q; cases q
theorem oq (c : Array Value) (nm : ByteArray) (v : Vd) (m : Md) (ks : F) (w : World) (ver most other : Int) (hN : HasN w c nm v m ks) (hnm : nm.size ≤ 9223372036854775807) (hok : ks.ok) (hlen : ks.len ≤ 9223372036854775807) (hB : Su.Bytes v.sum) (hb : bytF ks)
  (hTb : Su.Tabs w) (hTh : Su.Half w) (hE : ErrT w) (h1 : 1 < w.heap.size) : Calls Tryz.prog 6 #[.agg c, .int .i64 ver, .int .i64 most, .int .i64 other] w fun e w' => e = .returned (.bool true) ∧ G w w' := by
 have hsz : c.size = 41 := by obtain ⟨_, rfl, _⟩ := hN; exact jE ..
 have hV := Var.new w c
 have hG0 : G w (w.alloc (.cells c 30)) := G.alloc _ _
 have CK := mf (w.alloc (.cells c 30)) (hTb.up hG0) (hTh.below hG0 (by omega)) (hE.up hG0) (by simp; omega)
 have q0 := j7 hV.lies 0 (.string nm) (by obtain ⟨_, rfl, _⟩ := hN; exact kL ..)
 have q1 := j7 hV.lies 1 (.int .i64 v.kind) (by obtain ⟨_, rfl, _⟩ := hN; exact zF ..)
 have HH := hid (⟨hV, hG0, hN.below hG0, q0, q1⟩ : Var (w.alloc (.cells c 30)) w.heap.size c ∧ G w (w.alloc (.cells c 30)) ∧ HasN (w.alloc (.cells c 30)) c nm v m ks ∧ _ ∧ _)
 have HX := hid (⟨⟨hnm, hok, hlen⟩, ⟨hB, hb⟩, hTb, hTh, hE, h1⟩ : (_ ∧ _ ∧ _) ∧ (_ ∧ _) ∧ _ ∧ _ ∧ _ ∧ _)
 clear hV hG0 hN q0 q1 hnm hok hlen hB hb hTb hTh hE h1
 go_enter Tryz.func6, Tryz.ntmps6
 go_upto_region 1 with fail
 generalize w.alloc (.cells c 30) = w1 at *
 obtain ⟨B, hBB⟩ : ∃ B, w.heap.size = B := ⟨_, rfl⟩
 rw [hBB] at HH ⊢
 have HB := hid hBB
 clear hBB
 go_upto_region 3 with (go_at_call 9; refine CK.mono ?_; rintro e w2 ⟨rfl, hg2⟩; have H2 := hid (⟨HH.o.1.grow hg2, HH.o.2.1.trans hg2, HH.o.2.2.1.below hg2, hg2.cell HH.o.2.2.2.1, hg2.cell HH.o.2.2.2.2⟩ : Var w2 B c ∧ G w w2 ∧ HasN w2 c nm v m ks ∧ _ ∧ _); clear hg2 CK HH)
 go_wp2_with ((with_reducible refine j0 (.agg c) ?_ ?_); exact jB _ rfl B 0 rfl c hsz H2.o.1.lies)
 refine (nj c nm v m ks w2 H2.o.2.2.1 HX.o.1.1 HX.o.1.2.1 HX.o.1.2.2).mono ?_
 rintro e w3 ⟨hg3, hgr⟩
 have H3 := hid (⟨H2.o.1.grow hg3, H2.o.2.1.trans hg3, hg3.cell H2.o.2.2.2.1, hg3.cell H2.o.2.2.2.2⟩ : Var w3 B c ∧ G w w3 ∧ _ ∧ _)
 have hs2 : B < w2.heap.size := H2.o.1.lt
 clear hg3
 have hSR : ∀ c4, G w (w3.setRow B c4) := fun c4 => Below.trans (B := w.heap.size) H3.o.2.1 ⟨rfl, rfl, rfl, by simp, fun b hb => setRow_other _ B b _ (by have := HB.o; omega)⟩
 rcases hgr with ⟨c4, rfl, hs4, ho4⟩ | ⟨p, k, c4, rfl, hA, hfl, ⟨P, hP, hn4⟩, hk1, hc0, hwt⟩
 ·have HSR := hid (hSR c4)
  clear hSR
  go_wp2_with ((with_reducible refine j8 (w3.setRow B c4) ?_ ?_); exact jG _ _ rfl B _ c rfl rfl _ H3.o.1 hs4 hsz ho4)
  go_ret
  exact ⟨rfl, HSR.o⟩
 ·subst hfl
  obtain ⟨hs4, ho4⟩ := hn4.facts
  have hA4 : AtT (w3.setRow B c4) p v m k := hA.other H3.o.2.2.1 H3.o.2.2.2 fun b hb => setRow_other _ B b _ hb
  have hN4 : HasN (w3.setRow B c4) c4 ⟨#[]⟩ v m k.flat := by
   obtain ⟨kv, e4, h2⟩ := hn4
   exact kV.has (P := P) ⟨kv, e4, h2.keep fun b hb => ⟨setRow_other _ B b _ (by have := hP b hb; omega), hb⟩⟩
  have hG4 := hSR c4
  have hV4 : Var (w3.setRow B c4) B c4 := H3.o.1.set
  have hcc := d7 (qF hc0).1 HX.o.2.1.1
  have hgg := yr (qF hc0).2 HX.o.2.1.2
  have hw2 : k.flat.weight ≤ 20000 := by omega
  have hz2 : k.flat.size ≤ 20000 := Nat.le_trans (F.size_le_weight _) hw2
  have CE := hid (fun (ver : Int) => xh p v m k (w3.setRow B c4) ver 1048576 hA4 hcc hgg.1 hgg.2 (by omega) (by omega) (ai hc0) (HX.o.2.2.1.up hG4) (HX.o.2.2.2.1.below hG4 (by have := HX.o.2.2.2.2.2; omega)))
  have H4 := hid (⟨hV4, hG4, hN4⟩ : _ ∧ _ ∧ _)
  have HK := hid (⟨hk1, hc0, hw2, hz2, sH hgg.1⟩ : v.kind = 1 ∧ qg v m k.flat = 0 ∧ k.flat.weight ≤ 20000 ∧ k.flat.size ≤ 20000 ∧ k.flat.nz)
  have hz3 := hz2
  clear hA hn4 hP hk1 hc0 hwt hA4 hN4 hG4 hV4 hcc hgg hw2 hz2 hs2 hSR
  by_cases hv : ver < 1 ∨ 3 < ver
  ·clear CE hz3
   rcases hv with hv | hv
   ·have b1 : decide (ver < 1) = true := by simpa using hv
    go_wp2_with ((with_reducible refine j8 (w3.setRow B c4) ?_ ?_); exact jG _ _ rfl B _ c rfl rfl _ H3.o.1 hs4 hsz ho4)
    go_ret
    exact ⟨rfl, H4.o.2.1⟩
   ·have b1 : decide (ver < 1) = false := by simp; omega
    have b3 : decide (ver > 3) = true := by simpa using hv
    go_wp2_with ((with_reducible refine j8 (w3.setRow B c4) ?_ ?_); exact jG _ _ rfl B _ c rfl rfl _ H3.o.1 hs4 hsz ho4)
    go_ret
    exact ⟨rfl, H4.o.2.1⟩
  ·obtain ⟨n, rfl⟩ : ∃ n : Nat, ver = n := ⟨ver.toNat, by omega⟩
   have h0 : encE n v.kind (1 + k.flat.size : Nat) 1048576 = 0 := by
    unfold encE
    rw [if_neg hv, if_neg (by rw [HK.o.1]; simp), if_neg (by omega)]
   have hAr := tv (n := n) (by omega) (by omega) HK.o.1 HK.o.2.1 HX.o.2.1.1 HX.o.2.1.2 HK.o.2.2.1
   have hvv : (n : Int) = 3 ∨ (n : Int) = 2 ∨ (n : Int) = 1 := by omega
   have b1 : decide ((n : Int) < 1) = false := by simp; omega
   have b3 : decide ((n : Int) > 3) = false := by simp; omega
   have HAr := hid (⟨hAr, h0, hvv⟩ : _ ∧ _ ∧ _)
   clear hv h0 hAr hvv
   obtain ⟨ver, hver⟩ : ∃ ver : Int, (n : Int) = ver := ⟨_, rfl⟩
   rw [hver] at b1 b3 ⊢
   have HV := hid hver
   have CE2 := CE.o ver
   clear hver CE
   go_wp2_with ((with_reducible refine j8 (w3.setRow B c4) ?_ ?_); exact jG _ _ rfl B _ c rfl rfl _ H3.o.1 hs4 hsz ho4)
   generalize w3.setRow B c4 = w4 at *
   refine CE2.mono ?_
   clear CE2 H3 H2
   rintro e w5 (⟨hne, _, _⟩ | ⟨_, u, rfl, hu, hg5⟩)
   ·exact absurd (by rw [← HV.o]; exact HAr.o.2.1) hne
   have hlen : (arcW ver.toNat (wrV ver v) m (wrF ver k.flat)).length ≤ 350 * (1 + k.flat.size) := by
    have h := HAr.o.1.len
    rw [aM] at h
    rw [← HV.o, Int.toNat_natCast]
    exact h
   obtain ⟨ua, ul, uc, rfl, hul⟩ : ∃ a l cap, u = .slice a l cap ∧ l = (arcW ver.toNat (wrV ver v) m (wrF ver k.flat)).length := by
    rcases hu.has with ⟨e1, e2⟩ | ⟨a, cap, e1, _, _⟩
    ·exact ⟨_, _, _, e1, by rw [e2]; rfl⟩
    ·exact ⟨_, _, _, e1, rfl⟩
   have HC : Hid (∀ W, G w4 W → Calls Tryz.prog 12 #[.agg c4] W fun e w' => e = .returned (.int .i64 ((1 + k.flat.size : Nat) : Int)) ∧ Below W.heap.size W w') := fun W hg =>
    count12 _ k.flat (Nat.lt_succ_self _) ⟨#[]⟩ v m c4 W (H4.o.2.2.below hg) (by rw [HK.o.1]; decide) HK.o.2.2.2.2 (by have := HK.o.2.2.2.1; omega)
   obtain ⟨cn, hcn⟩ : ∃ cn : Int, ((1 + k.flat.size : Nat) : Int) = cn := ⟨_, rfl⟩
   have hc1 : 1 ≤ cn ∧ cn ≤ 20001 := by omega
   have bl : decide ((ul : Int) > 400 * cn + 16) = false := by simp; omega
   have bc : decide (cn > 1048576) = false := by simp; omega
   have hul9 : (ul : Int) ≤ 9223372036854775807 := by omega
   rw [hcn] at HC
   have HCN := hid hcn
   have HG5 := hid hg5
   have HDr : Hid (∀ W, G w5 W → Calls Tryz.prog 16 #[.agg c4, .int .i64 ver] W fun e w' => ∃ c', e = .returned (.agg c') ∧ HasN w' c' ⟨#[]⟩ (wrV ver v) (mz ver m) (drF ver k.flat) ∧ G W w') := fun W hg =>
    gM c4 ⟨#[]⟩ v m k.flat W ver (by rw [← HV.o]; exact HAr.o.2.2) (H4.o.2.2.below (hg5.trans hg)) (by have := HK.o.2.2.1; omega)
   have hokL : Hid (F.okL (drF ver k.flat)) := by show _ ≤ _; rw [gu]; have := HK.o.2.2.2.1; omega
   have HU : Hid (∀ W, G w5 W → (Su.Has W (.slice ua ul uc) (arcW n (wrV n v) m (wrF n k.flat)) ∧ Su.Tabs W ∧ Su.Half W ∧ ErrT W ∧ 1 < W.heap.size)) := fun W hg => by
    have hGW := (H4.o.2.1.trans hg5).trans hg
    have hh := hu.has.below hg
    rw [← HV.o, Int.toNat_natCast] at hh
    exact ⟨hh, HX.o.2.2.1.up hGW, HX.o.2.2.2.1.below hGW (by have := HX.o.2.2.2.2.2; omega), HX.o.2.2.2.2.1.up hGW, by have := hGW.size; have := HX.o.2.2.2.2.2; omega⟩
   have HD : Hid (∀ (kk : Int) W, G w5 W → cn ≤ min (max kk 1) 1048576 → Calls Tryz.prog 13 #[.slice ua ul uc, .int .i64 kk] W fun e w' => ∃ p k', e = .returned (.tuple #[.pointer (some ⟨p, 0, none⟩), .int .i64 ver, .nilIface]) ∧ G W w' ∧ AtT w' p (wrV ver v) (mz ver m) k' ∧ k'.flat = drF ver k.flat) := fun kk W hg hk => by
    obtain ⟨a1, a2, a3, a4, a5⟩ := HU.o W hg
    have h := gj (.slice ua ul uc) (most := kk) W HAr.o.1 (by rw [aM]; have := fR kk; have := HCN.o; omega) a1 a2 a3 a4 a5
    rw [HV.o] at h
    exact h
   have HE : Hid (∀ (kk : Int) W, G w5 W → ¬ cn ≤ min (max kk 1) 1048576 → Calls Tryz.prog 13 #[.slice ua ul uc, .int .i64 kk] W fun e w' => ∃ fb, e = .returned (.tuple #[.pointer none, .int .i64 0, .iface 72 (.pointer (some ⟨fb, 0, none⟩))]) ∧ G W w' ∧ w'.heap[fb]? = some (.cells (fc 5 ⟨#[]⟩ 64) 93 (0, 0))) := fun kk W hg hk => by
    obtain ⟨a1, a2, a3, a4, a5⟩ := HU.o W hg
    exact oo (.slice ua ul uc) (most := kk) W HAr.o.1 (by rw [aM]; have := fR kk; have := HCN.o; omega) a1 a2 a3 a4 a5
   have HTo : Hid (∀ (W : World), Calls Tryz.prog 17 #[.nilIface] W fun x w' => x = .returned (.tuple #[.agg #[.int .i64 0, .string ⟨#[]⟩, .int .i64 0], .bool true]) ∧ G W w') := fun W => oa W
   have HTs : Hid (∀ (fb : Nat) (W : World), W.heap[fb]? = some (.cells (fc 5 ⟨#[]⟩ 64) 93 (0, 0)) → Calls Tryz.prog 17 #[.iface 72 (.pointer (some ⟨fb, 0, none⟩))] W fun x w' => x = .returned (.tuple #[.agg #[.int .i64 5, .string ⟨#[]⟩, .int .i64 64], .bool true]) ∧ G W w') := fun fb W h => eM fb 5 64 _ W h (by decide)
   have HGw := hid (H4.o.2.1.trans hg5)
   have HV5 := hid (H4.o.1.grow hg5)
   clear hcn hu hg5 hlen hul hz3
   go_upto_region 12 with (first
    | ((with_reducible refine j0 (.agg c4) ?_ ?_); exact jB _ rfl B 0 rfl c4 hs4 HV5.o.lies)
    | (go_at_call 12; refine (HC.o _ HG5.o).mono ?_; rintro e w6 ⟨rfl, hg6⟩; have HG6 := hid hg6; clear hg6))
   have HV6 : Hid (Var w6 B c4 ∧ G w5 w6) := ⟨HV5.o.grow HG6.o, HG6.o⟩
   clear HG5 HC HV5 HG6 bl bc
   have q0 := j7 (jR w6 #[.int .i64 most, .int .i64 other] 3) 0 (.int .i64 most) rfl
   have q1 := j7 (jR w6 #[.int .i64 most, .int .i64 other] 3) 1 (.int .i64 other) rfl
   replace HV6 := hid (⟨HV6.o.1.grow (G.alloc w6 (.cells #[.int .i64 most, .int .i64 other] 3)), HV6.o.2.trans (G.alloc w6 (.cells #[.int .i64 most, .int .i64 other] 3))⟩ : Var (w6.alloc (.cells #[.int .i64 most, .int .i64 other] 3)) B c4 ∧ G w5 (w6.alloc (.cells #[.int .i64 most, .int .i64 other] 3)))
   go_wp2_with fail
   generalize w6.alloc (.cells #[.int .i64 most, .int .i64 other] 3) = w7 at *
   generalize w6.heap.size = gg at *
   go_loopw [63] (fun i wr => ∃ j : Nat, i = .int .i64 j ∧ j ≤ 2 ∧ wr.cell? ⟨gg, 0, none⟩ = some (.int .i64 most) ∧ wr.cell? ⟨gg, 1, none⟩ = some (.int .i64 other) ∧ Hid (Var wr B c4 ∧ G w5 wr)) (fun i _ => 2 - iOf i)
   case atStart => exact ⟨0, rfl, by omega, q0, q1, HV6.o⟩
   case round =>
    clear q0 q1 HV6
    obtain ⟨j, rfl, hj, q0, q1, HI⟩ := hrel
    by_cases hlt : j < 2
    ·have hltI : (j : Int) < 2 := by omega
     obtain ⟨kk, hkk⟩ : ∃ kk, wr.cell? ⟨gg, j, none⟩ = some (.int .i64 kk) := by
      rcases (by omega : j = 0 ∨ j = 1) with rfl | rfl
      ·exact ⟨_, q0⟩
      ·exact ⟨_, q1⟩
     have CD := hid (HD.o kk wr HI.o.2)
     have CE := hid (HE.o kk wr HI.o.2)
     obtain ⟨mn, hmn⟩ : ∃ mn : Int, min (max kk 1) 1048576 = mn := ⟨_, rfl⟩
     rw [hmn] at CD CE
     have HMN := hid hmn
     by_cases hcm : cn ≤ mn
     ·have bm : decide (cn ≤ mn) = true := by simpa using hcm
      replace CD := hid (CD.o hcm)
      clear CE hcm
      go_upto_region 18 with (first
       | (go_at_call 13; refine CD.o.mono ?_; rintro e wa ⟨p2, k2, rfl, hga, hAa, hfa⟩; have H7 := hid (⟨hga, hAa, hfa⟩ : G wr wa ∧ AtT wa p2 (wrV ver v) (mz ver m) k2 ∧ k2.flat = drF ver k.flat); clear hga hAa hfa CD)
       | (go_at_call 17; refine (HTo.o _).mono ?_; rintro e wb ⟨rfl, hgb⟩; have HGb : Hid (G wa (wb.alloc (.cells #[.int .i64 0, .string ⟨#[]⟩, .int .i64 0] 49))) := G.trans hgb (G.alloc _ _); clear hgb))
      generalize wb.alloc (.cells #[.int .i64 0, .string ⟨#[]⟩, .int .i64 0] 49) = wc at *
      have HNo : Hid (∀ W, G wc.drew W → Calls Tryz.prog 15 #[.pointer (some ⟨p2, 0, none⟩)] W fun e w' => ∃ c', e = .returned (.agg c') ∧ HasN w' c' ⟨#[]⟩ (wrV ver v) (mz ver m) (drF ver k.flat) ∧ G W w') := fun W hg => by
       have h5 := yN _ k2 (Nat.lt_succ_self _) p2 _ _ W (H7.o.2.1.grow ((HGb.o.trans (G.drew wc)).trans hg)) (by rw [H7.o.2.2, gu]; have := HK.o.2.2.2.1; omega)
       rw [H7.o.2.2] at h5
       exact h5.mono fun e w' ⟨c', h6, h7, h8⟩ => ⟨c', h6, h7.has, h8⟩
      have HG0 : Hid (G wr wc.drew) := (H7.o.1.trans HGb.o).trans (G.drew wc)
      have HG := hid (HI.o.2.trans HG0.o)
      have HDx : Hid (∀ W, G wc.drew W → Calls Tryz.prog 16 #[.agg c4, .int .i64 ver] W fun e w' => ∃ c', e = .returned (.agg c') ∧ HasN w' c' ⟨#[]⟩ (wrV ver v) (mz ver m) (drF ver k.flat) ∧ G W w') := fun W hg => HDr.o W (HG.o.trans hg)
      have HVd := hid (HI.o.1.grow HG0.o)
      refine wp_region_held_drew (S := fun w' => Var w' B c4 ∧ G wc.drew w') (by kernel_rfl) ⟨HVd.o, G.refl _⟩ (fun hS => ?_)
      generalize wc.drew = wd at *
      clear H7 HGb HVd HI
      refine ji 0 84 (.pointer (some ⟨p2, 0, none⟩)) hS (fun wz hz => ?_) ?_
      ·rfl
      refine ji 1 85 (.bool false) hS (fun wz hz => ?_) ?_
      ·go_simp
      refine ji 2 86 (.bool false) hS (fun wz hz => ?_) ?_
      ·go_simp
      refine ji 3 87 (.int .i64 ver) hS (fun wz hz => ?_) ?_
      ·rfl
      refine ji 4 88 (.int .i64 ver) hS (fun wz hz => ?_) ?_
      ·rfl
      refine ji 5 89 (.bool false) hS (fun wz hz => ?_) ?_
      ·go_simp
      refine ji 6 90 (.bool false) hS (fun wz hz => ?_) ?_
      ·go_simp
      refine ji 7 91 (.bool false) hS (fun wz hz => ?_) ?_
      ·go_simp
      refine ji 8 92 (.nilIface) hS (fun wz hz => ?_) ?_
      ·rfl
      refine ji 9 93 (.bool false) hS (fun wz hz => ?_) ?_
      ·go_simp
      refine ji 10 94 (.bool false) hS (fun wz hz => ?_) ?_
      ·go_simp
      refine ji 11 95 (.bool false) hS (fun wz hz => ?_) ?_
      ·go_simp
      refine ji 12 96 (.pointer (some ⟨p2, 0, none⟩)) hS (fun wz hz => ?_) ?_
      ·rfl
      refine ji 14 98 (.agg c4) hS (fun wz hz => ?_) ?_
      ·exact jB _ rfl B 0 rfl c4 hs4 hz.1.lies
      refine ji 15 99 (.int .i64 ver) hS (fun wz hz => ?_) ?_
      ·rfl
      refine pd 13 97 15 #[.pointer (some ⟨p2, 0, none⟩)] rfl rfl (by kernel_rfl) (by kernel_rfl) (by go_simp) ?_
      refine (HNo.o _ hS.2).mono ?_
      rintro e w7 ⟨cN, rfl, hnN, hgN⟩
      have hS7 : Var w7 B c4 ∧ G wd w7 := ⟨hS.1.grow hgN, hS.2.trans hgN⟩
      refine ⟨_, rfl, hS7, ?_⟩
      try simp only [Act.put, sA, sB, sC]
      refine pd 16 100 16 #[.agg c4, .int .i64 ver] rfl rfl (by kernel_rfl) (by kernel_rfl) (by go_simp) ?_
      refine (HDx.o _ hS7.2).mono ?_
      rintro e w8 ⟨cD, rfl, hnD, hgD⟩
      have hS8 : Var w8 B c4 ∧ G wd w8 := ⟨hS7.1.grow hgD, hS7.2.trans hgD⟩
      refine ⟨_, rfl, hS8, ?_⟩
      try simp only [Act.put, sA, sB, sC]
      refine pd 17 101 14 #[.agg cN, .agg cD] rfl rfl (by kernel_rfl) (by kernel_rfl) (by go_simp) ?_
      refine (ej cN cD _ _ _ _ _ (hnN.below hgD) hnD hokL.o).mono ?_
      rintro e w9 ⟨rfl, hg9⟩
      have hS9 : Var w9 B c4 ∧ G wd w9 := ⟨hS8.1.grow hg9, hS8.2.trans hg9⟩
      refine ⟨_, rfl, hS9, ?_⟩
      try simp only [Act.put, sA, sB, sC]
      refine ji 18 102 (.bool false) hS9 (fun wz hz => ?_) ?_
      ·go_simp
      refine ji 19 103 (.bool false) hS9 (fun wz hz => ?_) ?_
      ·go_simp
      refine wpAnyH_done (by kernel_rfl) ?_ _
      have HF := hid (⟨hS9.1, HG.o.trans hS9.2⟩ : Var w9 B c4 ∧ G w5 w9)
      replace q0 := (HG0.o.trans hS9.2).cell q0
      replace q1 := (HG0.o.trans hS9.2).cell q1
      clear hS hS7 hS8 hS9 hnN hnD hgN hgD hg9
      go_wp2_with fail
      go_roundw
      case rel => exact ⟨j + 1, by go_num, by omega, q0, q1, HF.o⟩
      case measure => simp; omega
     ·have bm : decide (cn ≤ mn) = false := by simpa using hcm
      replace CE := hid (CE.o (by omega))
      clear CD hcm
      go_wp2_with (first
       | (go_at_call 13; refine CE.o.mono ?_; rintro e wa ⟨fb, rfl, hga, hfa⟩; have H7 := hid (⟨hga, hfa⟩ : _ ∧ _); clear hga hfa CE)
       | (go_at_call 17; refine (HTs.o fb _ H7.o.2).mono ?_; rintro e wb ⟨rfl, hgb⟩; have HGb : Hid (G wr (wb.alloc (.cells #[.int .i64 5, .string ⟨#[]⟩, .int .i64 64] 49))) := G.trans H7.o.1 (G.trans hgb (G.alloc _ _)); clear hgb))
      go_roundw
      case rel => exact ⟨j + 1, by go_num, by omega, HGb.o.cell q0, HGb.o.cell q1, HI.o.1.grow HGb.o, HI.o.2.trans HGb.o⟩
      case measure => simp; omega
    ·obtain rfl : j = 2 := by omega
     go_wp2_with fail
     go_ret
     exact ⟨rfl, HGw.o.trans HI.o.2⟩
end Go.Proofs.YtjikkhbcbfpocaaGreatDoor
namespace Go.Proofs.YtjikkhbcbfpocaaGreatDoor.MostR
open Go.ChangeShapes Go.WideShapes Go.ChangeAt Go.RowKit Fr6
theorem contract (H : Type) (enc : TypeId × Value → H) (W : World) (base : Nat) (args : Array Value) (ds gs : List (DataW H)) (before : List MemPlace)
  (hval : ∀ (j : Nat) t v, Tryz.f6.params[j]? = some t → args[j]? = some v → Value.okWide Tryz.prog W .any base t v)
  (hW : DataW.Whole enc Tryz.prog Tryz.f6.params.toList Rows.codecMostSpec.vars false W args.toList ds gs before) (hL : laidMetH Tryz.prog Rows.codecMostRow.laid W) :
  Calls Tryz.prog 6 args W fun e W' => ∃ v, e = .returned v ∧ Rows.codecMostSpec.post enc Tryz.prog Tryz.f6 false true false false W args v W' := by
 have hW' := hW
 obtain ⟨p, q, hA0, hV, rfl, hfz, hnd⟩ := hW
 have hA : DataW.TrodAll enc Tryz.prog W 0 (fun _ => true) true Tryz.f6.params.toList args.toList ds p := hA0
 rw [Tryz.params6] at hA hval
 obtain ⟨v0, vs0, d0, ds0, p0, q0, hargs, rfl, rfl, h0, r0⟩ := trodAll_cons hA
 obtain ⟨v1, vs1, d1, ds1, p1, q1, rfl, rfl, rfl, h1, r1⟩ := trodAll_cons r0
 obtain ⟨v2, vs2, d2, ds2, p2, q2, rfl, rfl, rfl, h2, r2⟩ := trodAll_cons r1
 obtain ⟨v3, vs3, d3, ds3, p3, q3, rfl, rfl, rfl, h3, r3⟩ := trodAll_cons r2
 obtain ⟨rfl, rfl, rfl⟩ := trodAll_nil r3
 obtain rfl : args = #[v0, v1, v2, v3] := by cases args; simp_all
 obtain ⟨rfl, rfl⟩ := trodVars_none hV
 obtain ⟨c0, rfl, hc0⟩ := okWide_struct qB (hval 0 30 v0 rfl rfl)
 obtain ⟨a1, rfl, rfl, rfl, w1⟩ := open_int Tryz.underlying3 (hval 1 3 v1 rfl rfl) h1
 obtain ⟨a2, rfl, rfl, rfl, w2⟩ := open_int Tryz.underlying3 (hval 2 3 v2 rfl rfl) h2
 obtain ⟨a3, rfl, rfl, rfl, w3⟩ := open_int Tryz.underlying3 (hval 3 3 v3 rfl rfl) h3
 have k0 := h0
 have lt0 : ∀ x ∈ p0, x.block < W.heap.size := by obtain ⟨m, hm⟩ := k0; exact DataW.trod_lt m _ _ _ hm
 obtain ⟨fuel, hf⟩ := h0
 obtain ⟨⟨nm, v, m, ks⟩, kv, hcs, hS, hnm, hok, hlen, hb1, hb2⟩ := sP fuel _ _ hf
 have hcc : c0 = nc nm v m kv := by
  have h1 : c0.toList = (nc nm v m kv).toList := hcs
  exact Array.toList_inj.1 h1
 clear hA0
 obtain ⟨hTb, hTh, hE⟩ := sG hL
 refine (oq c0 nm v m ks W a1 a2 a3 ⟨kv, hcc, hS⟩ hnm hok hlen hb1 hb2 hTb hTh hE (by have := hTb.size; omega)).mono fun e W' ⟨he, bel⟩ => ?_
 subst he
 exact ⟨_, rfl, _, _, _, [], _, [], hW', trodAll_mk1 (shut_bool Tryz.underlying4 _), (trodAll_cons_mk (Below.trod laidOut (by kernel_rfl) (of_decide_eq_true (by kernel_rfl)) k0 bel lt0) (trodAll_cons_mk (shut_int Tryz.underlying3 w1) (trodAll_cons_mk (shut_int Tryz.underlying3 w2) (trodAll_cons_mk (shut_int Tryz.underlying3 w3) trodAll_mk0)))), rfl, bel.frame _, fun h => by cases h⟩
theorem ot (os : Os) : laidMetH Tryz.prog Rows.codecMostRow.laid ((x8 os).forCall (fun _ _ => 0) ⟨#[], #[.agg z30, .int .i64 0, .int .i64 0, .int .i64 0], []⟩).memory := laid4 os _
theorem reads (os : Os) {H : Type} (enc : TypeId × Value → H) : ∃ x, DataW.whole enc Tryz.prog ((x8 os).forCall (fun _ _ => 0) ⟨#[], #[.agg z30, .int .i64 0, .int .i64 0, .int .i64 0], []⟩).memory Tryz.f6.params.toList Rows.codecMostSpec.vars false #[Value.agg z30, .int .i64 0, .int .i64 0, .int .i64 0].toList 8 = some x :=
 Option.isSome_iff_exists.1 (by kernel_rfl)
theorem lifted (os : Os) (started : os.Started) (H : Type) (enc : TypeId × Value → H) (F : Stop.Interp) :
  ReturnsInHanded {} Tryz.checked os 6 .any ((OpenSpec.ofChange Rows.codecMostSpec).preRow enc Tryz.prog Tryz.f6 Rows.codecMostRow.domain false Rows.codecMostRow.laid) (((OpenSpec.ofChange Rows.codecMostSpec).at F).post enc Tryz.prog Tryz.f6 false true false false) := by
 obtain ⟨x, hx⟩ := reads os enc
 refine returnsInHanded_of_row (C := Tryz.checked) (s := OpenSpec.ofChange Rows.codecMostSpec) own started (by kernel_rfl) Tryz.func6
  (witness_row_at (enc := enc) (C := Tryz.checked) false (x8 os) #[.agg z30, .int .i64 0, .int .i64 0, .int .i64 0] rfl (by kernel_rfl) (by kernel_rfl) (by kernel_rfl)
   (OpenSpec.preRow_of_cond 8 hx (by kernel_rfl) (fun k hk => by cases hk) (by kernel_rfl) (ot os))) ?_
 intro W base args ds gs before hval hW _ _ _ hL _ _
 exact contract H enc W base args ds gs before hval hW hL
theorem said : Rows.CodecMostSaid :=
 OpenClaim.holds_of_cond 6 Tryz.f6 rfl rfl rfl rfl rfl rfl rfl ⟨rfl, rfl, rfl, rfl, rfl⟩ rfl rfl rfl rfl rfl (by kernel_rfl) Tryz.func6 (by kernel_rfl)
  (of_decide_eq_true (by kernel_rfl)) (by unfold Func.isWrapper; first | (rw [if_pos (by decide +kernel)]; kernel_rfl) | (rw [if_neg (by decide +kernel)]; exact ⟨rfl, rfl⟩))
  (fun os started H enc _ F => by rw [OpenClaim.pre_eq_preRow]; exact lifted os started H enc F)
theorem plain (f : FuncId) (fn : Func) (hf : Tryz.pinned.checked.prog.funcNamed "twine/twinelaw6.CodecMost" = some f) (hfn : Tryz.pinned.checked.prog.funcs[f]? = some fn) :
  true = Tryz.pinned.checked.prog.looks [] ∧ ∀ (j : Nat) t, fn.params[j]? = some t → Tryz.pinned.checked.prog.wantsStandIn t = false := by
 obtain rfl : f = 6 := Option.some.inj ((show Tryz.prog.funcNamed "twine/twinelaw6.CodecMost" = some 6 by kernel_rfl).symm.trans hf) |>.symm
 obtain rfl : fn = Tryz.f6 := (Option.some.inj (Tryz.func6.symm.trans hfn)).symm
 refine ⟨by kernel_rfl, fun j t ht => ?_⟩
 rw [Tryz.params6] at ht
 have h : t = 30 ∨ t = 3 ∨ t = 3 ∨ t = 3 := by simpa using Array.mem_of_getElem? ht
 rcases h with rfl | rfl | rfl | rfl
 ·exact (show Tryz.prog.wantsStandIn 30 = false by kernel_rfl)
 ·exact (show Tryz.prog.wantsStandIn 3 = false by kernel_rfl)
 ·exact (show Tryz.prog.wantsStandIn 3 = false by kernel_rfl)
 ·exact (show Tryz.prog.wantsStandIn 3 = false by kernel_rfl)
end Go.Proofs.YtjikkhbcbfpocaaGreatDoor.MostR
namespace Go.Proofs.YtjikkhbcbfpocaaGreatDoor
theorem codecMost_card : Rows.CodecMostCardSaid :=
 Claim7.holds_tied_plain_at .later [] _ _ _ _ MostR.said (fun _ h => by cases h) (by kernel_rfl) (fun _ h => by cases h) codecMost_row_tie rfl ⟨rfl, rfl⟩ (by kernel_rfl) rfl MostR.plain (by kernel_rfl)
#print axioms codecMost_card
end Go.Proofs.YtjikkhbcbfpocaaGreatDoor
