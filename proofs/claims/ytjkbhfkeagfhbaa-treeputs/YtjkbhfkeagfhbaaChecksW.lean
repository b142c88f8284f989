/-
  TreeChecks: the walk.
-/
import Derived.Test.YtjkbhfkeagfhbaaChecks0
import Derived.Test.YtjkbhfkeagfhbaaAlike
namespace Go.Proofs.Ytjkbhfkeagfhbaa
open Go.RowKit

/-- what the law holds in its hands -/
structure Fx (w wb : World) (R B0 B4 : Nat) (s : Sg) (S : Nat → Prop) (c c4 : Array Value) (nm : ByteArray) (v : Vd) (m : Md) (kv : Value) (ks : F) : Prop where
  v0 : Var w B0 c
  nb : HasN wb c nm v m ks
  bw : Below R wb w
  br : wb.heap.size = R
  v4 : Var w B4 c4
  e4 : c4 = nc nm v m kv
  sd : HasSD w S kv ks
  sl : ∀ b, S b → R ≤ b ∧ b < B4
  rm : RM w R s
  lt : B0 < R
  ln : s.ls.length ≤ 60000
theorem Fx.grow {w w' wb : World} {R B0 B4 : Nat} {s : Sg} {S : Nat → Prop} {c c4 : Array Value} {nm : ByteArray} {v : Vd} {m : Md} {kv : Value} {ks : F} (h : Fx w wb R B0 B4 s S c c4 nm v m kv ks) (hg : G w w') : Fx w' wb R B0 B4 s S c c4 nm v m kv ks :=
  ⟨h.v0.grow hg, h.nb, h.bw.trans (hg.mono (Nat.le_of_lt (h.rm.lt (.inl (.inl rfl))))), h.br, h.v4.grow hg, h.e4, h.sd.keep fun b hb => ⟨hg.block b (by have := h.sl b hb; have := h.v4.lt; omega), hb⟩, h.sl, h.rm.grow hg, h.lt, h.ln⟩
theorem Fx.n0 {w wb : World} {R B0 B4 : Nat} {s : Sg} {S : Nat → Prop} {c c4 : Array Value} {nm : ByteArray} {v : Vd} {m : Md} {kv : Value} {ks : F} (h : Fx w wb R B0 B4 s S c c4 nm v m kv ks) : HasN w c nm v m ks := h.nb.below (by rw [h.br]; exact h.bw)
theorem Fx.n4 {w wb : World} {R B0 B4 : Nat} {s : Sg} {S : Nat → Prop} {c c4 : Array Value} {nm : ByteArray} {v : Vd} {m : Md} {kv : Value} {ks : F} (h : Fx w wb R B0 B4 s S c c4 nm v m kv ks) : HasN w c4 nm v m ks := ⟨kv, h.e4, h.sd.has⟩
theorem Fx.z {w wb : World} {R B0 B4 : Nat} {s : Sg} {S : Nat → Prop} {c c4 : Array Value} {nm : ByteArray} {v : Vd} {m : Md} {kv : Value} {ks : F} (h : Fx w wb R B0 B4 s S c c4 nm v m kv ks) : c.size = 41 ∧ c4.size = 41 := by
  refine ⟨?_, by rw [h.e4]; exact nc_size ..⟩
  obtain ⟨_, rfl, _⟩ := h.nb
  exact nc_size ..
/-- what it holds once the lists are written over -/
structure Gx (w : World) (B0 B4 : Nat) (c c4 : Array Value) (nm : ByteArray) (v : Vd) (m : Md) (ks fs : F) : Prop where
  v0 : Var w B0 c
  n0 : HasN w c nm v m ks
  v4 : Var w B4 c4
  n4 : HasN w c4 nm v m fs
theorem Gx.grow {w w' : World} {B0 B4 : Nat} {c c4 : Array Value} {nm : ByteArray} {v : Vd} {m : Md} {ks fs : F} (h : Gx w B0 B4 c c4 nm v m ks fs) (hg : G w w') : Gx w' B0 B4 c c4 nm v m ks fs := ⟨h.v0.grow hg, h.n0.below hg, h.v4.grow hg, h.n4.below hg⟩
theorem Gx.z {w : World} {B0 B4 : Nat} {c c4 : Array Value} {nm : ByteArray} {v : Vd} {m : Md} {ks fs : F} (h : Gx w B0 B4 c c4 nm v m ks fs) : c.size = 41 ∧ c4.size = 41 := by
  obtain ⟨_, ⟨_, rfl, _⟩, _, ⟨_, rfl, _⟩⟩ := h
  exact ⟨nc_size .., nc_size ..⟩
theorem OfRes.grow {w w' : World} {u : Value} {E : Int} {v : Vd} {m : Md} {ks : F} (h : OfRes w u E v m ks) (hg : G w w') : OfRes w' u E v m ks := h.imp id fun ⟨h1, p, k, h2, h3, h4⟩ => ⟨h1, p, k, h2, h3.grow hg, h4⟩
theorem Fx.spoilt {w w' wb : World} {R B0 B4 : Nat} {s : Sg} {S : Nat → Prop} {c c4 : Array Value} {nm : ByteArray} {v : Vd} {m : Md} {kv : Value} {ks : F} {u : Value} {E : Int} (h : Fx w wb R B0 B4 s S c c4 nm v m kv ks) (hs : Spl (fun b => S b ∧ Rw w b) w w') (hk : HasS w' kv (F.bangs ks.len)) (hu : OfRes w u E v m ks) :
    Gx w' B0 B4 c c4 nm v m ks (F.bangs ks.len) ∧ OfRes w' u E v m ks ∧ Below R w w' := by
  have hb : ∀ b, ¬ S b → w'.heap[b]? = w.heap[b]? := fun b hb => hs.block b fun e => hb e.1
  have hB : Below R w w' := ⟨hs.os, hs.tape, hs.output, Nat.le_of_eq hs.size.symm, fun b hlt => hb b fun e => by have := (h.sl b e).1; omega⟩
  refine ⟨⟨(hb B0 fun e => by have := (h.sl _ e).1; have := h.lt; omega).trans h.v0, h.nb.below (by rw [h.br]; exact h.bw.trans hB), (hb B4 fun e => by have := (h.sl _ e).2; omega).trans h.v4, ⟨kv, h.e4, hk⟩⟩, hu.imp id fun ⟨h1, p, k, h2, h3, h4⟩ => ⟨h1, p, k, h2, h3.keepR fun b hr => hs.block b fun e => hr e.2, h4⟩, hB⟩
theorem alike_yes {w : World} {p : Nat} {v : Vd} {m : Md} {k : K} {nm : ByteArray} {ks : F} {c : Array Value} (hT : AtT w p v m k) (hk : k.flat = ks) (hN : HasN w c nm v m ks) (hw : ks.weight ≤ 100000) : Calls Try.prog 11 #[.pointer (some ⟨p, 0, none⟩), .agg c] w fun e w' => e = .returned (.bool true) ∧ G w w' := by
  have := alike_any p v v m m k nm ks c w hT (by rw [hk]; have := F.size_le_weight ks; omega) hN hw
  rw [decide_eq_true ⟨rfl, rfl, hk⟩] at this
  exact this
theorem OfRes.form {w : World} {u : Value} {E : Int} {v : Vd} {m : Md} {ks : F} (h : OfRes w u E v m ks) : u = .pointer none ∨ ∃ p, u = .pointer (some ⟨p, 0, none⟩) := by
  rcases h with ⟨_, h⟩ | ⟨_, p, _, h, _⟩
  · exact .inl h
  · exact .inr ⟨p, h⟩
theorem alike_res {w : World} {p : Nat} {E : Int} {v : Vd} {m : Md} {nm : ByteArray} {ks : F} {c : Array Value} (h : OfRes w (.pointer (some ⟨p, 0, none⟩)) E v m ks) (hN : HasN w c nm v m ks) (hw : ks.weight ≤ 100000) : Calls Try.prog 11 #[.pointer (some ⟨p, 0, none⟩), .agg c] w fun e w' => e = .returned (.bool true) ∧ G w w' := by
  rcases h with ⟨_, h⟩ | ⟨_, p', k, h, hT, hk⟩
  · cases h
  · cases h
    exact alike_yes hT hk hN hw
theorem sameNode_yes {w : World} {nm : ByteArray} {v : Vd} {m : Md} {ks : F} {c d : Array Value} (hc : HasN w c nm v m ks) (hd : HasN w d nm v m ks) (hw : ks.weight ≤ 100000) : Calls Try.prog 12 #[.agg c, .agg d] w fun e w' => e = .returned (.bool true) ∧ G w w' := by
  have hl : ks.okL := by have := F.size_le_weight ks; unfold F.okL; omega
  have := sameNode_any nm nm v v m m ks ks c d w hc hd hl hl
  rw [decide_eq_true ⟨rfl, rfl, rfl, rfl⟩] at this
  exact this
theorem one_slice {w : World} {c : Array Value} {nm : ByteArray} {v : Vd} {m : Md} {ks : F} (hN : HasN w c nm v m ks) : HasS (w.alloc (.cells c 30)) (.slice (some ⟨w.heap.size, 0, none⟩) 1 1) (.cons nm v m ks .nil) := by
  obtain ⟨kv, rfl, hS⟩ := hN
  obtain ⟨a, cap, rfl, hl, hk⟩ := hS.below (G.alloc w (.cells (nc nm v m kv) 30))
  exact ⟨_, 1, rfl, Nat.le_refl _, .inr ⟨w.heap.size, 0, rfl, ⟨a, cap, lies_new w _ 30, hl, hk⟩, trivial⟩⟩

set_option maxRecDepth 100000 in
set_option maxHeartbeats 4000000 in
theorem checks_walk (c : Array Value) (nm : ByteArray) (v : Vd) (m : Md) (ks : F) (w : World) (hN : HasN w c nm v m ks) (hnm : nm.size ≤ 9223372036854775807) (hok : ks.ok) (hlen : ks.len ≤ 9223372036854775807) :
    Calls Try.prog 3 #[.agg c] w fun e w' => e = .returned (.bool true) ∧ G w w' := by
  have hcs : c.size = 41 := by obtain ⟨_, rfl, _⟩ := hN; exact nc_size ..
  have hG0 : G w (w.alloc (.cells c 30)) := G.alloc _ _
  have hV0 := Var.new w c
  have HN : Hid (HasN (w.alloc (.cells c 30)) c nm v m ks ∧ Var (w.alloc (.cells c 30)) w.heap.size c ∧ G w (w.alloc (.cells c 30))) := ⟨hN.below hG0, hV0, hG0⟩
  have HO : Hid (nm.size ≤ 9223372036854775807 ∧ ks.ok ∧ ks.len ≤ 9223372036854775807) := ⟨hnm, hok, hlen⟩
  clear hN hnm hok hlen hG0 hV0
  go_enter Try.func3, Try.ntmps3
  go_upto_region 1 with fail
  generalize w.alloc (.cells c 30) = w1 at *
  obtain ⟨B0, hB0⟩ : ∃ B, w.heap.size = B := ⟨_, rfl⟩
  have HB0 := hid hB0
  rw [hB0] at HN ⊢
  clear hB0
  go_wp2_with (first
    | (with_reducible refine wpList_exec (.agg c) ?_ ?_ ?_; exact exec_load30 _ rfl B0 0 rfl c hcs HN.out.2.1.lies; kernel_rfl)
    | (with_reducible refine wpList_execW (.slice (some ⟨w1.heap.size, 0, none⟩) 1 1) (w1.alloc (.cells c 30)) ?_ ?_ ?_; exact exec_slice1 _ rfl c rfl hcs _; kernel_rfl))
  refine (few_any _ (.cons nm v m ks .nil) _ (one_slice HN.out.1) ⟨HO.out.1, HO.out.2.2, HO.out.2.1, trivial⟩ (by simp [F.len])).mono ?_
  rintro e w2 ⟨q, rfl, hq, b2⟩
  have HQ := hid hq
  have HG2 : Hid (G w1 w2) := (G.alloc w1 (.cells c 30)).trans b2
  clear hq b2
  by_cases hq0 : 0 ≤ q
  case neg =>
    rw [decide_eq_false hq0]
    go_wp2
    go_ret
    exact ⟨rfl, HN.out.2.2.trans HG2.out⟩
  have hw : nm.size + ks.weight ≤ 20000 := by
    have := HQ.out hq0
    simp only [F.weight] at this
    omega
  have hws := F.size_le_weight ks
  rw [decide_eq_true hq0]
  clear HQ hq0 HO
  go_wp2_with ((with_reducible refine wpList_exec (.agg c) ?_ ?_ ?_); exact exec_load30 _ rfl B0 0 rfl c hcs (((HN.out.2.1.grow HG2.out).grow (G.alloc w2 roomObj)).lies); kernel_rfl)
  refine (roomNode_any w2 w2.heap.size rfl ks c nm v m (w2.alloc roomObj) sg0 (HN.out.1.below HG2.out) (G.alloc w2 roomObj) (room_new w2) (by omega) (by show 0 + _ ≤ _; omega)).mono ?_
  rintro e w3 ⟨kv, s, rfl, hL⟩
  obtain ⟨a3, cap3, ekv, _⟩ := hL.2.2.2
  subst ekv
  obtain ⟨c4, hc4⟩ : ∃ c4, nc nm v m (.slice a3 ks.len cap3) = c4 := ⟨_, rfl⟩
  rw [hc4]
  have HZ : Hid (c4.size = 41 ∧ c4.all (·.oneCell') = true) := by rw [← hc4]; exact ⟨nc_size .., nc_one _ _ _ _ rfl⟩
  obtain ⟨N1, N2, N3⟩ := new_var w3 c4
  have hR : w2.heap.size < w3.heap.size := hL.1.lt (.inl (.inl rfl))
  have hlt : B0 < w2.heap.size := (HN.out.2.1.grow HG2.out).lt
  have hb3 : Below w2.heap.size w2 w3 := Below.trans (B := w2.heap.size) (G.alloc w2 roomObj) hL.2.1.bel
  have hF : ∃ S, Fx ((w3.alloc (.cells z30 30)).setRow w3.heap.size c4) w2 w2.heap.size B0 w3.heap.size s S c c4 nm v m (.slice a3 ks.len cap3) ks := by
    refine ⟨fun b => (w2.alloc roomObj).heap.size ≤ b ∧ b < w3.heap.size ∧ ¬ XB w2.heap.size s b, Var.grow ((hb3.block B0 hlt).trans (HN.out.2.1.grow HG2.out)) N1, HN.out.1.below HG2.out, hb3.trans (N1.mono (by omega)), rfl, N2, hc4.symm, hL.2.2.2.keep fun b hb => ⟨N1.block b hb.2.1, hb⟩, fun b hb => ⟨by have := hb.1; simp at this; omega, hb.2.1⟩, hL.1.grow N1, hlt, ?_⟩
    rw [hL.2.2.1]
    show 0 + _ + 1 ≤ _
    omega
  obtain ⟨S, hF⟩ := hF
  have HF := hid hF
  have HG : Hid (G w ((w3.alloc (.cells z30 30)).setRow w3.heap.size c4)) := by
    have h0 : G w w2 := HN.out.2.2.trans HG2.out
    have := h0.size
    exact Below.trans (B := w.heap.size) (Below.trans (B := w.heap.size) h0 (hb3.mono this)) (N1.mono (by omega))
  have HR : Hid (w.heap.size ≤ w2.heap.size) := (HN.out.2.2.trans HG2.out).size
  clear N1 N2 N3 hL hF hR hlt hb3 hc4 HN HG2 HB0
  go_upto_region 5 with (first
    | ((with_reducible refine wpList_execW (.pointer (some ⟨w3.heap.size, 0, none⟩)) (w3.alloc (.cells z30 30)) ?_ ?_ ?_); exact exec_alloc30 rfl _; kernel_rfl)
    | ((with_reducible refine wpList_skipW ((w3.alloc (.cells z30 30)).setRow w3.heap.size c4) ?_ ?_ ?_); exact exec_store30 _ _ rfl w3.heap.size _ z30 rfl rfl _ (Var.new w3 z30) HZ.out.1 z30_size HZ.out.2; kernel_rfl))
  try simp only [Act.put, List.setIfInBounds_toArray, List.set_cons_zero, List.set_cons_succ]
  generalize (w3.alloc (.cells z30 30)).setRow w3.heap.size c4 = w4 at *
  generalize w3.heap.size = B4 at *
  generalize w2.heap.size = R at *
  have HW : Hid (ks.weight ≤ 20000) := by show _ ≤ _; omega
  obtain ⟨P, hP⟩ : ∃ P, checkP v m ks = P := ⟨_, rfl⟩
  obtain ⟨E, hE⟩ : ∃ E, checkE v m ks = E := ⟨_, rfl⟩
  have C8 : ∀ W x, HasN W x nm v m ks → Calls Try.prog 8 #[.agg x] W fun e w' => e = .returned (.tuple #[.string P, .int .i64 E]) ∧ G W w' := fun W x h => by rw [← hP, ← hE]; exact refCheckT_any x nm v m ks W h (by omega)
  have C9 : ∀ W x, HasN W x nm v m ks → Calls Try.prog 9 #[.agg x] W fun e w' => e = .returned (.tuple #[.string P, .int .i64 E]) ∧ G W w' := fun W x h => by rw [← hP, ← hE]; exact tcheck_any x nm v m ks W h (by omega)
  have C10 : ∀ W x, HasN W x nm v m ks → Calls Try.prog 10 #[.agg x] W fun e w' => ∃ u, e = .returned (.tuple #[u, .int .i64 E]) ∧ G W w' ∧ OfRes w' u E v m ks := fun W x h => by rw [← hE]; exact of_any x nm v m ks W h (by omega)
  have hPP : (P.toList != P.toList) = false := by simp
  have HC := hid (⟨C8, C9, C10⟩ : _ ∧ _ ∧ _)
  clear hP hE hw hws C8 C9 C10
  go_wp2_with (first
    | ((with_reducible refine wpList_exec (.agg c) ?_ ?_ ?_); exact exec_load30 _ rfl B0 0 rfl c HF.out.z.1 HF.out.v0.lies; kernel_rfl)
    | ((with_reducible refine wpList_exec (.agg c4) ?_ ?_ ?_); exact exec_load30 _ rfl B4 0 rfl c4 HF.out.z.2 HF.out.v4.lies; kernel_rfl)
    | (go_at_call 8; refine (HC.out.1 _ _ HF.out.n0).mono ?_; rintro e w9 ⟨rfl, hg9⟩; replace HF := hid (HF.out.grow hg9); replace HG := hid (HG.out.trans hg9); clear hg9))
  go_loopw [7] (fun i wr => ∃ k : Nat, i = .int .i64 k ∧ k ≤ 2 ∧ Hid (Fx wr w2 R B0 B4 s S c c4 nm v m (.slice a3 ks.len cap3) ks) ∧ Hid (G w wr)) (fun i _ => 2 - iOf i)
  case atStart => exact ⟨0, rfl, by omega, HF.out, HG.out⟩
  case round =>
    clear HF HG
    obtain ⟨k, rfl, hk, HF, HG⟩ := hrel
    by_cases hk2 : k < 2
    · have hkI : (k : Int) < 2 := by omega
      go_wp2_with (first
        | ((with_reducible refine wpList_exec (.agg c) ?_ ?_ ?_); exact exec_load30 _ rfl B0 0 rfl c HF.out.z.1 HF.out.v0.lies; kernel_rfl)
        | ((with_reducible refine wpList_exec (.agg c4) ?_ ?_ ?_); exact exec_load30 _ rfl B4 0 rfl c4 HF.out.z.2 HF.out.v4.lies; kernel_rfl)
        | (go_at_call 9; refine (HC.out.2.1 _ _ HF.out.n4).mono ?_; rintro e w9 ⟨rfl, hg9⟩; replace HF := hid (HF.out.grow hg9); replace HG := hid (HG.out.trans hg9); clear hg9))
      refine (HC.out.2.2 _ _ HF.out.n4).mono ?_
      rintro e w9 ⟨u, rfl, hg9, hO⟩
      replace HF := hid (HF.out.grow hg9); replace HG := hid (HG.out.trans hg9); clear hg9
      rcases hO with ⟨hE0, rfl⟩ | ⟨hE0, p, kk, rfl, hT, hfl⟩
      · have hE1 : (E == 0) = false := by simpa using hE0
        go_wp2_with fail
        go_roundw
        case rel => exact ⟨k + 1, by go_num, by omega, HF.out, HG.out⟩
        case measure => simp; omega
      · subst hE0
        have HT := hid (⟨hT, hfl⟩ : _ ∧ _)
        clear hT hfl
        go_wp2_with (first
          | ((with_reducible refine wpList_exec (.agg c) ?_ ?_ ?_); exact exec_load30 _ rfl B0 0 rfl c HF.out.z.1 HF.out.v0.lies; kernel_rfl)
          | (go_at_call 11; refine (alike_yes HT.out.1 HT.out.2 HF.out.n0 (by have := HW.out; omega)).mono ?_; rintro e w9 ⟨rfl, hg9⟩; clear HT; replace HF := hid (HF.out.grow hg9); replace HG := hid (HG.out.trans hg9); clear hg9))
        go_roundw
        case rel => exact ⟨k + 1, by go_num, by omega, HF.out, HG.out⟩
        case measure => simp; omega
    · have hkI : ¬ (k : Int) < 2 := by omega
      go_wp2_with ((with_reducible refine wpList_exec (.agg c4) ?_ ?_ ?_); exact exec_load30 _ rfl B4 0 rfl c4 HF.out.z.2 HF.out.v4.lies; kernel_rfl)
      refine (HC.out.2.2 _ _ HF.out.n4).mono ?_
      rintro e w9 ⟨u, rfl, hg9, hO⟩
      have HO := hid hO
      clear hO
      replace HF := hid (HF.out.grow hg9); replace HG := hid (HG.out.trans hg9); clear hg9
      go_wp2_with (first
        | ((with_reducible refine wpList_exec (.agg c) ?_ ?_ ?_); exact exec_load30 _ rfl B0 0 rfl c HF.out.z.1 HF.out.v0.lies; kernel_rfl)
        | ((with_reducible refine wpList_exec (.agg c4) ?_ ?_ ?_); exact exec_load30 _ rfl B4 0 rfl c4 HF.out.z.2 HF.out.v4.lies; kernel_rfl)
        | (go_at_call 12; refine (sameNode_yes HF.out.n4 HF.out.n0 (by have := HW.out; omega)).mono ?_; rintro e w9 ⟨rfl, hg9⟩; replace HF := hid (HF.out.grow hg9); replace HO := hid (HO.out.grow hg9); replace HG := hid (HG.out.trans hg9); clear hg9)
        | (go_at_call 13; refine (roomHold_any R s _ HF.out.rm HF.out.ln).mono ?_; rintro e w9 ⟨rfl, hg9⟩; replace HF := hid (HF.out.grow hg9); replace HO := hid (HO.out.grow hg9); replace HG := hid (HG.out.trans hg9); clear hg9; have q40 := lies_cell HF.out.v4.lies 40 (.slice a3 ks.len cap3) (by rw [HF.out.e4]; exact nc_kids ..)))
      clear q40
      refine (spoil_any (ks.size + 1) ks (Nat.lt_succ_self _) _ _ _ HF.out.sd.rw (by have := HW.out; have := F.size_le_weight ks; omega)).mono ?_
      rintro e w9 ⟨⟨b9, rfl⟩, hsp, hbs⟩
      obtain ⟨hx1, hx2, hx3⟩ := HF.out.spoilt hsp hbs HO.out
      replace HG : Hid (G w w9) := hid (Below.trans (B := w.heap.size) HG.out (hx3.mono HR.out))
      replace HO := hid hx2
      replace HF := hid hx1
      clear hsp hbs hx1 hx2 hx3 HC
      have hNk : ks.len ≤ 20000 := by have := HW.out; have := F.size_le_weight ks; have := ks.len_le_size; omega
      obtain ⟨P', hP⟩ : ∃ P, checkP v m (F.bangs ks.len) = P := ⟨_, rfl⟩
      obtain ⟨E', hE⟩ : ∃ E, checkE v m (F.bangs ks.len) = E := ⟨_, rfl⟩
      have C8 : ∀ W x, HasN W x nm v m (F.bangs ks.len) → Calls Try.prog 8 #[.agg x] W fun e w' => e = .returned (.tuple #[.string P', .int .i64 E']) ∧ G W w' := fun W x h => by rw [← hP, ← hE]; exact refCheckT_any x nm v m _ W h (by rw [F.bangs_weight]; omega)
      have C9 : ∀ W x, HasN W x nm v m (F.bangs ks.len) → Calls Try.prog 9 #[.agg x] W fun e w' => e = .returned (.tuple #[.string P', .int .i64 E']) ∧ G W w' := fun W x h => by rw [← hP, ← hE]; exact tcheck_any x nm v m _ W h (by rw [F.bangs_weight]; omega)
      have C10 : ∀ W x, HasN W x nm v m (F.bangs ks.len) → Calls Try.prog 10 #[.agg x] W fun e w' => ∃ u, e = .returned (.tuple #[u, .int .i64 E']) ∧ G W w' ∧ OfRes w' u E' v m (F.bangs ks.len) := fun W x h => by rw [← hE]; exact of_any x nm v m _ W h (by rw [F.bangs_weight]; omega)
      have hPP' : (P'.toList != P'.toList) = false := by simp
      have HC := hid (⟨C8, C9, C10⟩ : _ ∧ _ ∧ _)
      clear hP hE C8 C9 C10
      go_wp2_with ((with_reducible refine wpList_exec (.agg c4) ?_ ?_ ?_); exact exec_load30 _ rfl B4 0 rfl c4 HF.out.z.2 HF.out.v4.lies; kernel_rfl)
      refine (copy_any ((F.bangs ks.len).size + 1) _ (Nat.lt_succ_self _) nm v m c4 _ HF.out.n4 (by rw [F.bangs_weight]; omega)).mono ?_
      rintro e w10 ⟨c5, rfl, hn5, hg9⟩
      replace HF := hid (HF.out.grow hg9); replace HO := hid (HO.out.grow hg9); replace HG := hid (HG.out.trans hg9); clear hg9
      have HZ5 : Hid (c5.size = 41 ∧ c5.all (·.oneCell') = true) := by
        obtain ⟨kv5, rfl, a5, cp5, rfl, _⟩ := hn5
        exact ⟨nc_size .., nc_one _ _ _ _ rfl⟩
      obtain ⟨hg9, N2, N3⟩ := new_var w10 c5
      have HD := hid (⟨HZ5.out.1, N2, hn5.has.below hg9⟩ : c5.size = 41 ∧ Var ((w10.alloc (.cells z30 30)).setRow w10.heap.size c5) w10.heap.size c5 ∧ HasN ((w10.alloc (.cells z30 30)).setRow w10.heap.size c5) c5 nm v m (F.bangs ks.len))
      replace HF := hid (HF.out.grow hg9); replace HO := hid (HO.out.grow hg9); replace HG := hid (HG.out.trans hg9); clear hg9
      clear hn5 N2 N3
      go_upto_region 18 with (first
        | ((with_reducible refine wpList_execW (.pointer (some ⟨w10.heap.size, 0, none⟩)) (w10.alloc (.cells z30 30)) ?_ ?_ ?_); exact exec_alloc30 rfl _; kernel_rfl)
        | ((with_reducible refine wpList_skipW ((w10.alloc (.cells z30 30)).setRow w10.heap.size c5) ?_ ?_ ?_); exact exec_store30 _ _ rfl w10.heap.size _ z30 rfl rfl _ (Var.new w10 z30) HZ5.out.1 z30_size HZ5.out.2; kernel_rfl))
      try simp only [Act.put, List.setIfInBounds_toArray, List.set_cons_zero, List.set_cons_succ]
      generalize (w10.alloc (.cells z30 30)).setRow w10.heap.size c5 = w11 at *
      generalize w10.heap.size = B5 at *
      go_wp2_with (first
        | ((with_reducible refine wpList_exec (.agg c4) ?_ ?_ ?_); exact exec_load30 _ rfl B4 0 rfl c4 HF.out.z.2 HF.out.v4.lies; kernel_rfl)
        | ((with_reducible refine wpList_exec (.agg c5) ?_ ?_ ?_); exact exec_load30 _ rfl B5 0 rfl c5 HD.out.1 HD.out.2.1.lies; kernel_rfl)
        | (go_at_call 8; refine (HC.out.1 _ _ HD.out.2.2).mono ?_; rintro e w9 ⟨rfl, hg9⟩; replace HF := hid (HF.out.grow hg9); replace HO := hid (HO.out.grow hg9); replace HD := hid (⟨HD.out.1, HD.out.2.1.grow hg9, HD.out.2.2.below hg9⟩ : c5.size = 41 ∧ Var w9 B5 c5 ∧ HasN w9 c5 nm v m (F.bangs ks.len)); replace HG := hid (HG.out.trans hg9); clear hg9)
        | (go_at_call 9; refine (HC.out.2.1 _ _ HF.out.n4).mono ?_; rintro e w9 ⟨rfl, hg9⟩; replace HF := hid (HF.out.grow hg9); replace HO := hid (HO.out.grow hg9); replace HD := hid (⟨HD.out.1, HD.out.2.1.grow hg9, HD.out.2.2.below hg9⟩ : c5.size = 41 ∧ Var w9 B5 c5 ∧ HasN w9 c5 nm v m (F.bangs ks.len)); replace HG := hid (HG.out.trans hg9); clear hg9))
      refine (HC.out.2.2 _ _ HF.out.n4).mono ?_
      rintro e w9 ⟨u2, rfl, hg9, hO2⟩
      replace HF := hid (HF.out.grow hg9); replace HO := hid (HO.out.grow hg9); replace HD := hid (⟨HD.out.1, HD.out.2.1.grow hg9, HD.out.2.2.below hg9⟩ : c5.size = 41 ∧ Var w9 B5 c5 ∧ HasN w9 c5 nm v m (F.bangs ks.len)); replace HG := hid (HG.out.trans hg9); clear hg9
      rcases hO2 with ⟨hE0, rfl⟩ | ⟨hE0, p2, k2, rfl, _, _⟩
      · have hE1 : (E' == 0) = false := by simpa using hE0
        rcases HO.out.form with rfl | ⟨p, rfl⟩
        · go_wp2_with (first
            | ((with_reducible refine wpList_exec (.agg c) ?_ ?_ ?_); exact exec_load30 _ rfl B0 0 rfl c HF.out.z.1 HF.out.v0.lies; kernel_rfl)
            | ((with_reducible refine wpList_exec (.agg c4) ?_ ?_ ?_); exact exec_load30 _ rfl B4 0 rfl c4 HF.out.z.2 HF.out.v4.lies; kernel_rfl)
            | ((with_reducible refine wpList_exec (.agg c5) ?_ ?_ ?_); exact exec_load30 _ rfl B5 0 rfl c5 HD.out.1 HD.out.2.1.lies; kernel_rfl)
            | (go_at_call 12; refine (sameNode_yes HF.out.n4 HD.out.2.2 (by rw [F.bangs_weight]; omega)).mono ?_; rintro e w9 ⟨rfl, hg9⟩; replace HF := hid (HF.out.grow hg9); replace HO := hid (HO.out.grow hg9); replace HD := hid (⟨HD.out.1, HD.out.2.1.grow hg9, HD.out.2.2.below hg9⟩ : c5.size = 41 ∧ Var w9 B5 c5 ∧ HasN w9 c5 nm v m (F.bangs ks.len)); replace HG := hid (HG.out.trans hg9); clear hg9))
          go_ret
          exact ⟨rfl, HG.out⟩
        · go_wp2_with (first
            | ((with_reducible refine wpList_exec (.agg c) ?_ ?_ ?_); exact exec_load30 _ rfl B0 0 rfl c HF.out.z.1 HF.out.v0.lies; kernel_rfl)
            | ((with_reducible refine wpList_exec (.agg c4) ?_ ?_ ?_); exact exec_load30 _ rfl B4 0 rfl c4 HF.out.z.2 HF.out.v4.lies; kernel_rfl)
            | ((with_reducible refine wpList_exec (.agg c5) ?_ ?_ ?_); exact exec_load30 _ rfl B5 0 rfl c5 HD.out.1 HD.out.2.1.lies; kernel_rfl)
            | (go_at_call 12; refine (sameNode_yes HF.out.n4 HD.out.2.2 (by rw [F.bangs_weight]; omega)).mono ?_; rintro e w9 ⟨rfl, hg9⟩; replace HF := hid (HF.out.grow hg9); replace HO := hid (HO.out.grow hg9); replace HD := hid (⟨HD.out.1, HD.out.2.1.grow hg9, HD.out.2.2.below hg9⟩ : c5.size = 41 ∧ Var w9 B5 c5 ∧ HasN w9 c5 nm v m (F.bangs ks.len)); replace HG := hid (HG.out.trans hg9); clear hg9)
            | (go_at_call 11; refine (alike_res HO.out HF.out.n0 (by have := HW.out; omega)).mono ?_; rintro e w9 ⟨rfl, hg9⟩; replace HF := hid (HF.out.grow hg9); replace HO := hid (HO.out.grow hg9); replace HD := hid (⟨HD.out.1, HD.out.2.1.grow hg9, HD.out.2.2.below hg9⟩ : c5.size = 41 ∧ Var w9 B5 c5 ∧ HasN w9 c5 nm v m (F.bangs ks.len)); replace HG := hid (HG.out.trans hg9); clear hg9))
          go_ret
          exact ⟨rfl, HG.out⟩
      · subst hE0
        rcases HO.out.form with rfl | ⟨p, rfl⟩
        · go_wp2_with (first
            | ((with_reducible refine wpList_exec (.agg c) ?_ ?_ ?_); exact exec_load30 _ rfl B0 0 rfl c HF.out.z.1 HF.out.v0.lies; kernel_rfl)
            | ((with_reducible refine wpList_exec (.agg c4) ?_ ?_ ?_); exact exec_load30 _ rfl B4 0 rfl c4 HF.out.z.2 HF.out.v4.lies; kernel_rfl)
            | ((with_reducible refine wpList_exec (.agg c5) ?_ ?_ ?_); exact exec_load30 _ rfl B5 0 rfl c5 HD.out.1 HD.out.2.1.lies; kernel_rfl)
            | (go_at_call 12; refine (sameNode_yes HF.out.n4 HD.out.2.2 (by rw [F.bangs_weight]; omega)).mono ?_; rintro e w9 ⟨rfl, hg9⟩; replace HF := hid (HF.out.grow hg9); replace HO := hid (HO.out.grow hg9); replace HD := hid (⟨HD.out.1, HD.out.2.1.grow hg9, HD.out.2.2.below hg9⟩ : c5.size = 41 ∧ Var w9 B5 c5 ∧ HasN w9 c5 nm v m (F.bangs ks.len)); replace HG := hid (HG.out.trans hg9); clear hg9))
          go_ret
          exact ⟨rfl, HG.out⟩
        · go_wp2_with (first
            | ((with_reducible refine wpList_exec (.agg c) ?_ ?_ ?_); exact exec_load30 _ rfl B0 0 rfl c HF.out.z.1 HF.out.v0.lies; kernel_rfl)
            | ((with_reducible refine wpList_exec (.agg c4) ?_ ?_ ?_); exact exec_load30 _ rfl B4 0 rfl c4 HF.out.z.2 HF.out.v4.lies; kernel_rfl)
            | ((with_reducible refine wpList_exec (.agg c5) ?_ ?_ ?_); exact exec_load30 _ rfl B5 0 rfl c5 HD.out.1 HD.out.2.1.lies; kernel_rfl)
            | (go_at_call 12; refine (sameNode_yes HF.out.n4 HD.out.2.2 (by rw [F.bangs_weight]; omega)).mono ?_; rintro e w9 ⟨rfl, hg9⟩; replace HF := hid (HF.out.grow hg9); replace HO := hid (HO.out.grow hg9); replace HD := hid (⟨HD.out.1, HD.out.2.1.grow hg9, HD.out.2.2.below hg9⟩ : c5.size = 41 ∧ Var w9 B5 c5 ∧ HasN w9 c5 nm v m (F.bangs ks.len)); replace HG := hid (HG.out.trans hg9); clear hg9)
            | (go_at_call 11; refine (alike_res HO.out HF.out.n0 (by have := HW.out; omega)).mono ?_; rintro e w9 ⟨rfl, hg9⟩; replace HF := hid (HF.out.grow hg9); replace HO := hid (HO.out.grow hg9); replace HD := hid (⟨HD.out.1, HD.out.2.1.grow hg9, HD.out.2.2.below hg9⟩ : c5.size = 41 ∧ Var w9 B5 c5 ∧ HasN w9 c5 nm v m (F.bangs ks.len)); replace HG := hid (HG.out.trans hg9); clear hg9))
          go_ret
          exact ⟨rfl, HG.out⟩
end Go.Proofs.Ytjkbhfkeagfhbaa
