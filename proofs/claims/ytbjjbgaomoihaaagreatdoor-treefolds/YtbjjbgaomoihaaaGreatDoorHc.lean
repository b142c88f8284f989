import Derived.Test.YtbjjbgaomoihaaaGreatDoorKnown
import Derived.Test.YtbjjbgaomoihaaaGreatDoorHa
set_option maxRecDepth 100000
set_option maxHeartbeats 8000000
namespace Go.Proofs.YtbjjbgaomoihaaaGreatDoor
open Go.RowKit
theorem sameNode_any (nm nm' : ByteArray) (v v' : Vd) (m m' : Md) (ks ks' : F) (c d : Array Value) (w : World) (hc : HasN w c nm v m ks) (hd : HasN w d nm' v' m' ks') (hl : ks.okL) (hl' : ks'.okL) :
    Calls Tryz.prog 10 #[.agg c, .agg d] w fun e w' => e = .returned (.bool (decide (nm = nm' ∧ v = v' ∧ m = m' ∧ ks = ks'))) ∧ G w w' := by
  have TB := two_boxes w c d
  have hG : G w ((w.alloc (.cells c 30)).alloc (.cells d 30)) := (G.alloc _ _).trans (G.alloc _ _)
  have CE := equal_any (ks.size + 1) ks (Nat.lt_succ_self _) nm nm' v v' m m' ks' c d _ (hc.below hG) (hd.below hG) hl hl'
  have n1 := lies_cell TB.1 0 (.string nm) (by obtain ⟨_, rfl, _⟩ := hc; exact nc_name ..)
  have n2 := lies_cell TB.2 0 (.string nm') (by obtain ⟨_, rfl, _⟩ := hd; exact nc_name ..)
  have HT : Hid (Lies ((w.alloc (.cells c 30)).alloc (.cells d 30)) w.heap.size 0 c ∧ Lies ((w.alloc (.cells c 30)).alloc (.cells d 30)) (w.heap.size + 1) 0 d ∧ c.size = 41 ∧ d.size = 41) := ⟨TB.1, TB.2, by obtain ⟨_, rfl, _⟩ := hc; exact nc_size .., by obtain ⟨_, rfl, _⟩ := hd; exact nc_size ..⟩
  have HG := hid hG
  obtain ⟨R, hR⟩ : ∃ R, decide (nm = nm' ∧ v = v' ∧ m = m' ∧ ks = ks') = R := ⟨_, rfl⟩
  rw [hR]
  obtain ⟨b, hb⟩ : ∃ b, decide (v = v' ∧ m = m' ∧ ks = ks') = b := ⟨_, rfl⟩
  rw [hb] at CE
  have HR : Hid (R = (decide (nm = nm') && b)) := by show _ = _; rw [← hR, ← hb]; simp only [Bool.decide_and]
  clear hR hb TB hc hd hG hl hl'
  go_enter Tryz.func10, Tryz.ntmps10
  go_upto_region 1 with fail
  generalize (w.alloc (.cells c 30)).alloc (.cells d 30) = w1 at *
  generalize w.heap.size = H at *
  by_cases hn : nm = nm'
  · subst hn
    have HF : Hid (R = b) := by show _ = _; rw [HR.out]; simp
    go_wp2_with (first
      | (with_reducible refine wpList_exec (.agg c) ?_ ?_ ?_; exact exec_load30 _ rfl H 0 rfl c HT.out.2.2.1 HT.out.1; kernel_rfl)
      | (with_reducible refine wpList_exec (.agg d) ?_ ?_ ?_; exact exec_load30 _ rfl (H + 1) 0 rfl d HT.out.2.2.2 HT.out.2.1; kernel_rfl)
      | (go_at_call 24; refine CE.mono ?_; rintro e w2 ⟨rfl, g2⟩))
    go_ret
    exact ⟨by rw [HF.out]; rfl, HG.out.trans g2⟩
  · have hn' : (nm.toList == nm'.toList) = false := by
      have : ¬ nm.toList = nm'.toList := fun e => hn (ext_of _ _ e)
      simpa using this
    have HF : Hid (R = false) := by show _ = _; rw [HR.out]; simp [hn]
    clear hn
    go_wp2_with fail
    go_ret
    exact ⟨by rw [HF.out]; rfl, HG.out⟩
structure Fx (w wb : World) (R B0 B4 : Nat) (s : Sg) (S : Nat → Prop) (c c4 : Array Value) (nm : ByteArray) (v : Vd) (m : Md) (kv : Value) (ks : F) : Prop where
  v0 : Var w B0 c
  nb : HasN wb c nm v m ks
  bw : Below R wb w
  br : wb.heap.size = R
  v4 : Var w B4 c4
  e4 : c4 = nc nm v m kv
  sd : HasSD w S kv ks
  sl : ∀ b, S b → R ≤ b ∧ b < B4
  rm : RM w R s
  lt : B0 < R
  ln : s.ls.length ≤ 60000
theorem Fx.grow {w w' wb : World} {R B0 B4 : Nat} {s : Sg} {S : Nat → Prop} {c c4 : Array Value} {nm : ByteArray} {v : Vd} {m : Md} {kv : Value} {ks : F} (h : Fx w wb R B0 B4 s S c c4 nm v m kv ks) (hg : G w w') : Fx w' wb R B0 B4 s S c c4 nm v m kv ks :=
  ⟨h.v0.grow hg, h.nb, h.bw.trans (hg.mono (Nat.le_of_lt (h.rm.lt (.inl (.inl rfl))))), h.br, h.v4.grow hg, h.e4, h.sd.keep fun b hb => ⟨hg.block b (by have := h.sl b hb; have := h.v4.lt; omega), hb⟩, h.sl, h.rm.grow hg, h.lt, h.ln⟩
theorem Fx.n0 {w wb : World} {R B0 B4 : Nat} {s : Sg} {S : Nat → Prop} {c c4 : Array Value} {nm : ByteArray} {v : Vd} {m : Md} {kv : Value} {ks : F} (h : Fx w wb R B0 B4 s S c c4 nm v m kv ks) : HasN w c nm v m ks := h.nb.below (by rw [h.br]; exact h.bw)
theorem Fx.n4 {w wb : World} {R B0 B4 : Nat} {s : Sg} {S : Nat → Prop} {c c4 : Array Value} {nm : ByteArray} {v : Vd} {m : Md} {kv : Value} {ks : F} (h : Fx w wb R B0 B4 s S c c4 nm v m kv ks) : HasN w c4 nm v m ks := ⟨kv, h.e4, h.sd.has⟩
theorem Fx.z {w wb : World} {R B0 B4 : Nat} {s : Sg} {S : Nat → Prop} {c c4 : Array Value} {nm : ByteArray} {v : Vd} {m : Md} {kv : Value} {ks : F} (h : Fx w wb R B0 B4 s S c c4 nm v m kv ks) : c.size = 41 ∧ c4.size = 41 := by
  refine ⟨?_, by rw [h.e4]; exact nc_size ..⟩
  obtain ⟨_, rfl, _⟩ := h.nb
  exact nc_size ..
structure Gx (w : World) (B0 B4 : Nat) (c c4 : Array Value) (nm : ByteArray) (v : Vd) (m : Md) (ks fs : F) : Prop where
  v0 : Var w B0 c
  n0 : HasN w c nm v m ks
  v4 : Var w B4 c4
  n4 : HasN w c4 nm v m fs
theorem Gx.grow {w w' : World} {B0 B4 : Nat} {c c4 : Array Value} {nm : ByteArray} {v : Vd} {m : Md} {ks fs : F} (h : Gx w B0 B4 c c4 nm v m ks fs) (hg : G w w') : Gx w' B0 B4 c c4 nm v m ks fs := ⟨h.v0.grow hg, h.n0.below hg, h.v4.grow hg, h.n4.below hg⟩
theorem Gx.z {w : World} {B0 B4 : Nat} {c c4 : Array Value} {nm : ByteArray} {v : Vd} {m : Md} {ks fs : F} (h : Gx w B0 B4 c c4 nm v m ks fs) : c.size = 41 ∧ c4.size = 41 := by
  obtain ⟨_, ⟨_, rfl, _⟩, _, ⟨_, rfl, _⟩⟩ := h
  exact ⟨nc_size .., nc_size ..⟩
theorem OfRes.grow {w w' : World} {u : Value} {E : Int} {v : Vd} {m : Md} {ks : F} (h : OfRes w u E v m ks) (hg : G w w') : OfRes w' u E v m ks := h.imp id fun ⟨h1, p, k, h2, h3, h4⟩ => ⟨h1, p, k, h2, h3.grow hg, h4⟩
theorem OfRes.form {w : World} {u : Value} {E : Int} {v : Vd} {m : Md} {ks : F} (h : OfRes w u E v m ks) : u = .pointer none ∨ ∃ p, u = .pointer (some ⟨p, 0, none⟩) := by
  rcases h with ⟨_, h⟩ | ⟨_, p, _, h, _⟩
  · exact .inl h
  · exact .inr ⟨p, h⟩
theorem one_slice {w : World} {c : Array Value} {nm : ByteArray} {v : Vd} {m : Md} {ks : F} (hN : HasN w c nm v m ks) : HasS (w.alloc (.cells c 30)) (.slice (some ⟨w.heap.size, 0, none⟩) 1 1) (.cons nm v m ks .nil) := by
  obtain ⟨kv, rfl, hS⟩ := hN
  obtain ⟨a, cap, rfl, hl, hk⟩ := hS.below (G.alloc w (.cells (nc nm v m kv) 30))
  exact ⟨_, 1, rfl, Nat.le_refl _, .inr ⟨w.heap.size, 0, rfl, ⟨a, cap, lies_new w _ 30, hl, hk⟩, trivial⟩⟩
def GrownRes (w : World) (u : Value) (v : Vd) (m : Md) (ks : F) : Prop := u = .pointer none ∨ ∃ p, u = .pointer (some ⟨p, 0, none⟩) ∧ AtTF (fun _ => True) w p v m ks ∧ checkE v m ks = 0 ∧ ks.weight ≤ 20000
theorem GrownRes.grow {w w' : World} {u : Value} {v : Vd} {m : Md} {ks : F} (h : GrownRes w u v m ks) (hg : G w w') : GrownRes w' u v m ks := h.imp id fun ⟨p, h1, h2, h3⟩ => ⟨p, h1, h2.grow hg, h3⟩
theorem grown_any (c : Array Value) (nm : ByteArray) (v : Vd) (m : Md) (ks : F) (w : World) (hN : HasN w c nm v m ks) (hnm : nm.size ≤ 9223372036854775807) (hok : ks.ok) (hlen : ks.len ≤ 9223372036854775807) :
    Calls Tryz.prog 5 #[.agg c] w fun e w' => ∃ u, e = .returned u ∧ GrownRes w' u v m ks ∧ G w w' := by
  have hcs : c.size = 41 := by obtain ⟨_, rfl, _⟩ := hN; exact nc_size ..
  have hG0 : G w (w.alloc (.cells c 30)) := G.alloc _ _
  have hV0 := Var.new w c
  have HN : Hid (HasN (w.alloc (.cells c 30)) c nm v m ks ∧ Var (w.alloc (.cells c 30)) w.heap.size c ∧ G w (w.alloc (.cells c 30))) := ⟨hN.below hG0, hV0, hG0⟩
  have HO : Hid (nm.size ≤ 9223372036854775807 ∧ ks.ok ∧ ks.len ≤ 9223372036854775807) := ⟨hnm, hok, hlen⟩
  clear hN hnm hok hlen hG0 hV0
  go_enter Tryz.func5, Tryz.ntmps5
  go_upto_region 1 with fail
  generalize w.alloc (.cells c 30) = w1 at *
  generalize w.heap.size = B0 at *
  go_wp2_with (first
    | ((with_reducible refine wpList_exec (.agg c) ?_ ?_ ?_); exact exec_load30 _ rfl B0 0 rfl c hcs HN.out.2.1.lies; kernel_rfl)
    | ((with_reducible refine wpList_execW (.slice (some ⟨w1.heap.size, 0, none⟩) 1 1) (w1.alloc (.cells c 30)) ?_ ?_ ?_); exact exec_slice1 _ rfl c rfl hcs _; kernel_rfl))
  refine (few_any _ (.cons nm v m ks .nil) _ (one_slice HN.out.1) ⟨HO.out.1, HO.out.2.2, HO.out.2.1, trivial⟩ (by simp [F.len])).mono ?_
  rintro e w2 ⟨q, rfl, hq, b2⟩
  have HQ := hid hq
  have HG2 : Hid (G w1 w2) := (G.alloc w1 (.cells c 30)).trans b2
  clear hq b2
  by_cases hq0 : 0 ≤ q
  case neg =>
    rw [decide_eq_false hq0]
    go_wp2
    go_ret
    exact ⟨_, rfl, .inl rfl, HN.out.2.2.trans HG2.out⟩
  have hw : ks.weight ≤ 20000 := by
    have := HQ.out hq0
    simp only [F.weight] at this
    omega
  rw [decide_eq_true hq0]
  clear HQ hq0 HO
  have C10 := of_any c nm v m ks w2 (HN.out.1.below HG2.out) (by omega)
  obtain ⟨E, hE⟩ : ∃ E, checkE v m ks = E := ⟨_, rfl⟩
  have HE := hid hE
  rw [hE] at C10
  have HW := hid hw
  clear hE hw
  go_wp2_with ((with_reducible refine wpList_exec (.agg c) ?_ ?_ ?_); exact exec_load30 _ rfl B0 0 rfl c hcs (HN.out.2.1.grow HG2.out).lies; kernel_rfl)
  refine C10.mono ?_
  rintro e w3 ⟨u, rfl, hg3, hO⟩
  have HG3 := hid ((HN.out.2.2.trans HG2.out).trans hg3)
  clear C10 hg3
  rcases hO with ⟨hE0, rfl⟩ | ⟨hE0, p, k, rfl, hT, hk⟩
  · have hE1 : (E != 0) = true := by simpa using hE0
    clear hE0
    go_wp2_with fail
    go_ret
    exact ⟨_, rfl, .inl rfl, HG3.out⟩
  · subst hE0
    have HT := hid (AtTF.of hT hk)
    clear hT hk
    go_wp2_with fail
    go_ret
    exact ⟨_, rfl, .inr ⟨p, rfl, HT.out, HE.out, HW.out⟩, HG3.out⟩
theorem faultF_nz : ∀ {f : F} {prev : Option ByteArray} {L : List ByteArray} {x : List ByteArray × Int}, faultF f prev L = some x → x.2 ≠ 0
  | .nil, _, _, _, h => by cases h
  | .cons nm v m ks r, prev, L, x, h => by
    rw [faultF] at h
    by_cases h1 : placeE prev nm (L.length + 1) ≠ 0
    · rw [if_pos h1] at h; cases h; exact h1
    rw [if_neg h1] at h
    by_cases h2 : ownE v m (decide (0 < ks.len)) ≠ 0
    · rw [if_pos h2] at h; cases h; exact h2
    rw [if_neg h2] at h
    cases h3 : faultF ks none (L ++ [nm]) with
    | some y => rw [h3] at h; cases h; exact faultF_nz h3
    | none => rw [h3] at h; exact faultF_nz (f := r) h
theorem check_none {v : Vd} {m : Md} {ks : F} (h : checkE v m ks = 0) : ownE v m (decide (0 < ks.len)) = 0 ∧ faultF ks none [] = none := by
  unfold checkE faultN at h
  by_cases h2 : ownE v m (decide (0 < ks.len)) ≠ 0
  · rw [if_pos h2] at h; exact absurd h h2
  rw [if_neg h2] at h
  refine ⟨by simpa using h2, ?_⟩
  cases h3 : faultF ks none [] with
  | none => rfl
  | some x => rw [h3] at h; exact absurd h (faultF_nz h3)
theorem kind_of {v : Vd} {m : Md} {ks : F} (h : ownE v m (decide (0 < ks.len)) = 0) : v.kind = 1 ∨ ks = .nil := by
  cases ks with
  | nil => exact .inr rfl
  | cons a b c d e =>
    refine .inl ?_
    unfold ownE at h
    split at h
    · cases h
    · split at h
      · cases h
      · rename_i q
        by_cases hk : v.kind = 1
        · exact hk
        · exact absurd ⟨by simp [F.len], hk⟩ q
theorem faultF_deep : ∀ {f : F} {prev : Option ByteArray} {L : List ByteArray}, faultF f prev L = none → L.length ≤ 64 → namesF f ∧ kindsF f ∧ L.length + f.depth ≤ 64
  | .nil, _, _, _, h => ⟨trivial, trivial, by simpa [F.depth] using h⟩
  | .cons nm v m ks r, prev, L, h, hL => by
    rw [faultF] at h
    by_cases h1 : placeE prev nm (L.length + 1) ≠ 0
    · rw [if_pos h1] at h; cases h
    rw [if_neg h1] at h
    by_cases h2 : ownE v m (decide (0 < ks.len)) ≠ 0
    · rw [if_pos h2] at h; cases h
    rw [if_neg h2] at h
    cases h3 : faultF ks none (L ++ [nm]) with
    | some x => rw [h3] at h; cases h
    | none =>
      rw [h3] at h
      have h5 : placeE prev nm (L.length + 1) = 0 := by simpa using h1
      unfold placeE at h5
      split at h5
      · cases h5
      rename_i h6
      split at h5
      · cases h5
      rename_i h7
      have ih1 := faultF_deep h3 (by simp; omega)
      have ih2 := faultF_deep (f := r) (prev := some nm) (L := L) h hL
      have hl : (L ++ [nm]).length = L.length + 1 := by simp
      rw [hl] at ih1
      refine ⟨⟨by simpa using h7, ih1.1, ih2.1⟩, ⟨kind_of (Classical.not_not.1 h2), ih1.2.1, ih2.2.1⟩, ?_⟩
      have d1 := ih1.2.2
      have d2 := ih2.2.2
      show L.length + max (ks.depth + 1) r.depth ≤ 64
      omega
theorem check_deep {v : Vd} {m : Md} {ks : F} (h : checkE v m ks = 0) : namesF ks ∧ kindsF ks ∧ ks.depth ≤ 64 ∧ (v.kind = 1 ∨ ks = .nil) := by
  obtain ⟨h1, h2⟩ := check_none h
  have := faultF_deep h2 (by simp)
  exact ⟨this.1, this.2.1, by simpa using this.2.2, kind_of h1⟩
open Ch
structure Ln where
  c : Array Value
def MN (W : World) (v : Vd) (m : Md) (ks : F) (r : Ln) (done : Nat → Bool) (w : World) : Prop := G W w ∧ (done 8 = true → HasN w r.c ⟨#[]⟩ v m ks)
theorem MN.step {W : World} {v : Vd} {m : Md} {ks : F} {r : Ln} {done : Nat → Bool} {w : World} (h : MN W v m ks r done w) {j : Nat} (h1 : j ≠ 8) : MN W v m ks r (upd done j) w := by
  unfold MN at *
  rw [upd_ne done (Ne.symm h1)]
  exact h
theorem backN : backB (opsAt Tryz.f3 9) = true := by kernel_rfl
theorem dstN : dstB (opsAt Tryz.f3 9) 69 = true := by kernel_rfl
theorem sizeN : (opsAt Tryz.f3 9).size = 22 := by kernel_rfl
theorem freeN3 : freeB (opsAt Tryz.f3 9) 3 = true := by kernel_rfl
theorem freeN4 : freeB (opsAt Tryz.f3 9) 4 = true := by kernel_rfl
theorem freeN5 : freeB (opsAt Tryz.f3 9) 5 = true := by kernel_rfl
theorem freeN6 : freeB (opsAt Tryz.f3 9) 6 = true := by kernel_rfl
theorem sN_0 : say (opsAt Tryz.f3 9) 0 = some (some 29, .move (.tmp 4), none) := by kernel_rfl
theorem dN_0 : slotB (opsAt Tryz.f3 9) 0 = some 29 := by kernel_rfl
theorem sN_1 : say (opsAt Tryz.f3 9) 1 = some (some 30, .nilCheck (.tmp 29), none) := by kernel_rfl
theorem dN_1 : slotB (opsAt Tryz.f3 9) 1 = some 30 := by kernel_rfl
theorem sN_2 : say (opsAt Tryz.f3 9) 2 = some (some 31, .fieldAddr 58 (.tmp 30) 2, none) := by kernel_rfl
theorem dN_2 : slotB (opsAt Tryz.f3 9) 2 = some 31 := by kernel_rfl
theorem sN_3 : say (opsAt Tryz.f3 9) 3 = some (some 32, .load 4 (.tmp 31), none) := by kernel_rfl
theorem dN_3 : slotB (opsAt Tryz.f3 9) 3 = some 32 := by kernel_rfl
theorem sN_4 : say (opsAt Tryz.f3 9) 4 = some (some 33, .unOp .not 4 (.tmp 32), none) := by kernel_rfl
theorem dN_4 : slotB (opsAt Tryz.f3 9) 4 = some 33 := by kernel_rfl
theorem sN_5 : say (opsAt Tryz.f3 9) 5 = some (some 34, .move (.tmp 33), none) := by kernel_rfl
theorem dN_5 : slotB (opsAt Tryz.f3 9) 5 = some 34 := by kernel_rfl
theorem sN_6 : say (opsAt Tryz.f3 9) 6 = some (some 35, .load 30 (.tmp 5), some (5, false)) := by kernel_rfl
theorem dN_6 : slotB (opsAt Tryz.f3 9) 6 = some 35 := by kernel_rfl
theorem sN_7 : say (opsAt Tryz.f3 9) 7 = some (some 36, .move (.tmp 3), some (5, false)) := by kernel_rfl
theorem dN_7 : slotB (opsAt Tryz.f3 9) 7 = some 36 := by kernel_rfl
theorem sN_8 : say (opsAt Tryz.f3 9) 8 = some (some 37, .call { callee := .value (.func 11), args := #[.tmp 36], argTypes := #[32] }, some (5, false)) := by kernel_rfl
theorem dN_8 : slotB (opsAt Tryz.f3 9) 8 = some 37 := by kernel_rfl
theorem sN_9 : say (opsAt Tryz.f3 9) 9 = some (some 38, .call { callee := .value (.func 10), args := #[.tmp 35, .tmp 37], argTypes := #[30, 30] }, some (5, false)) := by kernel_rfl
theorem dN_9 : slotB (opsAt Tryz.f3 9) 9 = some 38 := by kernel_rfl
theorem sN_10 : say (opsAt Tryz.f3 9) 10 = some (some 39, .unOp .not 4 (.tmp 38), some (5, false)) := by kernel_rfl
theorem dN_10 : slotB (opsAt Tryz.f3 9) 10 = some 39 := by kernel_rfl
theorem sN_11 : say (opsAt Tryz.f3 9) 11 = some (some 40, .pick (.tmp 34) (.const (.bool true)) (.tmp 39), none) := by kernel_rfl
theorem dN_11 : slotB (opsAt Tryz.f3 9) 11 = some 40 := by kernel_rfl
theorem sN_12 : say (opsAt Tryz.f3 9) 12 = some (some 41, .move (.tmp 40), none) := by kernel_rfl
theorem dN_12 : slotB (opsAt Tryz.f3 9) 12 = some 41 := by kernel_rfl
theorem sN_13 : say (opsAt Tryz.f3 9) 13 = some (some 42, .move (.tmp 4), some (12, false)) := by kernel_rfl
theorem dN_13 : slotB (opsAt Tryz.f3 9) 13 = some 42 := by kernel_rfl
theorem sN_14 : say (opsAt Tryz.f3 9) 14 = some (some 43, .nilCheck (.tmp 42), some (12, false)) := by kernel_rfl
theorem dN_14 : slotB (opsAt Tryz.f3 9) 14 = some 43 := by kernel_rfl
theorem sN_15 : say (opsAt Tryz.f3 9) 15 = some (some 44, .fieldAddr 58 (.tmp 43) 0, some (12, false)) := by kernel_rfl
theorem dN_15 : slotB (opsAt Tryz.f3 9) 15 = some 44 := by kernel_rfl
theorem sN_16 : say (opsAt Tryz.f3 9) 16 = some (some 45, .load 56 (.tmp 44), some (12, false)) := by kernel_rfl
theorem dN_16 : slotB (opsAt Tryz.f3 9) 16 = some 45 := by kernel_rfl
theorem sN_17 : say (opsAt Tryz.f3 9) 17 = some (some 46, .call { callee := .builtin .len, args := #[.tmp 45], argTypes := #[56] }, some (12, false)) := by kernel_rfl
theorem dN_17 : slotB (opsAt Tryz.f3 9) 17 = some 46 := by kernel_rfl
theorem sN_18 : say (opsAt Tryz.f3 9) 18 = some (some 47, .move (.tmp 6), some (12, false)) := by kernel_rfl
theorem dN_18 : slotB (opsAt Tryz.f3 9) 18 = some 47 := by kernel_rfl
theorem sN_19 : say (opsAt Tryz.f3 9) 19 = some (some 48, .call { callee := .builtin .len, args := #[.tmp 47], argTypes := #[56] }, some (12, false)) := by kernel_rfl
theorem dN_19 : slotB (opsAt Tryz.f3 9) 19 = some 48 := by kernel_rfl
theorem sN_20 : say (opsAt Tryz.f3 9) 20 = some (some 49, .binOp .neq 3 (.tmp 46) (.tmp 48) 3, some (12, false)) := by kernel_rfl
theorem dN_20 : slotB (opsAt Tryz.f3 9) 20 = some 49 := by kernel_rfl
theorem sN_21 : say (opsAt Tryz.f3 9) 21 = some (some 50, .pick (.tmp 41) (.const (.bool true)) (.tmp 49), none) := by kernel_rfl
def VN (Mb p _Vb n pc uc : Nat) (pa ua : Option Addr) (cf : Array Value) (r : Ln) : Nat → Value
  | 0 => .pointer (some ⟨Mb, 0, none⟩)
  | 1 => .pointer (some ⟨Mb, 0, none⟩)
  | 2 => .pointer (some ⟨Mb, 2, none⟩)
  | 3 => .bool true
  | 4 => .bool false
  | 5 => .bool false
  | 6 => .agg cf
  | 7 => .pointer (some ⟨p, 0, none⟩)
  | 8 => .agg r.c
  | 9 => .bool true
  | 10 => .bool false
  | 11 => .bool false
  | 12 => .bool false
  | 13 => .pointer (some ⟨Mb, 0, none⟩)
  | 14 => .pointer (some ⟨Mb, 0, none⟩)
  | 15 => .pointer (some ⟨Mb, 0, none⟩)
  | 16 => .slice pa n pc
  | 17 => .int .i64 (n : Int)
  | 18 => .slice ua n uc
  | 19 => .int .i64 (n : Int)
  | 20 => .bool false
  | 21 => .bool false
  | _ => undef
theorem regN (Mb p Vb n pc uc : Nat) (pa ua : Option Addr) (cf : Array Value) (v : Vd) (m : Md) (ks : F) (t0 : Array Value) (wr : World) {Q : Exit → Act → World → Prop} (ht : t0.size = 69) (h3 : t0.getD 3 undef = .pointer (some ⟨p, 0, none⟩)) (h4 : t0.getD 4 undef = .pointer (some ⟨Mb, 0, none⟩)) (h5 : t0.getD 5 undef = .pointer (some ⟨Vb, 0, none⟩)) (h6 : t0.getD 6 undef = .slice ua n uc)
    (sf : cf.size = 41) (cW : wr.drew.cell? ⟨Mb, 2, none⟩ = some (.bool true)) (cP : wr.drew.cell? ⟨Mb, 0, none⟩ = some (.slice pa n pc)) (lf : Lies wr.drew Vb 0 cf)
    (hN : ∀ w, G wr.drew w → Calls Tryz.prog 11 #[.pointer (some ⟨p, 0, none⟩)] w fun e w' => ∃ c', e = .returned (.agg c') ∧ HasN w' c' ⟨#[]⟩ v m ks ∧ G w w')
    (hE : ∀ w d, G wr.drew w → HasN w d ⟨#[]⟩ v m ks → Calls Tryz.prog 10 #[.agg cf, .agg d] w fun e w' => e = .returned (.bool true) ∧ G w w')
    (hQ : ∀ (r : Ln) (w : World), G wr.drew w → Q .normal ⟨fold (opsAt Tryz.f3 9) (VN Mb p Vb n pc uc pa ua cf r) t0 22, []⟩ w) : (Code.region 9 (opsAt Tryz.f3 9) true).wp Tryz.prog Q ⟨t0, []⟩ wr := by
  have hB : dstB (opsAt Tryz.f3 9) t0.size = true := by rw [ht]; exact dstN
  refine inv_region (by kernel_rfl) (IE (opsAt Tryz.f3 9) (VN Mb p Vb n pc uc pa ua cf) t0 ((MN wr.drew v m ks) )) backN ⟨⟨#[]⟩, t0, rfl, ⟨rfl, fun _ _ => rfl, fun _ _ _ _ _ h => by cases h⟩, ⟨G.refl _, fun h => by cases h⟩⟩ ?_ ?_
  rotate_left 1
  · rintro done a w ⟨r, t, rfl, hS, hM⟩ hall
    rw [hS.end hB hall, sizeN]
    exact hQ r w hM.1
  · rintro jz op done a w ho ⟨r, t, rfl, hS, hM⟩ hnd hdep hcl
    have e3 : t[3]?.getD undef = .pointer (some ⟨p, 0, none⟩) := (hS.old freeN3).trans h3
    have e4 : t[4]?.getD undef = .pointer (some ⟨Mb, 0, none⟩) := (hS.old freeN4).trans h4
    have e5 : t[5]?.getD undef = .pointer (some ⟨Vb, 0, none⟩) := (hS.old freeN5).trans h5
    have e6 : t[6]?.getD undef = .slice ua n uc := (hS.old freeN6).trans h6
    have hlt : jz < 22 := by rw [← sizeN]; exact (Array.getElem?_eq_some_iff.1 ho).1
    match jz, hlt, ho, hnd, hdep with
    | 0, _, ho, hnd, hdep =>
      obtain ⟨hd, hop, hgd⟩ := say_of sN_0 ho
      refine ie_val r hB ho (wanted_none hgd) hd hS (hM.step (by decide)) ?_
      unfold execOp
      simp only [hop]
      simp [e4, VN, go_sem]
    | 1, _, ho, hnd, hdep =>
      obtain ⟨hd, hop, hgd⟩ := say_of sN_1 ho
      have x29 : t[29]?.getD undef = _ := hS.at dN_0 (waits (j := 0) (by kernel_rfl) ho hdep)
      simp only [VN] at x29
      refine ie_val r hB ho (wanted_none hgd) hd hS (hM.step (by decide)) ?_
      unfold execOp
      simp only [hop]
      simp [x29, VN, go_sem]
    | 2, _, ho, hnd, hdep =>
      obtain ⟨hd, hop, hgd⟩ := say_of sN_2 ho
      have x30 : t[30]?.getD undef = _ := hS.at dN_1 (waits (j := 1) (by kernel_rfl) ho hdep)
      simp only [VN] at x30
      refine ie_val r hB ho (wanted_none hgd) hd hS (hM.step (by decide)) ?_
      unfold execOp
      simp only [hop]
      simp [x30, VN, go_sem]
    | 3, _, ho, hnd, hdep =>
      obtain ⟨hd, hop, hgd⟩ := say_of sN_3 ho
      have x31 : t[31]?.getD undef = _ := hS.at dN_2 (waits (j := 2) (by kernel_rfl) ho hdep)
      simp only [VN] at x31
      have cz := hM.1.cell cW
      refine ie_val r hB ho (wanted_none hgd) hd hS (hM.step (by decide)) ?_
      unfold execOp
      simp only [hop]
      simp [x31, VN, cz, go_sem]
    | 4, _, ho, hnd, hdep =>
      obtain ⟨hd, hop, hgd⟩ := say_of sN_4 ho
      have x32 : t[32]?.getD undef = _ := hS.at dN_3 (waits (j := 3) (by kernel_rfl) ho hdep)
      simp only [VN] at x32
      refine ie_val r hB ho (wanted_none hgd) hd hS (hM.step (by decide)) ?_
      unfold execOp
      simp only [hop]
      simp [x32, VN, go_sem]
    | 5, _, ho, hnd, hdep =>
      obtain ⟨hd, hop, hgd⟩ := say_of sN_5 ho
      have x33 : t[33]?.getD undef = _ := hS.at dN_4 (waits (j := 4) (by kernel_rfl) ho hdep)
      simp only [VN] at x33
      refine ie_val r hB ho (wanted_none hgd) hd hS (hM.step (by decide)) ?_
      unfold execOp
      simp only [hop]
      simp [x33, VN, go_sem]
    | 6, _, ho, hnd, hdep =>
      obtain ⟨hd, hop, hgd⟩ := say_of sN_6 ho
      have gx : t[34]?.getD undef = _ := hS.at dN_5 (waits (j := 5) (by kernel_rfl) ho hdep)
      simp only [VN] at gx
      refine ie_val r hB ho (wanted_yes hgd dN_5 gx) hd hS (hM.step (by decide)) ?_
      exact exec_load30 (a := ⟨t, []⟩) _ hop Vb 0 (by show t.getD 5 undef = _; rw [Array.getD_eq_getD_getElem?]; exact e5) cf sf (hM.1.lies lf)
    | 7, _, ho, hnd, hdep =>
      obtain ⟨hd, hop, hgd⟩ := say_of sN_7 ho
      have gx : t[34]?.getD undef = _ := hS.at dN_5 (waits (j := 5) (by kernel_rfl) ho hdep)
      simp only [VN] at gx
      refine ie_val r hB ho (wanted_yes hgd dN_5 gx) hd hS (hM.step (by decide)) ?_
      unfold execOp
      simp only [hop]
      simp [e3, VN, go_sem]
    | 8, _, ho, hnd, hdep =>
      obtain ⟨hd, hop, hgd⟩ := say_of sN_8 ho
      have gx : t[34]?.getD undef = _ := hS.at dN_5 (waits (j := 5) (by kernel_rfl) ho hdep)
      simp only [VN] at gx
      have x36 : t[36]?.getD undef = _ := hS.at dN_7 (waits (j := 7) (by kernel_rfl) ho hdep)
      simp only [VN] at x36
      refine ie_call r 11 #[.pointer (some ⟨p, 0, none⟩)] hB ho (wanted_yes hgd dN_5 gx) hd hS ?_ ?_
      · skip
        unfold execOp
        simp only [hop]
        simp [x36, go_sem]
      · skip
        refine (hN w hM.1).mono ?_
        rintro e w' ⟨c', rfl, hn, hg⟩
        refine ⟨⟨c'⟩, rfl, fun k hk => ?_, hM.1.trans hg, fun _ => hn⟩
        have h8 : k ≠ 8 := fun e => by rw [e, hnd] at hk; cases hk
        unfold VN
        split <;> first | rfl | exact absurd rfl h8
    | 9, _, ho, hnd, hdep =>
      obtain ⟨hd, hop, hgd⟩ := say_of sN_9 ho
      have gx : t[34]?.getD undef = _ := hS.at dN_5 (waits (j := 5) (by kernel_rfl) ho hdep)
      simp only [VN] at gx
      have x35 : t[35]?.getD undef = _ := hS.at dN_6 (waits (j := 6) (by kernel_rfl) ho hdep)
      simp only [VN] at x35
      have x37 : t[37]?.getD undef = _ := hS.at dN_8 (waits (j := 8) (by kernel_rfl) ho hdep)
      simp only [VN] at x37
      have a8 : done 8 = true := waits (j := 8) (by kernel_rfl) ho hdep
      refine ie_call r 10 #[.agg cf, .agg r.c] hB ho (wanted_yes hgd dN_5 gx) hd hS ?_ ?_
      · skip
        unfold execOp
        simp only [hop]
        simp [x35, x37, go_sem]
      · skip
        refine (hE w r.c hM.1 (hM.2 a8)).mono ?_
        rintro e w' ⟨rfl, hg⟩
        exact ⟨r, rfl, fun _ _ => rfl, hM.1.trans hg, fun _ => (hM.2 a8).below hg⟩
    | 10, _, ho, hnd, hdep =>
      obtain ⟨hd, hop, hgd⟩ := say_of sN_10 ho
      have gx : t[34]?.getD undef = _ := hS.at dN_5 (waits (j := 5) (by kernel_rfl) ho hdep)
      simp only [VN] at gx
      have x38 : t[38]?.getD undef = _ := hS.at dN_9 (waits (j := 9) (by kernel_rfl) ho hdep)
      simp only [VN] at x38
      refine ie_val r hB ho (wanted_yes hgd dN_5 gx) hd hS (hM.step (by decide)) ?_
      unfold execOp
      simp only [hop]
      simp [x38, VN, go_sem]
    | 11, _, ho, hnd, hdep =>
      obtain ⟨hd, hop, hgd⟩ := say_of sN_11 ho
      have x34 : t[34]?.getD undef = _ := hS.at dN_5 (waits (j := 5) (by kernel_rfl) ho hdep)
      simp only [VN] at x34
      have x39 : t[39]?.getD undef = _ := hS.at dN_10 (waits (j := 10) (by kernel_rfl) ho hdep)
      simp only [VN] at x39
      refine ie_val r hB ho (wanted_none hgd) hd hS (hM.step (by decide)) ?_
      unfold execOp
      simp only [hop]
      simp [x34, x39, VN, go_sem]
    | 12, _, ho, hnd, hdep =>
      obtain ⟨hd, hop, hgd⟩ := say_of sN_12 ho
      have x40 : t[40]?.getD undef = _ := hS.at dN_11 (waits (j := 11) (by kernel_rfl) ho hdep)
      simp only [VN] at x40
      refine ie_val r hB ho (wanted_none hgd) hd hS (hM.step (by decide)) ?_
      unfold execOp
      simp only [hop]
      simp [x40, VN, go_sem]
    | 13, _, ho, hnd, hdep =>
      obtain ⟨hd, hop, hgd⟩ := say_of sN_13 ho
      have gx : t[41]?.getD undef = _ := hS.at dN_12 (waits (j := 12) (by kernel_rfl) ho hdep)
      simp only [VN] at gx
      refine ie_val r hB ho (wanted_yes hgd dN_12 gx) hd hS (hM.step (by decide)) ?_
      unfold execOp
      simp only [hop]
      simp [e4, VN, go_sem]
    | 14, _, ho, hnd, hdep =>
      obtain ⟨hd, hop, hgd⟩ := say_of sN_14 ho
      have gx : t[41]?.getD undef = _ := hS.at dN_12 (waits (j := 12) (by kernel_rfl) ho hdep)
      simp only [VN] at gx
      have x42 : t[42]?.getD undef = _ := hS.at dN_13 (waits (j := 13) (by kernel_rfl) ho hdep)
      simp only [VN] at x42
      refine ie_val r hB ho (wanted_yes hgd dN_12 gx) hd hS (hM.step (by decide)) ?_
      unfold execOp
      simp only [hop]
      simp [x42, VN, go_sem]
    | 15, _, ho, hnd, hdep =>
      obtain ⟨hd, hop, hgd⟩ := say_of sN_15 ho
      have gx : t[41]?.getD undef = _ := hS.at dN_12 (waits (j := 12) (by kernel_rfl) ho hdep)
      simp only [VN] at gx
      have x43 : t[43]?.getD undef = _ := hS.at dN_14 (waits (j := 14) (by kernel_rfl) ho hdep)
      simp only [VN] at x43
      refine ie_val r hB ho (wanted_yes hgd dN_12 gx) hd hS (hM.step (by decide)) ?_
      unfold execOp
      simp only [hop]
      simp [x43, VN, go_sem]
    | 16, _, ho, hnd, hdep =>
      obtain ⟨hd, hop, hgd⟩ := say_of sN_16 ho
      have gx : t[41]?.getD undef = _ := hS.at dN_12 (waits (j := 12) (by kernel_rfl) ho hdep)
      simp only [VN] at gx
      have x44 : t[44]?.getD undef = _ := hS.at dN_15 (waits (j := 15) (by kernel_rfl) ho hdep)
      simp only [VN] at x44
      have cz := hM.1.cell cP
      refine ie_val r hB ho (wanted_yes hgd dN_12 gx) hd hS (hM.step (by decide)) ?_
      unfold execOp
      simp only [hop]
      simp [x44, VN, cz, go_sem]
    | 17, _, ho, hnd, hdep =>
      obtain ⟨hd, hop, hgd⟩ := say_of sN_17 ho
      have gx : t[41]?.getD undef = _ := hS.at dN_12 (waits (j := 12) (by kernel_rfl) ho hdep)
      simp only [VN] at gx
      have x45 : t[45]?.getD undef = _ := hS.at dN_16 (waits (j := 16) (by kernel_rfl) ho hdep)
      simp only [VN] at x45
      refine ie_val r hB ho (wanted_yes hgd dN_12 gx) hd hS (hM.step (by decide)) ?_
      unfold execOp
      simp only [hop]
      simp [x45, VN, go_sem]
    | 18, _, ho, hnd, hdep =>
      obtain ⟨hd, hop, hgd⟩ := say_of sN_18 ho
      have gx : t[41]?.getD undef = _ := hS.at dN_12 (waits (j := 12) (by kernel_rfl) ho hdep)
      simp only [VN] at gx
      refine ie_val r hB ho (wanted_yes hgd dN_12 gx) hd hS (hM.step (by decide)) ?_
      unfold execOp
      simp only [hop]
      simp [e6, VN, go_sem]
    | 19, _, ho, hnd, hdep =>
      obtain ⟨hd, hop, hgd⟩ := say_of sN_19 ho
      have gx : t[41]?.getD undef = _ := hS.at dN_12 (waits (j := 12) (by kernel_rfl) ho hdep)
      simp only [VN] at gx
      have x47 : t[47]?.getD undef = _ := hS.at dN_18 (waits (j := 18) (by kernel_rfl) ho hdep)
      simp only [VN] at x47
      refine ie_val r hB ho (wanted_yes hgd dN_12 gx) hd hS (hM.step (by decide)) ?_
      unfold execOp
      simp only [hop]
      simp [x47, VN, go_sem]
    | 20, _, ho, hnd, hdep =>
      obtain ⟨hd, hop, hgd⟩ := say_of sN_20 ho
      have gx : t[41]?.getD undef = _ := hS.at dN_12 (waits (j := 12) (by kernel_rfl) ho hdep)
      simp only [VN] at gx
      have x46 : t[46]?.getD undef = _ := hS.at dN_17 (waits (j := 17) (by kernel_rfl) ho hdep)
      simp only [VN] at x46
      have x48 : t[48]?.getD undef = _ := hS.at dN_19 (waits (j := 19) (by kernel_rfl) ho hdep)
      simp only [VN] at x48
      refine ie_val r hB ho (wanted_yes hgd dN_12 gx) hd hS (hM.step (by decide)) ?_
      unfold execOp
      simp only [hop]
      simp [x46, x48, VN, go_sem]
    | 21, _, ho, hnd, hdep =>
      obtain ⟨hd, hop, hgd⟩ := say_of sN_21 ho
      have x41 : t[41]?.getD undef = _ := hS.at dN_12 (waits (j := 12) (by kernel_rfl) ho hdep)
      simp only [VN] at x41
      have x49 : t[49]?.getD undef = _ := hS.at dN_20 (waits (j := 20) (by kernel_rfl) ho hdep)
      simp only [VN] at x49
      refine ie_val r hB ho (wanted_none hgd) hd hS (hM.step (by decide)) ?_
      unfold execOp
      simp only [hop]
      simp [x41, x49, VN, go_sem]
theorem foldN (Mb p Vb n pc uc : Nat) (pa ua : Option Addr) (cf : Array Value) (r : Ln) (t0 : Array Value) : fold (opsAt Tryz.f3 9) (VN Mb p Vb n pc uc pa ua cf r) t0 22 = ((((((((((((((((((((((t0.setIfInBounds 29 (.pointer (some ⟨Mb, 0, none⟩))).setIfInBounds 30 (.pointer (some ⟨Mb, 0, none⟩))).setIfInBounds 31 (.pointer (some ⟨Mb, 2, none⟩))).setIfInBounds 32 (.bool true)).setIfInBounds 33 (.bool false)).setIfInBounds 34 (.bool false)).setIfInBounds 35 (.agg cf)).setIfInBounds 36 (.pointer (some ⟨p, 0, none⟩))).setIfInBounds 37 (.agg r.c)).setIfInBounds 38 (.bool true)).setIfInBounds 39 (.bool false)).setIfInBounds 40 (.bool false)).setIfInBounds 41 (.bool false)).setIfInBounds 42 (.pointer (some ⟨Mb, 0, none⟩))).setIfInBounds 43 (.pointer (some ⟨Mb, 0, none⟩))).setIfInBounds 44 (.pointer (some ⟨Mb, 0, none⟩))).setIfInBounds 45 (.slice pa n pc)).setIfInBounds 46 (.int .i64 (n : Int))).setIfInBounds 47 (.slice ua n uc)).setIfInBounds 48 (.int .i64 (n : Int))).setIfInBounds 49 (.bool false)).setIfInBounds 50 (.bool false)) := by kernel_rfl
end Go.Proofs.YtbjjbgaomoihaaaGreatDoor
