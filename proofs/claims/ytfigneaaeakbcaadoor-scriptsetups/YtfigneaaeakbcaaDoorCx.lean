/-
  A CUTTER'S STEPS: what each sign does.
-/
import Derived.Test.YtfigneaaeakbcaaDoorCw
namespace Go.Proofs.YtfigneaaeakbcaaDoor
open Go.RowKit Hm
attribute [local go_sem] Oper.semAt_some

theorem conv_own {w : World} {lo : Nat} {v : Value} {s : By} (h : OwL 5 1 w lo v (s.map bc)) : (convert 73 9 v).run Tryd.prog w = .ok (.string ⟨s.toArray⟩) w := by
  rcases h.has with ⟨rfl, hs⟩ | ⟨g, o, cap, rfl, _, hat⟩
  · have : s = [] := by simpa using hs
    subst this
    exact Go.run_convert_bytes_string w 73 9 5 none 0 0 Tryd.underlying73 Tryd.underlying5 Tryd.underlying9
  · have := run_convert_bytes_back (P := Tryd.prog) w 73 9 5 ⟨g, o, none⟩ cap s Tryd.underlying73 Tryd.underlying5 Tryd.underlying9 (fun j hj => by
      have := hat j (bc s[j]) (by simp [hj]) 0 (.int .u8 (s[j].toNat : Int)) rfl
      rw [Nat.mul_one, Nat.add_zero] at this
      rw [Addr.add_mid]
      exact this)
    simpa using this
theorem u8w (c : Nat) : IntKind.u8.wrap (c : Int) = ((UInt8.ofNat c).toNat : Int) := by
  rw [UInt8.toNat_ofNat']
  simp [IntKind.wrap, IntKind.signed, IntKind.bits]
theorem Ct.set3 {b : Nat} {line : ByteArray} {a : Nat} {x : Cs} {w : World} (h : Ct b line a x w) (k : Nat) : Ct b line a { x with k := k } (w.setCell ⟨b, 3, none⟩ (.int .i64 (k : Int))) ∧ Fr b w (w.setCell ⟨b, 3, none⟩ (.int .i64 (k : Int))) := by
  obtain ⟨wv, sv, h⟩ := h
  have hk := Kp.set w b 3 (.int .i64 (k : Int))
  exact ⟨⟨_, _, h.set (y := { x with k := k }) hk rfl rfl (by rw [heap_setCell_at _ h.blk]; rfl)⟩, h.frb hk⟩
theorem Ct.set4 {b : Nat} {line : ByteArray} {a : Nat} {x : Cs} {w : World} (h : Ct b line a x w) (f : Nat) : Ct b line a { x with f := f } (w.setCell ⟨b, 4, none⟩ (.int .i64 (f : Int))) ∧ Fr b w (w.setCell ⟨b, 4, none⟩ (.int .i64 (f : Int))) := by
  obtain ⟨wv, sv, h⟩ := h
  have hk := Kp.set w b 4 (.int .i64 (f : Int))
  exact ⟨⟨_, _, h.set (y := { x with f := f }) hk rfl rfl (by rw [heap_setCell_at _ h.blk]; rfl)⟩, h.frb hk⟩
theorem Ct.set5 {b : Nat} {line : ByteArray} {a : Nat} {x : Cs} {w : World} (h : Ct b line a x w) : Ct b line a { x with s := [] } (w.setCell ⟨b, 5, none⟩ (.slice none 0 0)) ∧ Fr b w (w.setCell ⟨b, 5, none⟩ (.slice none 0 0)) := by
  obtain ⟨wv, sv, h⟩ := h
  have hk := Kp.set w b 5 (.slice none 0 0)
  refine ⟨⟨_, _, by rw [heap_setCell_at _ h.blk]; rfl, h.ws.block fun g e => hk.block g (h.ws.lt g e).2 ?_, OwL.nil _ _ _ _⟩, h.frb hk⟩
  have := (h.ws.lt g e).1; omega
theorem Ct.c3 {b : Nat} {line : ByteArray} {a : Nat} {x : Cs} {w : World} (h : Ct b line a x w) : w.cell? ⟨b, 3, none⟩ = some (.int .i64 (x.k : Int)) ∧ w.frozen? ⟨b, 3, none⟩ = false := by
  obtain ⟨wv, sv, h⟩ := h
  exact ⟨by rw [cell_heap h.blk]; rfl, by simp [World.frozen?, h.blk]⟩
theorem Ct.c4 {b : Nat} {line : ByteArray} {a : Nat} {x : Cs} {w : World} (h : Ct b line a x w) : w.cell? ⟨b, 4, none⟩ = some (.int .i64 (x.f : Int)) ∧ w.frozen? ⟨b, 4, none⟩ = false := by
  obtain ⟨wv, sv, h⟩ := h
  exact ⟨by rw [cell_heap h.blk]; rfl, by simp [World.frozen?, h.blk]⟩
theorem Ct.c5 {b : Nat} {line : ByteArray} {a : Nat} {x : Cs} {w : World} (h : Ct b line a x w) : ∃ v, w.cell? ⟨b, 5, none⟩ = some v ∧ w.frozen? ⟨b, 5, none⟩ = false ∧ OwL 5 1 w (b + 1) v (x.s.map bc) := by
  obtain ⟨wv, sv, h⟩ := h
  exact ⟨sv, by rw [cell_heap h.blk]; rfl, by simp [World.frozen?, h.blk], h.sy⟩
theorem Ct.lt {b : Nat} {line : ByteArray} {a : Nat} {x : Cs} {w : World} (h : Ct b line a x w) : b < w.heap.size := by
  obtain ⟨wv, sv, h⟩ := h
  exact h.lt
set_option maxRecDepth 100000 in
set_option maxHeartbeats 4000000 in
theorem quo_any {b : Nat} {line : ByteArray} {a : Nat} {x : Cs} {w : World} (h : Ct b line a x w) (c : Nat) (ha : a + x.f < 1000000000) (hn : x.ws.length < 1000000) (hs : x.s.length < 1000000) :
    Calls Tryd.prog 29 #[.pointer (some ⟨b, 0, none⟩), .int .i32 (c : Int)] w fun e w' => e = .returned (.tuple #[]) ∧ Ct b line a (quoC a c x) w' ∧ Fr b w w' := by
  have H := hid h
  have hb := h.lt
  obtain ⟨v5, hz5, _, ho5⟩ := h.c5
  obtain ⟨hz3, hf3⟩ := h.c3
  have hcv := conv_own ho5
  obtain ⟨sa, sk, rfl⟩ := ho5.form
  clear ho5 h
  generalize (List.map bc x.s).length = sl at *
  have hu8 := u8w c
  unfold quoC
  generalize UInt8.ofNat c = d at hu8 ⊢
  by_cases h1 : c = 34
  · rw [if_pos h1]
    subst h1
    have C := hid (lay_any H.out 1 0 ⟨x.s.toArray⟩ ha hn)
    rw [show tl ⟨x.s.toArray⟩ = x.s from by simp [tl, ByteArray.toList_eq]] at C
    go_enter Tryd.func29, Tryd.ntmps29
    go_wp2_with (go_at_call 43; refine C.out.mono ?_; rintro e w1 ⟨rfl, h1, h2⟩; have H1 := hid (⟨h1, h2⟩ : _ ∧ _); clear h1 h2)
    go_end0
    exact ⟨rfl, H1.out⟩
  · rw [if_neg h1]
    have b1 : ((c : Int) == 34) = false := by simp; omega
    by_cases h2 : c = 92
    · rw [if_pos h2]
      subst h2
      go_enter Tryd.func29, Tryd.ntmps29
      go_wp2
      go_end0
      exact ⟨rfl, H.out.set3 3⟩
    · rw [if_neg h2]
      have b2 : ((c : Int) == 92) = false := by simp; omega
      by_cases h3 : c < 32 ∨ 126 < c
      · rw [if_pos h3]
        have C := hid (spoil_any H.out ha hn)
        by_cases h4 : c < 32
        · have b3 : (c : Int) < 32 := by omega
          go_enter Tryd.func29, Tryd.ntmps29
          go_wp2_with (go_at_call 34; refine C.out.mono ?_; rintro e w1 ⟨rfl, h1, h2⟩; have H1 := hid (⟨h1, h2⟩ : _ ∧ _); clear h1 h2)
          go_end0
          exact ⟨rfl, H1.out⟩
        · have b3 : ¬ (c : Int) < 32 := by omega
          have b4 : (126 : Int) < c := by omega
          go_enter Tryd.func29, Tryd.ntmps29
          go_wp2_with (go_at_call 34; refine C.out.mono ?_; rintro e w1 ⟨rfl, h1, h2⟩; have H1 := hid (⟨h1, h2⟩ : _ ∧ _); clear h1 h2)
          go_end0
          exact ⟨rfl, H1.out⟩
      · rw [if_neg h3]
        have b3 : ¬ (c : Int) < 32 := by omega
        have b4 : ¬ (126 : Int) < c := by omega
        have C := hid (say_any H.out d hs)
        go_enter Tryd.func29, Tryd.ntmps29
        go_wp2_with (go_at_call 44; refine C.out.mono ?_; rintro e w1 ⟨rfl, h1, h2⟩; have H1 := hid (⟨h1, h2⟩ : _ ∧ _); clear h1 h2)
        go_end0
        exact ⟨rfl, H1.out⟩
set_option maxRecDepth 100000 in
set_option maxHeartbeats 4000000 in
theorem esc_any {b : Nat} {line : ByteArray} {a : Nat} {x : Cs} {w : World} (h : Ct b line a x w) (c : Nat) (ha : a + x.f < 1000000000) (hn : x.ws.length < 1000000) (hs : x.s.length < 1000000) :
    Calls Tryd.prog 30 #[.pointer (some ⟨b, 0, none⟩), .int .i32 (c : Int)] w fun e w' => e = .returned (.tuple #[]) ∧ Ct b line a (escC a c x) w' ∧ Fr b w w' := by
  have H := hid h
  clear h
  have hu8 := u8w c
  unfold escC
  generalize hd : UInt8.ofNat c = d at hu8 ⊢
  by_cases h1 : c = 34 ∨ c = 92
  · rw [if_pos h1]
    have C := hid (say_any H.out d hs)
    by_cases h2 : c = 34
    · subst h2
      have C0 := C.out
      rw [← hd, show (((UInt8.ofNat 34).toNat : Nat) : Int) = 34 from rfl, hd] at C0
      have C := hid C0
      clear C0 hu8 hd
      go_enter Tryd.func30, Tryd.ntmps30
      go_wp2_with (go_at_call 44; refine C.out.mono ?_; rintro e w1 ⟨rfl, h1, h2⟩; have H1 := hid (⟨h1, h2⟩ : _ ∧ _); clear h1 h2)
      go_end0
      exact ⟨rfl, H1.out⟩
    · have b1 : ((c : Int) == 34) = false := by simp; omega
      have b2 : ((c : Int) == 92) = true := by simp; omega
      go_enter Tryd.func30, Tryd.ntmps30
      go_wp2_with (go_at_call 44; refine C.out.mono ?_; rintro e w1 ⟨rfl, h1, h2⟩; have H1 := hid (⟨h1, h2⟩ : _ ∧ _); clear h1 h2)
      go_end0
      exact ⟨rfl, H1.out⟩
  · rw [if_neg h1]
    have b1 : ((c : Int) == 34) = false := by simp; omega
    have b2 : ((c : Int) == 92) = false := by simp; omega
    by_cases h3 : c = 120
    · rw [if_pos h3]
      have b3 : ((c : Int) == 120) = true := by simp; omega
      have C0 := say_any H.out 0 hs
      rw [show (((0 : UInt8).toNat : Nat) : Int) = 0 from rfl] at C0
      have C := hid C0
      clear C0
      go_enter Tryd.func30, Tryd.ntmps30
      go_wp2_with (go_at_call 44; refine C.out.mono ?_; rintro e w1 ⟨rfl, h1, h2⟩; have c3 := h1.c3.1; have f3 := h1.c3.2; have H1 := hid (⟨h1, h2⟩ : _ ∧ _); clear h1 h2)
      go_end0
      have := H1.out.1.set3 4
      exact ⟨rfl, this.1, H1.out.2.trans this.2⟩
    · rw [if_neg h3]
      have b3 : ((c : Int) == 120) = false := by simp; omega
      have C := hid (spoil_any H.out ha hn)
      go_enter Tryd.func30, Tryd.ntmps30
      go_wp2_with (go_at_call 34; refine C.out.mono ?_; rintro e w1 ⟨rfl, h1, h2⟩; have H1 := hid (⟨h1, h2⟩ : _ ∧ _); clear h1 h2)
      go_end0
      exact ⟨rfl, H1.out⟩
end Go.Proofs.YtfigneaaeakbcaaDoor
