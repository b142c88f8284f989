/-
  WireBack's walk: what is written is read again.
-/
import Derived.Test.YthpelabmfpogbaaDoorKnown
namespace Go.Proofs.YthpelabmfpogbaaDoor
open Go.RowKit Wire

theorem strB_bytes (s : ByteArray) : Bytes (strB s) := by
  intro x hx
  obtain ⟨c, _, rfl⟩ := List.mem_map.1 hx
  have := c.toNat_lt
  omega

theorem mkStr_strB (s : ByteArray) : mkStr (strB s) = s := by
  have : (strB s).map (fun c => UInt8.ofNat c.toNat) = s.data.toList := by
    simp only [strB, List.map_map]
    conv => rhs; rw [← List.map_id s.data.toList]
    apply List.map_congr_left
    intro c _
    simp
  unfold mkStr
  rw [this]

theorem RdS.other {w w' : World} {lo R R' : Nat} {l : List Int} {s : St} (h : RdS w lo R l s) (hg : w.grownBy w' (some R')) (hne : R' < lo ∨ R < R') : RdS w' lo R l s := by
  have hlt := Rdr.lt h
  exact Rdr.kept h fun k h1 h2 => hg.block k (by omega) (by simp; omega)

theorem back_uint (n : Nat) (m : List Int) (most : Nat) (hn : n < 18446744073709551616) (hm : n ≤ most) : uintS (enc n ++ m) ⟨0, 0, 0⟩ most = (n, ⟨(enc n).length, 0, 0⟩) := by
  simp [uintS, rd_enc m hn, hm]

theorem back_text (a : List Int) (s : ByteArray) (m : List Int) (most : Int) (hs : s.size < 18446744073709551616) (hm : (s.size : Int) ≤ most) :
    textS (a ++ ((enc s.size ++ strB s) ++ m)) ⟨a.length, 0, 0⟩ most = (strB s, ⟨a.length + (enc s.size ++ strB s).length, 0, 0⟩) := by
  have h1 : (a ++ ((enc s.size ++ strB s) ++ m)).drop a.length = enc s.size ++ (strB s ++ m) := by simp
  have h2 := rd_enc (strB s ++ m) hs
  have h3 : (a ++ ((enc s.size ++ strB s) ++ m)).drop (a.length + (enc s.size).length) = strB s ++ m := by
    rw [← List.drop_drop, h1]; simp
  have hl := strB_len s
  have h4 : ¬ most < (s.size : Int) := by omega
  have h5 : ¬ (a ++ ((enc s.size ++ strB s) ++ m)).length < a.length + (enc s.size).length + s.size := by
    simp only [List.length_append, hl]; omega
  simp only [textS, ne_eq, not_true_eq_false, if_false, h1, h2, h4, h5, h3]
  congr 1
  · rw [← hl]; simp
  · congr 1
    rw [List.length_append, hl]; omega

set_option maxHeartbeats 4000000 in
set_option maxRecDepth 100000 in
theorem back_long (n : Nat) (s : ByteArray) (ao : Option Addr) (cap : Nat) (m : List Int) (w : World) (hs : s.size ≤ 9223372036854775807) (hml : m.length ≤ 9223372036854775807) (hbig : 65536 < s.size ∨ 65536 < m.length)
    (hg0 : w.cell? ⟨0, 0, none⟩ = some (.iface 84 (.agg #[.pointer (some ⟨1, 33, none⟩)]))) :
    Calls Tryd.prog 3 #[.int .u64 n, .string s, .slice ao m.length cap] w fun e w' => e = .returned (.bool true) ∧ Below w.heap.size w w' := by
  by_cases h1 : 65536 < s.size
  · go_enter Tryd.func3, Tryd.ntmps3
    go_wp2_with (go_at_call 6; refine (known_any _ hg0).mono ?_; rintro e w1 ⟨rfl, hb1⟩)
    go_ret
    exact ⟨rfl, hb1⟩
  · have h2 : 65536 < m.length := by omega
    go_enter Tryd.func3, Tryd.ntmps3
    go_wp2_with (go_at_call 6; refine (known_any _ hg0).mono ?_; rintro e w1 ⟨rfl, hb1⟩)
    go_ret
    exact ⟨rfl, hb1⟩

set_option maxHeartbeats 8000000 in
set_option maxRecDepth 100000 in
theorem back_short (n : Nat) (s : ByteArray) (ao : Option Addr) (cap : Nat) (m : List Int) (w : World) (hn : n < 18446744073709551616) (hs : s.size ≤ 65536) (hml : m.length ≤ 65536) (hm : Has w (.slice ao m.length cap) m) (hB : Bytes m)
    (hg0 : w.cell? ⟨0, 0, none⟩ = some (.iface 84 (.agg #[.pointer (some ⟨1, 33, none⟩)]))) :
    Calls Tryd.prog 3 #[.int .u64 n, .string s, .slice ao m.length cap] w fun e w' => e = .returned (.bool true) ∧ Below w.heap.size w w' := by
  have hl10 := enc_len64 hn
  have hlp := enc_pos n
  have hs64 : s.size < 18446744073709551616 := by omega
  have hk10 := enc_len64 hs64
  have hsl := strB_len s
  have hBl : (enc s.size ++ strB s).length ≤ 65546 := by rw [List.length_append, hsl]; omega
  have U1 : Hid (uintS (enc n ++ m) ⟨0, 0, 0⟩ n = (n, ⟨(enc n).length, 0, 0⟩)) := back_uint n m n hn (Nat.le_refl _)
  have U2 : Hid (uintS (enc n ++ ((enc s.size ++ strB s) ++ m)) ⟨0, 0, 0⟩ 18446744073709551615 = (n, ⟨(enc n).length, 0, 0⟩)) := back_uint n _ _ hn (by omega)
  have T1 : Hid (textS ((enc s.size ++ strB s) ++ m) ⟨0, 0, 0⟩ s.size = (strB s, ⟨(enc s.size ++ strB s).length, 0, 0⟩)) := by
    have := back_text [] s m s.size hs64 (by omega)
    show _ = _
    simpa using this
  have T2 : Hid (textS (enc n ++ ((enc s.size ++ strB s) ++ m)) ⟨(enc n).length, 0, 0⟩ ((s.size : Int) + 1) = (strB s, ⟨(enc n).length + (enc s.size ++ strB s).length, 0, 0⟩)) := back_text _ s m _ hs64 (by omega)
  have BA : Hid (Bytes (enc n)) := enc_bytes n
  have BB : Hid (Bytes (enc s.size ++ strB s)) := (enc_bytes _).append (strB_bytes s)
  have MS : Hid (mkStr (strB s) = s) := mkStr_strB s
  have HG : Hid (w.cell? ⟨0, 0, none⟩ = some (.iface 84 (.agg #[.pointer (some ⟨1, 33, none⟩)]))) := hg0
  clear hg0 hsl hk10
  go_enter Tryd.func3, Tryd.ntmps3
  go_wp2_with fail
  refine (known_any _ HG.out).mono ?_
  rintro e w1 ⟨rfl, hb1⟩
  replace hm := hm.below hb1
  go_wp2_with fail
  refine (putUint_any (.slice none 0 0) [] n _ (Has.nil _) hn (by simp)).mono ?_
  rintro e w2 ⟨va, rfl, ha, hb2⟩
  rw [List.nil_append] at ha
  replace ha := ha.has
  replace hm := hm.below hb2
  replace hb2 := Below.up hb1 hb2
  generalize enc n = A at *
  obtain ⟨aa, ca, hva, _⟩ := ha.form
  subst hva
  clear hb1 HG
  go_wp2_with fail
  refine (putText_any (.slice none 0 0) [] s _ (Has.nil _) (by omega) (by simp)).mono ?_
  rintro e w3 ⟨vb, rfl, hb, hb3⟩
  rw [List.nil_append] at hb
  replace hb := hb.has
  replace hm := hm.below hb3
  replace ha := ha.below hb3
  replace hb3 := Below.up hb2 hb3
  generalize enc s.size ++ strB s = B at *
  obtain ⟨ab, cb, hvb, _⟩ := hb.form
  subst hvb
  clear hb2
  go_wp2_with fail
  refine (behind_any _ _ A m _ ha hm (by omega)).mono ?_
  rintro e w4 ⟨v4, rfl, h4, hb4⟩
  replace h4 := h4.has
  replace hm := hm.below hb4
  replace ha := ha.below hb4
  replace hb := hb.below hb4
  replace hb4 := Below.up hb3 hb4
  clear hb3
  go_wp2_with fail
  refine (read_any _ (A ++ m) _ h4 (by simp; omega)).mono ?_
  rintro e w5 ⟨X, rfl, hX, hx5, hb5⟩
  replace hm := hm.below hb5
  replace ha := ha.below hb5
  replace hb := hb.below hb5
  have hXN : w.heap.size ≤ X := Nat.le_trans hb4.size hX
  replace hb5 := Below.up hb4 hb5
  replace hx5 : RdS w5 w4.heap.size X (A ++ m) ⟨0, 0, 0⟩ := hx5
  have hX5 := Rdr.lt hx5
  clear hb4 h4 hX
  go_wp2_with fail
  refine (behind_any _ _ B m _ hb hm (by omega)).mono ?_
  rintro e w6 ⟨v6, rfl, h6, hb6⟩
  replace h6 := h6.has
  replace hm := hm.below hb6
  replace ha := ha.below hb6
  replace hb := hb.below hb6
  have hx6 := hx5.grown hb6
  have hX6 : X < w6.heap.size := Nat.lt_of_lt_of_le hX5 hb6.size
  replace hb6 := Below.up hb5 hb6
  clear hb5 hx5 hX5
  go_wp2_with fail
  refine (read_any _ (B ++ m) _ h6 (by simp; omega)).mono ?_
  rintro e w7 ⟨Y, rfl, hY, hy7, hb7⟩
  replace hm := hm.below hb7
  replace ha := ha.below hb7
  replace hb := hb.below hb7
  have hx7 := hx6.grown hb7
  have hYN : w.heap.size ≤ Y := Nat.le_trans hb6.size hY
  replace hb7 := Below.up hb6 hb7
  replace hy7 : RdS w7 w6.heap.size Y (B ++ m) ⟨0, 0, 0⟩ := hy7
  have hY7 := Rdr.lt hy7
  clear hb6 h6 hx6
  go_wp2_with fail
  refine (behind_any _ _ A B _ ha hb (by omega)).mono ?_
  rintro e w8 ⟨v8, rfl, h8, hb8⟩
  replace h8 := h8.has
  replace hm := hm.below hb8
  have hx8 := hx7.grown hb8
  have hy8 := hy7.grown hb8
  have hY8 : Y < w8.heap.size := Nat.lt_of_lt_of_le hY7 hb8.size
  replace hb8 := Below.up hb7 hb8
  clear hb7 ha hb hx7 hy7 hY7
  go_wp2_with fail
  refine (behind_any _ _ (A ++ B) m _ h8 hm (by simp; omega)).mono ?_
  rintro e w9 ⟨v9, rfl, h9, hb9⟩
  replace h9 := h9.has
  rw [List.append_assoc] at h9
  have hx9 := hx8.grown hb9
  have hy9 := hy8.grown hb9
  have hY9 : Y < w9.heap.size := Nat.lt_of_lt_of_le hY8 hb9.size
  replace hb9 := Below.up hb8 hb9
  clear hb8 hm h8 hx8 hy8 hY8
  go_wp2_with fail
  refine (read_any _ (A ++ (B ++ m)) _ h9 (by simp; omega)).mono ?_
  rintro e w10 ⟨Z, rfl, hZ, hz, hb10⟩
  have hx10 := hx9.grown hb10
  have hy10 := hy9.grown hb10
  have hZN : w.heap.size ≤ Z := Nat.le_trans hb9.size hZ
  replace hb10 := Below.up hb9 hb10
  replace hz : RdS w10 w9.heap.size Z (A ++ (B ++ m)) ⟨0, 0, 0⟩ := hz
  clear hb9 h9 hx9 hy9
  have hN : w.heap.size ≤ w.heap.size := Nat.le_refl _
  have hXY : X < w6.heap.size := hX6
  have hYZ : Y < w9.heap.size := hY9
  have hXZ : X < w9.heap.size := by omega
  have c1 : Calls Tryd.prog 11 #[.pointer (some ⟨X, 0, none⟩), .int .u64 n] w10 fun e w' => e = .returned (.int .u64 n) ∧ RdS w' w4.heap.size X (A ++ m) ⟨A.length, 0, 0⟩ ∧ w10.grownBy w' (some X) := by
    have := uint_any _ X n _ _ w10 hx10 (BA.out.append hB)
    rw [U1.out] at this
    exact this
  have C1 : Hid (Calls Tryd.prog 11 #[.pointer (some ⟨X, 0, none⟩), .int .u64 n] w10 fun e w' => e = .returned (.int .u64 n) ∧ RdS w' w4.heap.size X (A ++ m) ⟨A.length, 0, 0⟩ ∧ w10.grownBy w' (some X)) := c1
  clear c1 U1
  go_wp2_with fail
  refine C1.out.mono ?_
  rintro e w11 ⟨rfl, hx11, hg11⟩
  have hy11 := hy10.other hg11 (.inl hXY)
  have hz11 := hz.other hg11 (.inl hXZ)
  have hb11 := below_grown hb10 hN hg11 hXN
  clear C1 hx10 hy10 hz hb10 hg11
  go_wp2_with fail
  refine (at_any _ _ _ _ _ hx11).mono ?_
  rintro e w12 ⟨rfl, rfl⟩
  go_wp2_with fail
  refine (err_none _ _ _ _ _ _ hx11).mono ?_
  rintro e w13 ⟨rfl, rfl⟩
  have C2 : Hid (Calls Tryd.prog 14 #[.pointer (some ⟨Y, 0, none⟩), .int .i64 s.size] w13 fun e w' => e = .returned (.string s) ∧ RdS w' w6.heap.size Y (B ++ m) ⟨B.length, 0, 0⟩ ∧ w13.grownBy w' (some Y)) := by
    have := text_any _ Y s.size _ _ w13 hy11 (BB.out.append hB) (by omega)
    rw [T1.out, MS.out] at this
    exact this
  clear T1 hx11
  go_wp2_with fail
  refine C2.out.mono ?_
  rintro e w14 ⟨rfl, hy14, hg14⟩
  have hz14 := hz11.other hg14 (.inl hYZ)
  have hb14 := below_grown hb11 hN hg14 hYN
  clear C2 hy11 hz11 hb11 hg14
  go_wp2_with fail
  refine (at_any _ _ _ _ _ hy14).mono ?_
  rintro e w15 ⟨rfl, rfl⟩
  go_wp2_with fail
  refine (err_none _ _ _ _ _ _ hy14).mono ?_
  rintro e w16 ⟨rfl, rfl⟩
  have C3 : Hid (Calls Tryd.prog 11 #[.pointer (some ⟨Z, 0, none⟩), .int .u64 18446744073709551615] w16 fun e w' => e = .returned (.int .u64 n) ∧ RdS w' w9.heap.size Z (A ++ (B ++ m)) ⟨A.length, 0, 0⟩ ∧ w16.grownBy w' (some Z)) := by
    have := uint_any _ Z 18446744073709551615 _ _ w16 hz14 (BA.out.append (BB.out.append hB))
    rw [U2.out] at this
    exact this
  clear U2 hy14
  go_wp2_with fail
  refine C3.out.mono ?_
  rintro e w17 ⟨rfl, hz17, hg17⟩
  have hb17 := below_grown hb14 hN hg17 hZN
  clear C3 hz14 hb14 hg17
  have C4 : Hid (Calls Tryd.prog 14 #[.pointer (some ⟨Z, 0, none⟩), .int .i64 ((s.size : Int) + 1)] w17 fun e w' => e = .returned (.string s) ∧ RdS w' w9.heap.size Z (A ++ (B ++ m)) ⟨A.length + B.length, 0, 0⟩ ∧ w17.grownBy w' (some Z)) := by
    have := text_any _ Z ((s.size : Int) + 1) _ _ w17 hz17 (BA.out.append (BB.out.append hB)) (by omega)
    rw [T2.out, MS.out] at this
    exact this
  clear T2 hz17
  go_wp2_with fail
  refine C4.out.mono ?_
  rintro e w18 ⟨rfl, hz18, hg18⟩
  have hb18 := below_grown hb17 hN hg18 hZN
  clear C4 hb17 hg18
  go_wp2_with fail
  refine (at_any _ _ _ _ _ hz18).mono ?_
  rintro e w19 ⟨rfl, rfl⟩
  go_wp2_with fail
  refine (err_none _ _ _ _ _ _ hz18).mono ?_
  rintro e w20 ⟨rfl, rfl⟩
  go_wp2
  go_ret
  have h10 : decide ((A.length : Int) ≤ 10) = true := by simp; omega
  exact ⟨congrArg (fun b => Ending.returned (.bool b)) h10, hb18⟩
end Go.Proofs.YthpelabmfpogbaaDoor
