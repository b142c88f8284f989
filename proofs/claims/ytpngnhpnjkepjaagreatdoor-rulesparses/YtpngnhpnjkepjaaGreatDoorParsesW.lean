/-
  RulesParses' walk.
-/
import Derived.Test.YtpngnhpnjkepjaaGreatDoorTParse
import Derived.Test.YtpngnhpnjkepjaaGreatDoorTText
import Derived.Deep.Cut
import Derived.Test.YtpngnhpnjkepjaaGreatDoorTells
namespace Go.Proofs.YtpngnhpnjkepjaaGreatDoor
open Go.RowKit

set_option maxHeartbeats 2000000 in
set_option maxRecDepth 100000 in
theorem tmir_any (v : Value) (L : List Ru) (w : World) (hv : HasR w v L) (hL : ∀ r ∈ L, r.1 = 1 ∨ r.1 = 2 ∨ r.1 = 3) (hn : L.length ≤ 64) :
    Calls Tryz.prog 9 #[v] w fun e w' => ∃ v', e = .returned v' ∧ (HasR w' v' (mirR L) ∧ ∀ b, v'.ownBlock = some b → w.heap.size ≤ b) ∧ Below w.heap.size w w' := by
  obtain ⟨i0, hi, hz0, hz1, hz2⟩ := info_parts Tryz.info57
  have HV : Hid (HasR w v L) := hv
  have HL : Hid (∀ r ∈ L, r.1 = 1 ∨ r.1 = 2 ∨ r.1 = 3) := hL
  obtain ⟨ao, cap, hvf⟩ := hv.form
  clear hv hL
  obtain ⟨N, hN⟩ : ∃ N, L.length = N := ⟨_, rfl⟩
  rw [hN] at hvf hn
  have HN : Hid (L.length = N) := hN
  subst hvf
  clear hN
  go_enter Tryz.func9, Tryz.ntmps9
  go_wp2
  go_loopw [3, 4] (fun t3 t4 wr => ∃ (n : Nat) (so : Option Addr) (sc : Nat), t3 = .slice so n sc ∧ t4 = .int .i64 (n : Int) ∧ n ≤ N ∧ Hid (OwnsR wr w.heap.size (.slice so n sc) (mirR (L.take n)) ∧ (n = 0 → Value.slice so n sc = .slice none 0 0)) ∧ Hid (Below w.heap.size w wr)) (fun _ t4 wr => N - iOf t4)
  case atStart => exact ⟨0, none, 0, rfl, rfl, Nat.zero_le _, ⟨World.ownsRow_nil _ _ _ _, fun _ => rfl⟩, Below.refl _ _⟩
  case round =>
    obtain ⟨n, so, sc, rfl, rfl, hnN, HO, HB⟩ := hrel
    by_cases hlt : n < N
    · have i1 : (n : Int) < (N : Int) := by omega
      obtain ⟨r, hr⟩ : ∃ r, L[n]? = some r := ⟨_, List.getElem?_eq_getElem (by rw [HN.out]; exact hlt)⟩
      obtain ⟨g, rfl, hc⟩ : ∃ g, ao = some ⟨g, 0, none⟩ ∧ ∀ i r, L[i]? = some r → wr.cell? ⟨g, i * 2, none⟩ = some (.int .i64 (r.1 : Int)) ∧ wr.cell? ⟨g, i * 2 + 1, none⟩ = some (.string (ofB r.2)) := by
        rcases HV.out.up HB.out with ⟨_, h⟩ | ⟨_, g, c2, hv, _, h⟩
        · subst h; simp at hr
        · cases hv; exact ⟨g, rfl, h⟩
      obtain ⟨y0, y1⟩ := hc n r hr
      clear hc
      have hm := List.mem_of_getElem? hr
      have hk := HL.out r hm
      obtain ⟨k, p⟩ := r
      simp only at hk y0 y1
      have hlen : (mirR (L.take n)).length = n := by rw [mirR_len, List.length_take, HN.out]; omega
      have hown : wr.ownsRow w.heap.size 57 2 (.slice so n sc) n (rcs (mirR (L.take n))) := by have := HO.out.1; unfold OwnsR at this; rw [hlen] at this; exact this
      have HW : Hid (∀ (W w4 : World) v' , World.ownsRow w4 w.heap.size 57 2 v' (n + 1) (rcs (mirR (L.take n)) ++ [.int .i64 (mirK k : Int), .string (ofB p)]) → OwnsR w4 w.heap.size v' (mirR (L.take (n + 1)))) := fun W w4 v' h => by
        rw [take_snoc hr, mirR_snoc]
        unfold OwnsR
        rw [rcs_app, List.length_append, hlen]
        exact h
      have hown' : Hid (wr.ownsRow w.heap.size 57 2 (.slice so n sc) n (rcs (mirR (L.take n)))) := hown
      clear hr hm hlen HO hown
      rcases hk with rfl | rfl | rfl
      · have HW2 := fun w4 v' => HW.out wr w4 v'
        rw [show ((mirK 1 : Nat) : Int) = 1 from rfl] at HW2
        have HW3 : Hid (∀ (w4 : World) v', World.ownsRow w4 w.heap.size 57 2 v' (n + 1) (rcs (mirR (L.take n)) ++ [.int .i64 1, .string (ofB p)]) → OwnsR w4 w.heap.size v' (mirR (L.take (n + 1)))) := HW2
        clear HW HW2
        go_wp2_with (at_builtin; refine wpList_append_own _ rfl _ _ 22 rfl w.heap.size 57 i0 (.agg #[.int .i64 0, .string ⟨#[]⟩]) 2 24 Tryz.underlying22 hi hz0 hz1 hz2 rfl (by decide) _ _ _ rfl (World.ownsRow.alloc (World.ownsRow.alloc hown'.out _) _) ⟨wr.heap.size + 1, 0, none⟩ 1 1 [.int .i64 1, .string (ofB p)] rfl rfl ?c1 ?c2 ?c3 ?c4 ?c5 ?_)
        case c1 => have := two_new_at (w := wr.alloc (.cells #[.int .i64 1, .string (ofB p)] 57)) (a := .int .i64 1) (b := .string (ofB p)) (T := 57); simpa only [World.size_alloc] using this
        case c2 => exact one2 rfl rfl
        case c3 => unfold maxLen; omega
        case c4 => omega
        case c5 => have := HB.out.size; simp; omega
        intro v' w4 hown4 hgrow _
        have R2 : Below w.heap.size w w4 := by
          have h1 := HB.out
          have h2 := h1.size
          exact ((h1.alloc h2 _).alloc (by simp; omega) _).grown hgrow (by simp; omega) fun k hk => (World.ownsRow.lt hown'.out k hk).1
        have R1 := HW3.out w4 v' hown4
        obtain ⟨vo, vc, rfl⟩ := owns_form hown4
        have HO2 : Hid (OwnsR w4 w.heap.size (.slice vo (n + 1) vc) (mirR (L.take (n + 1))) ∧ (n + 1 = 0 → Value.slice vo (n + 1) vc = .slice none 0 0)) := ⟨R1, fun h => by omega⟩
        have HB2 : Hid (Below w.heap.size w w4) := R2
        clear hown4 hgrow R1 R2 HW3 hown'
        go_wp2
        go_roundw
        case rel => exact ⟨n + 1, vo, vc, rfl, by go_num, by omega, HO2, HB2⟩
        case measure => simp; omega
      · have HW2 := fun w4 v' => HW.out wr w4 v'
        rw [show ((mirK 2 : Nat) : Int) = 3 from rfl] at HW2
        have HW3 : Hid (∀ (w4 : World) v', World.ownsRow w4 w.heap.size 57 2 v' (n + 1) (rcs (mirR (L.take n)) ++ [.int .i64 3, .string (ofB p)]) → OwnsR w4 w.heap.size v' (mirR (L.take (n + 1)))) := HW2
        clear HW HW2
        go_wp2_with (at_builtin; refine wpList_append_own _ rfl _ _ 22 rfl w.heap.size 57 i0 (.agg #[.int .i64 0, .string ⟨#[]⟩]) 2 24 Tryz.underlying22 hi hz0 hz1 hz2 rfl (by decide) _ _ _ rfl (World.ownsRow.alloc (World.ownsRow.alloc hown'.out _) _) ⟨wr.heap.size + 1, 0, none⟩ 1 1 [.int .i64 3, .string (ofB p)] rfl rfl ?c1 ?c2 ?c3 ?c4 ?c5 ?_)
        case c1 => have := two_new_at (w := wr.alloc (.cells #[.int .i64 3, .string (ofB p)] 57)) (a := .int .i64 3) (b := .string (ofB p)) (T := 57); simpa only [World.size_alloc] using this
        case c2 => exact one2 rfl rfl
        case c3 => unfold maxLen; omega
        case c4 => omega
        case c5 => have := HB.out.size; simp; omega
        intro v' w4 hown4 hgrow _
        have R2 : Below w.heap.size w w4 := by
          have h1 := HB.out
          have h2 := h1.size
          exact ((h1.alloc h2 _).alloc (by simp; omega) _).grown hgrow (by simp; omega) fun k hk => (World.ownsRow.lt hown'.out k hk).1
        have R1 := HW3.out w4 v' hown4
        obtain ⟨vo, vc, rfl⟩ := owns_form hown4
        have HO2 : Hid (OwnsR w4 w.heap.size (.slice vo (n + 1) vc) (mirR (L.take (n + 1))) ∧ (n + 1 = 0 → Value.slice vo (n + 1) vc = .slice none 0 0)) := ⟨R1, fun h => by omega⟩
        have HB2 : Hid (Below w.heap.size w w4) := R2
        clear hown4 hgrow R1 R2 HW3 hown'
        go_wp2
        go_roundw
        case rel => exact ⟨n + 1, vo, vc, rfl, by go_num, by omega, HO2, HB2⟩
        case measure => simp; omega
      · have HW2 := fun w4 v' => HW.out wr w4 v'
        rw [show ((mirK 3 : Nat) : Int) = 2 from rfl] at HW2
        have HW3 : Hid (∀ (w4 : World) v', World.ownsRow w4 w.heap.size 57 2 v' (n + 1) (rcs (mirR (L.take n)) ++ [.int .i64 2, .string (ofB p)]) → OwnsR w4 w.heap.size v' (mirR (L.take (n + 1)))) := HW2
        clear HW HW2
        go_wp2_with (at_builtin; refine wpList_append_own _ rfl _ _ 22 rfl w.heap.size 57 i0 (.agg #[.int .i64 0, .string ⟨#[]⟩]) 2 24 Tryz.underlying22 hi hz0 hz1 hz2 rfl (by decide) _ _ _ rfl (World.ownsRow.alloc (World.ownsRow.alloc hown'.out _) _) ⟨wr.heap.size + 1, 0, none⟩ 1 1 [.int .i64 2, .string (ofB p)] rfl rfl ?c1 ?c2 ?c3 ?c4 ?c5 ?_)
        case c1 => have := two_new_at (w := wr.alloc (.cells #[.int .i64 2, .string (ofB p)] 57)) (a := .int .i64 2) (b := .string (ofB p)) (T := 57); simpa only [World.size_alloc] using this
        case c2 => exact one2 rfl rfl
        case c3 => unfold maxLen; omega
        case c4 => omega
        case c5 => have := HB.out.size; simp; omega
        intro v' w4 hown4 hgrow _
        have R2 : Below w.heap.size w w4 := by
          have h1 := HB.out
          have h2 := h1.size
          exact ((h1.alloc h2 _).alloc (by simp; omega) _).grown hgrow (by simp; omega) fun k hk => (World.ownsRow.lt hown'.out k hk).1
        have R1 := HW3.out w4 v' hown4
        obtain ⟨vo, vc, rfl⟩ := owns_form hown4
        have HO2 : Hid (OwnsR w4 w.heap.size (.slice vo (n + 1) vc) (mirR (L.take (n + 1))) ∧ (n + 1 = 0 → Value.slice vo (n + 1) vc = .slice none 0 0)) := ⟨R1, fun h => by omega⟩
        have HB2 : Hid (Below w.heap.size w w4) := R2
        clear hown4 hgrow R1 R2 HW3 hown'
        go_wp2
        go_roundw
        case rel => exact ⟨n + 1, vo, vc, rfl, by go_num, by omega, HO2, HB2⟩
        case measure => simp; omega
    · have hn2 : n = N := by omega
      subst hn2
      have hR : HasR wr (.slice so n sc) (mirR L) := by
        have e : L.take n = L := List.take_of_length_le (by rw [HN.out]; exact Nat.le_refl _)
        have h := HO.out
        rw [e] at h
        refine h.1.has fun q => h.2 ?_
        have := congrArg List.length q
        rw [mirR_len, HN.out] at this
        exact this
      have HR : Hid (HasR wr (.slice so n sc) (mirR L) ∧ ∀ b, (Value.slice so n sc).ownBlock = some b → w.heap.size ≤ b) := ⟨hR, fun b hb => (World.ownsRow.lt HO.out.1 b hb).1⟩
      clear hR HO
      go_wp2
      go_ret
      exact ⟨_, rfl, HR.out, HB.out⟩
end Go.Proofs.YtpngnhpnjkepjaaGreatDoor
namespace Go.Proofs.YtpngnhpnjkepjaaGreatDoor
open Go.RowKit

theorem parseR_line {l : By} {k : Nat} {e : Int} (h : parseR l = (none, k, e)) : e ≠ 0 := by
  unfold parseR at h
  split at h
  · cases h; decide
  · generalize linesR l = xs at h
    generalize (0 : Nat) = i at h
    generalize ([] : List Ru) = acc at h
    induction xs generalizing i acc with
    | nil => cases h
    | cons x xs ih =>
      unfold parseL at h
      split at h
      · exact ih _ _ h
      · split at h
        · rename_i hr
          cases h; exact hr
        · exact ih _ _ h
theorem good_short {L : List Ru} {l : By} (h : parseR l = (some L, 0, 0)) : ∀ r ∈ L, r.2.length ≤ 4000 := by
  obtain ⟨h1, h2, _, _, h5⟩ := parseR_good h
  intro r hr
  have h3 := joinR_ge (M := L.map lineR) (List.mem_map.2 ⟨r, hr, rfl⟩)
  have h4 : (lineR r).length = (headB r.1).length + r.2.length := List.length_append
  have h6 : (joinR (L.map lineR)).length ≤ l.length := h2
  omega
theorem parse_cases (l : By) : (∃ (k : Nat) (e : Int), parseR l = (none, k, e) ∧ e ≠ 0) ∨ (∃ L, parseR l = (some L, 0, 0)) := by
  rcases hp : parseR l with ⟨o, k, e⟩
  cases o with
  | none => exact .inl ⟨k, e, rfl, parseR_line hp⟩
  | some L =>
    obtain ⟨_, _, rfl, rfl, _⟩ := parseR_good hp
    exact .inr ⟨L, rfl⟩
/-- the Book with m lists, the reference's list beside it -/
def LawQ (w : World) (K : Nat) (lv : Value) (L : List Ru) (m : Nat) (wr : World) : Prop := ∃ B, BookOk wr w.heap.size K m B ∧ Below w.heap.size w wr ∧ OffR B wr lv L
/-- rules and their mirror beside it -/
def LawP (w : World) (K : Nat) (lv : Value) (p q : Nat) (L : List Ru) (m : Nat) (wr : World) : Prop := ∃ B, BookOk wr w.heap.size K m B ∧ Below w.heap.size w wr ∧ OffR B wr lv L ∧ OffL B wr p L ∧ OffL B wr q (mirR L)
def LawZ (w : World) (K : Nat) (lv : Value) (p q : Nat) (zv : Value) (L : List Ru) (m : Nat) (wr : World) : Prop := ∃ B, BookOk wr w.heap.size K m B ∧ Below w.heap.size w wr ∧ OffR B wr lv L ∧ OffL B wr p L ∧ OffL B wr q (mirR L) ∧ OffR B wr zv (mirR L)
theorem LawQ.up {w : World} {K m : Nat} {lv : Value} {L : List Ru} {wr w' : World} (h : LawQ w K lv L m wr) (hb : Below wr.heap.size wr w') : LawQ w K lv L m w' := by
  obtain ⟨B, h1, h2, h3⟩ := h
  exact ⟨B, h1.up hb, h2.trans (hb.mono h2.size), h3.keep (Keeps.below hb)⟩
theorem BookOk.new {w w' : World} {lo K m p : Nat} {B : Nat → Prop} {L : List Ru} (h : BookOk w lo K m B) (hp : IsNew w.heap.size w' p L) : OffL B w' p L := by
  obtain ⟨v, sv, pv, h1, h2, h3, h4⟩ := hp
  exact ⟨v, sv, pv, h1, h2, fun hB => by have := h.lt p hB; omega, fun b hb hB => by have := h.lt b hB; have := h4 b hb; omega⟩
theorem mir_short {L : List Ru} (h : ∀ r ∈ L, r.2.length ≤ 4000) : ∀ r ∈ mirR L, r.2.length ≤ 4000 := fun r hr => by
  obtain ⟨x, hx, rfl⟩ := List.mem_map.1 hr
  exact h x hx
set_option maxHeartbeats 8000000 in
set_option maxRecDepth 100000 in
theorem parses_short (s : ByteArray) (w : World) (hs : s.size ≤ 16384) : Calls Tryz.prog 3 #[.string s] w fun e w' => e = .returned (.bool true) ∧ Below w.heap.size w w' := by
  have i0 : (s.size : Int) ≤ 16384 := by omega
  rcases parse_cases (tl s) with ⟨k, er, hp, he⟩ | ⟨L, hp⟩
  · have C4 : ∀ W, Calls Tryz.prog 4 #[.string s] W fun x w' => x = .returned (.tuple #[.slice none 0 0, .int .i64 (k : Int), .int .i64 er]) ∧ Below W.heap.size W w' := fun W => by
      have h := tparse_any s W (by omega)
      unfold TParseRes at h
      rw [hp] at h
      exact h
    have C7 : Hid (∀ W, Calls Tryz.prog 7 #[.string s] W fun x w' => x = .returned (.tuple #[.pointer none, .int .i64 (k : Int), .int .i64 er]) ∧ Below W.heap.size W w') := fun W => by
      have h := parse_any s W (by omega)
      unfold ParseRes at h
      rw [hp] at h
      exact h
    have b0 : (er == 0) = false := by simpa using he
    clear hp he
    go_enter Tryz.func3, Tryz.ntmps3
    go_upto_region 4 with (go_at_call 4; refine (C4 _).mono ?_; rintro e w1 ⟨rfl, h1⟩)
    go_upto_region 5 with (refine wpList_book rfl rfl rfl _ rfl rfl ?_)
    have C5 : Calls Tryz.prog 5 #[] (w1.alloc bookObj) fun e w' => ∃ p, e = .returned (.pointer (some ⟨p, 0, none⟩)) ∧ Hid (IsNew (w1.alloc bookObj).heap.size w' p [] ∧ Below (w1.alloc bookObj).heap.size (w1.alloc bookObj) w') := none_any _
    have HBK : Hid (BookOk (w1.alloc bookObj) w.heap.size w1.heap.size 0 (fun b => b = w1.heap.size)) := book_new w1 w.heap.size (h1).size
    go_upto_region 6 with (go_at_call 5; refine C5.mono ?_; rintro e w3 ⟨n0, rfl, H3⟩)
    have CTL : Calls Tryz.prog 6 #[.pointer (some ⟨w1.heap.size, 0, none⟩), .pointer (some ⟨n0, 0, none⟩), .slice none 0 0, .int .i64 7] w3 fun e w' => e = .returned (.bool true) ∧ Hid (LawQ w w1.heap.size (.slice none 0 0) [] 2 w') := by
      have hb := (h1).alloc (h1).size bookObj
      have h3 := H3.out
      have hB := HBK.out.up h3.2
      refine (tells_any w3 w.heap.size w1.heap.size 0 n0 _ (.slice none 0 0) [] 7 hB (HBK.out.new h3.1) ⟨.inl ⟨rfl, rfl⟩, fun b h => by cases h⟩ (by simp) (by simp) (by simp) (by omega) (by omega)).mono ?_
      rintro e w' ⟨rfl, B', b1, b2, b3⟩
      refine ⟨rfl, B', b1, (Below.up hb h3.2).trans b2, ?_⟩
      exact ⟨.inl ⟨rfl, rfl⟩, fun b h => by cases h⟩
    clear C5 HBK H3
    go_upto_region 9 with (go_at_call 6; refine CTL.mono ?_; rintro e w4 ⟨rfl, HQ⟩)
    clear CTL
    clear C4
    go_loopw [8] (fun t8 wr => ∃ j : Nat, t8 = .int .i64 (j : Int) ∧ j ≤ 2 ∧ Hid (LawQ w w1.heap.size (.slice none 0 0) [] 2 wr)) (fun t8 _ => 2 - iOf t8)
    case atStart => exact ⟨0, rfl, by omega, HQ⟩
    case round =>
      obtain ⟨j, rfl, hj, HJ⟩ := hrel
      clear HQ
      by_cases hlt : j < 2
      · have i1 : (j : Int) < 2 := by omega
        have C7' := C7.out wr
        go_wp2_with (go_at_call 7; refine C7'.mono ?_; rintro e w5 ⟨rfl, h5⟩)
        have HJ2 : Hid (LawQ w w1.heap.size (.slice none 0 0) [] 2 w5) := HJ.out.up h5
        clear h5
        go_roundw
        case rel => exact ⟨j + 1, by go_num, by omega, HJ2⟩
        case measure => simp; omega
      · have hj2 : j = 2 := by omega
        subst hj2
        have CH : Calls Tryz.prog 10 #[.pointer (some ⟨w1.heap.size, 0, none⟩)] wr fun e w' => e = .returned (.bool true) ∧ Below w.heap.size w w' := by
          obtain ⟨B', h1, h2, h3⟩ := HJ.out
          refine (bookHoldOk wr _ _ _ B' h1 (by omega)).mono ?_
          rintro e w' ⟨rfl, hb⟩
          exact ⟨rfl, Below.up h2 hb⟩
        clear HJ
        go_wp2_with (go_at_call 10; refine CH.mono ?_; rintro e w5 ⟨rfl, h5⟩)
        go_ret
        exact ⟨rfl, h5⟩
  · have C4 : ∀ W, Calls Tryz.prog 4 #[.string s] W fun x w' => ∃ lo lc, x = .returned (.tuple #[.slice lo L.length lc, .int .i64 0, .int .i64 0]) ∧ Hid ((HasR w' (.slice lo L.length lc) L ∧ ∀ b, (Value.slice lo L.length lc).ownBlock = some b → W.heap.size ≤ b) ∧ Below W.heap.size W w') := fun W => by
      have h := tparse_any s W (by omega)
      unfold TParseRes at h
      rw [hp] at h
      refine h.mono ?_
      rintro e w' ⟨v, rfl, h1, h2⟩
      obtain ⟨lo, lc, rfl⟩ := h1.1.form
      exact ⟨lo, lc, rfl, h1, h2⟩
    have C7 : Hid (∀ W, Calls Tryz.prog 7 #[.string s] W fun x w' => ∃ p, x = .returned (.tuple #[.pointer (some ⟨p, 0, none⟩), .int .i64 0, .int .i64 0]) ∧ Hid (IsNew W.heap.size w' p L ∧ Below W.heap.size W w')) := fun W => by
      have h := parse_any s W (by omega)
      unfold ParseRes at h
      rw [hp] at h
      exact h
    have hgd : ∀ r ∈ L, r.1 = 1 ∨ r.1 = 2 ∨ r.1 = 3 := fun r hr => ((parseR_good hp).1.1 r hr).1
    have hsh := good_short hp
    have h64 : L.length ≤ 64 := (parseR_good hp).1.2
    have C8 : Hid (∀ W p, IsL W p L → Calls Tryz.prog 8 #[.pointer (some ⟨p, 0, none⟩)] W fun e w' => ∃ q, e = .returned (.pointer (some ⟨q, 0, none⟩)) ∧ IsNew W.heap.size w' q (mirR L) ∧ Below W.heap.size W w') := fun W p h => mirror_any p L W h hgd h64
    have TA : Hid (∀ (W : World) (K p q m u : Nat) (lv : Value) (mk : Int), Hid (LawP w K lv p q L m W) → u = p → 0 ≤ mk → mk ≤ 100000 → m ≤ 100 → Calls Tryz.prog 6 #[.pointer (some ⟨K, 0, none⟩), .pointer (some ⟨u, 0, none⟩), lv, .int .i64 mk] W fun e w' => e = .returned (.bool true) ∧ Hid (LawP w K lv p q L (m + 2) w')) := fun W K p q m u lv mk h hu h0 h1 h2 => by
      subst hu
      obtain ⟨n, rfl⟩ : ∃ n : Nat, mk = (n : Int) := ⟨mk.toNat, by omega⟩
      obtain ⟨B, a1, a2, a3, a4, a5⟩ := h.out
      refine (tells_any W _ K m u B lv L n a1 a4 a3 hgd h64 hsh (by omega) (by omega)).mono ?_
      rintro e w' ⟨rfl, B', b1, b2, b3⟩
      exact ⟨rfl, B', b1, a2.trans b2, a3.keep b3, a4.keep b3, a5.keep b3⟩
    have TB : Hid (∀ (W : World) (K p q m u : Nat) (lv zv : Value) (mk : Int), Hid (LawZ w K lv p q zv L m W) → u = q → 0 ≤ mk → mk ≤ 100000 → m ≤ 100 → Calls Tryz.prog 6 #[.pointer (some ⟨K, 0, none⟩), .pointer (some ⟨u, 0, none⟩), zv, .int .i64 mk] W fun e w' => e = .returned (.bool true) ∧ Hid (LawP w K lv p q L (m + 2) w')) := fun W K p q m u lv zv mk h hu h0 h1 h2 => by
      subst hu
      obtain ⟨n, rfl⟩ : ∃ n : Nat, mk = (n : Int) := ⟨mk.toNat, by omega⟩
      obtain ⟨B, a1, a2, a3, a4, a5, a6⟩ := h.out
      refine (tells_any W _ K m u B zv (mirR L) n a1 a5 a6 (mirR_good hgd) (by rw [mirR_len]; exact h64) (mir_short hsh) (by omega) (by omega)).mono ?_
      rintro e w' ⟨rfl, B', b1, b2, b3⟩
      exact ⟨rfl, B', b1, a2.trans b2, a3.keep b3, a4.keep b3, a5.keep b3⟩
    have MI : Hid (∀ (W : World) (K p q m : Nat) (lv : Value), Hid (LawP w K lv p q L m W) → Calls Tryz.prog 9 #[lv] W fun e w' => ∃ zo zc, e = .returned (.slice zo L.length zc) ∧ Hid (LawZ w K lv p q (.slice zo L.length zc) L m w')) := fun W K p q m lv h => by
      obtain ⟨B, a1, a2, a3, a4, a5⟩ := h.out
      refine (tmir_any lv L W a3.1 hgd h64).mono ?_
      rintro e w' ⟨v', rfl, ⟨b1, b2⟩, hb⟩
      obtain ⟨zo, zc, rfl⟩ := b1.form
      rw [mirR_len] at b1 b2 ⊢
      have k := Keeps.below (B := B) hb
      exact ⟨zo, zc, rfl, B, a1.up hb, a2.trans (hb.mono a2.size), a3.keep k, a4.keep k, a5.keep k, b1, fun b hb' hB => by have := a1.lt b hB; have := b2 b hb'; omega⟩
    clear hp hgd hsh
    obtain ⟨N, hN⟩ : ∃ N, L.length = N := ⟨_, rfl⟩
    rw [hN] at C4 MI h64
    clear hN
    go_enter Tryz.func3, Tryz.ntmps3
    go_upto_region 4 with (go_at_call 4; refine (C4 _).mono ?_; rintro e w1 ⟨lo, lc, rfl, H1⟩)
    go_upto_region 5 with (refine wpList_book rfl rfl rfl _ rfl rfl ?_)
    have C5 : Calls Tryz.prog 5 #[] (w1.alloc bookObj) fun e w' => ∃ p, e = .returned (.pointer (some ⟨p, 0, none⟩)) ∧ Hid (IsNew (w1.alloc bookObj).heap.size w' p [] ∧ Below (w1.alloc bookObj).heap.size (w1.alloc bookObj) w') := none_any _
    have HBK : Hid (BookOk (w1.alloc bookObj) w.heap.size w1.heap.size 0 (fun b => b = w1.heap.size)) := book_new w1 w.heap.size (H1.out.2).size
    go_upto_region 6 with (go_at_call 5; refine C5.mono ?_; rintro e w3 ⟨n0, rfl, H3⟩)
    have CTL : Calls Tryz.prog 6 #[.pointer (some ⟨w1.heap.size, 0, none⟩), .pointer (some ⟨n0, 0, none⟩), .slice none 0 0, .int .i64 7] w3 fun e w' => e = .returned (.bool true) ∧ Hid (LawQ w w1.heap.size (.slice lo N lc) L 2 w') := by
      have hb := (H1.out.2).alloc (H1.out.2).size bookObj
      have h3 := H3.out
      have hB := HBK.out.up h3.2
      refine (tells_any w3 w.heap.size w1.heap.size 0 n0 _ (.slice none 0 0) [] 7 hB (HBK.out.new h3.1) ⟨.inl ⟨rfl, rfl⟩, fun b h => by cases h⟩ (by simp) (by simp) (by simp) (by omega) (by omega)).mono ?_
      rintro e w' ⟨rfl, B', b1, b2, b3⟩
      refine ⟨rfl, B', b1, (Below.up hb h3.2).trans b2, ?_⟩
      have hl := H1.out.1
      have r0 : OffR (fun b => b = w1.heap.size) (w1.alloc bookObj) (.slice lo N lc) L := ⟨hl.1.block (by simp) fun b hb' => Below.heap_alloc w1 bookObj b (hl.1.lt b hb'), fun b hb' e => by have := hl.1.lt b hb'; omega⟩
      exact (r0.keep (Keeps.below h3.2)).keep b3
    clear C5 HBK H3
    go_upto_region 9 with (go_at_call 6; refine CTL.mono ?_; rintro e w4 ⟨rfl, HQ⟩)
    clear CTL
    clear C4 H1
    go_loopw [8] (fun t8 wr => ∃ j : Nat, t8 = .int .i64 (j : Int) ∧ j ≤ 2 ∧ Hid (LawQ w w1.heap.size (.slice lo N lc) L (2 + 6 * j) wr)) (fun t8 _ => 2 - iOf t8)
    case atStart => exact ⟨0, rfl, by omega, HQ⟩
    case round =>
      obtain ⟨j, rfl, hj, HJ⟩ := hrel
      clear HQ
      by_cases hlt : j < 2
      · have i1 : (j : Int) < 2 := by omega
        have C7' := C7.out wr
        have C8' := C8.out
        have TA' := TA.out
        have TB' := TB.out
        have MI' := MI.out
        go_upto_region 12 with (go_at_call 7; refine C7'.mono ?_; rintro e w5 ⟨p, rfl, H5⟩)
        go_upto_region 16 with (go_at_call 8; refine (C8' _ _ H5.out.1.isL).mono ?_; rintro e w6 ⟨q, rfl, h6, h7⟩)
        have HP : Hid (LawP w w1.heap.size (.slice lo N lc) p q L (2 + 6 * j) w6) := by
          obtain ⟨B, a1, a2, a3⟩ := HJ.out
          have b5 := H5.out.2
          have a1' := a1.up b5
          have k5 := Keeps.below (B := B) b5
          have k7 := Keeps.below (B := B) h7
          exact ⟨B, a1'.up h7, (a2.trans (b5.mono a2.size)).trans (h7.mono (Nat.le_trans a2.size b5.size)), (a3.keep k5).keep k7, (a1.new H5.out.1).keep k7, a1'.new h6⟩
        clear H5 h6 h7 HJ C7' C8'
        go_wp2_with (first
          | (go_at_call 9; refine (MI' _ _ p q _ _ HP).mono ?_; rintro e w7 ⟨zo, zc, rfl, HZ⟩; clear HP)
          | (go_at_call 6; refine (TA' _ _ p q _ _ _ _ HP (by rfl) (by omega) (by omega) (by omega)).mono ?_; rintro e w7 ⟨rfl, HP2⟩; clear HP; rename Hid (LawP _ _ _ _ _ _ _ _) => HP)
          | (go_at_call 6; refine (TB' _ _ p q _ _ _ _ _ HZ (by rfl) (by omega) (by omega) (by omega)).mono ?_; rintro e w7 ⟨rfl, HP⟩; clear HZ))
        have HJ2 : Hid (LawQ w w1.heap.size (.slice lo N lc) L (2 + 6 * (j + 1)) w7) := by
          obtain ⟨B, a1, a2, a3, _⟩ := HP.out
          have e : 2 + 6 * j + 2 + 2 + 2 = 2 + 6 * (j + 1) := by omega
          rw [e] at a1
          exact ⟨B, a1, a2, a3⟩
        go_roundw
        case rel => exact ⟨j + 1, by go_num, by omega, HJ2⟩
        case measure => simp; omega
      · have hj2 : j = 2 := by omega
        subst hj2
        have CH : Calls Tryz.prog 10 #[.pointer (some ⟨w1.heap.size, 0, none⟩)] wr fun e w' => e = .returned (.bool true) ∧ Below w.heap.size w w' := by
          obtain ⟨B', h1, h2, h3⟩ := HJ.out
          refine (bookHoldOk wr _ _ _ B' h1 (by omega)).mono ?_
          rintro e w' ⟨rfl, hb⟩
          exact ⟨rfl, Below.up h2 hb⟩
        clear HJ
        go_wp2_with (go_at_call 10; refine CH.mono ?_; rintro e w5 ⟨rfl, h5⟩)
        go_ret
        exact ⟨rfl, h5⟩
end Go.Proofs.YtpngnhpnjkepjaaGreatDoor
