import Derived.Test.YtbjjbgaomoihaaaGreatDoorWith
import Derived.Test.YtbjjbgaomoihaaaGreatDoorPSplit
set_option maxRecDepth 100000
set_option maxHeartbeats 1000000
namespace Go.Proofs.YtbjjbgaomoihaaaGreatDoor
open Go.RowKit
variable {P : Nat → Prop}
abbrev T3 := Vd × Md × F
def PtrTo (P : Nat → Prop) (w : World) (u : Value) : Option T3 → Prop
  | none => u = .pointer none
  | some t => ∃ p, u = .pointer (some ⟨p, 0, none⟩) ∧ AtTF P w p t.1 t.2.1 t.2.2
theorem PtrTo.grow {w w' : World} {u : Value} {o : Option T3} (h : PtrTo P w u o) (hg : G w w') : PtrTo P w' u o := by
  cases o with
  | none => exact h
  | some t => obtain ⟨p, h1, h2⟩ := h; exact ⟨p, h1, h2.grow hg⟩
theorem PtrTo.form {w : World} {u : Value} {o : Option T3} (h : PtrTo P w u o) : ∃ a, u = .pointer a := by
  cases o with
  | none => exact ⟨_, h⟩
  | some t => obtain ⟨p, h1, _⟩ := h; exact ⟨_, h1⟩
theorem AtTF.kids {w : World} {p : Nat} {v : Vd} {m : Md} {f : F} (h : AtTF P w p v m f) : ∃ ak, Lies w p 0 (tc v m (.pointer ak)) ∧ AtF P w (.pointer ak) f := by
  obtain ⟨k, ⟨pk, h1, h2⟩, e, ha, _⟩ := h
  obtain ⟨ak, rfl⟩ := h2.form
  exact ⟨ak, h1, k, h2, e, ha⟩
theorem K.find_all {nm : ByteArray} {p : Nat} {v : Vd} {m : Md} {kk : K} : ∀ {k : K}, k.all P → k.find nm = some (p, v, m, kk) → P p ∧ kk.all P
  | .nil, _, h => by cases h
  | .node _ _ n _ _ _ _ _, ⟨_, a2, a3, a4, a5⟩, h => by
    rw [K.find] at h
    split at h
    · cases h; exact ⟨a2, a3⟩
    split at h
    · exact K.find_all a4 h
    · exact K.find_all a5 h
theorem find_fix {w : World} {au : Option Addr} {f : F} (h : AtF P w (.pointer au) f) (hr : f.rises) (nm : ByteArray) : ∃ u, PtrTo P w u (f.get nm) ∧ ∀ W, G w W → Calls Tryz.prog 63 #[.pointer au, .string nm] W fun e w' => e = .returned u ∧ w' = W := by
  obtain ⟨k, h, rfl, ha⟩ := h
  refine ⟨ptrOf (k.find nm), ?_, fun W hW => find_any k (.pointer au) nm W (h.grow hW)⟩
  rw [← K.find_get hr]
  cases hf : k.find nm with
  | none => rfl
  | some x =>
    obtain ⟨p, v, m, kk⟩ := x
    have hx := K.find_all ha hf
    exact ⟨p, rfl, kk, K.find_at h p v m kk hf, rfl, hx.2, hx.1⟩
theorem F.rises_get {nm : ByteArray} {t : T3} : ∀ {f : F}, f.rises → f.get nm = some t → t.2.2.rises ∧ t.2.2.size < f.size
  | .nil, _, h => by cases h
  | .cons n v m k r, ⟨_, h2, h3⟩, h => by
    rw [F.get] at h
    split at h
    · cases h; exact ⟨h2, by simp only [F.size]; omega⟩
    · have := F.rises_get h3 h
      exact ⟨this.1, by simp only [F.size]; omega⟩
def dn : T3 → List ByteArray → Option T3
  | t, [] => some t
  | t, nm :: L => (t.2.2.get nm).bind fun s => dn s L
theorem dn_app : ∀ (t : T3) (L M : List ByteArray), dn t (L ++ M) = (dn t L).bind fun s => dn s M
  | t, [], M => rfl
  | t, nm :: L, M => by
    rw [List.cons_append, dn, dn]
    cases t.2.2.get nm with
    | none => rfl
    | some s => exact dn_app s L M
theorem dn_rises : ∀ {t : T3} {L : List ByteArray} {s : T3}, t.2.2.rises → dn t L = some s → s.2.2.rises ∧ s.2.2.size ≤ t.2.2.size
  | t, [], s, hr, h => by cases h; exact ⟨hr, Nat.le_refl _⟩
  | t, nm :: L, s, hr, h => by
    rw [dn] at h
    cases hg : t.2.2.get nm with
    | none => rw [hg] at h; cases h
    | some x =>
      rw [hg] at h
      have h1 := F.rises_get hr hg
      have h2 := dn_rises h1.1 h
      exact ⟨h2.1, by omega⟩
theorem down_any (p : Nat) (t : T3) (names : Value) (L : List ByteArray) (w : World) (ht : AtTF P w p t.1 t.2.1 t.2.2) (hr : t.2.2.rises) (hn : HasT w names L) (hl : L.length ≤ 1000000) :
    Calls Tryz.prog 32 #[.pointer (some ⟨p, 0, none⟩), names] w fun e w' => (∃ u, e = .returned u ∧ PtrTo P w u (dn t L)) ∧ w' = w := by
  obtain ⟨ao, cap, rfl, _⟩ := hn.form
  have HN := hid hn
  have H0 : Hid (PtrTo P w (.pointer (some ⟨p, 0, none⟩)) (dn t (L.take 0))) := by rw [List.take_zero]; exact ⟨p, rfl, ht⟩
  have HR := hid hr
  obtain ⟨N, hN⟩ : ∃ N, L.length = N := ⟨_, rfl⟩
  have HL := hid hN
  rw [hN] at HN hl ⊢
  clear hn ht hr hN
  go_enter Tryz.func32, Tryz.ntmps32
  go_wp2_with fail
  go_loopw [0, 9] (fun u i wr => ∃ k : Nat, i = .int .i64 k ∧ k ≤ N ∧ (∃ a, u = .pointer a) ∧ wr = w ∧ Hid (PtrTo P w u (dn t (L.take k)))) (fun _ i _ => N - iOf i)
  case atStart => exact ⟨0, rfl, Nat.zero_le _, ⟨_, rfl⟩, rfl, H0.out⟩
  case round =>
    clear H0
    obtain ⟨k, rfl, hk, ⟨a, rfl⟩, rfl, HP⟩ := hrel
    by_cases hlt : k < N
    · have hltI : (k : Int) < (N : Int) := by omega
      obtain ⟨x, hx⟩ : ∃ x, L[k]? = some x := ⟨_, List.getElem?_eq_getElem (by rw [HL.out]; exact hlt)⟩
      obtain ⟨ad, cap', hv, hc⟩ := HN.out.at hx
      obtain rfl : ao = some ad := by injection hv
      clear hv
      have hsplit : L.take (k + 1) = L.take k ++ [x] := by rw [List.take_add_one, hx]; rfl
      cases hd : dn t (L.take k) with
      | none =>
        rw [hd] at HP
        have e := HP.out
        have e : Value.pointer a = .pointer none := e
        injection e with e
        subst e
        have HD : Hid (PtrTo P wr (.pointer none) (dn t L)) := by
          have h := dn_app t (L.take k) (L.drop k)
          rw [List.take_append_drop, hd] at h
          rw [h]; rfl
        clear hd hsplit HP
        go_wp2_with fail
        go_ret
        exact ⟨⟨_, rfl, HD.out⟩, rfl⟩
      | some s =>
        rw [hd] at HP
        obtain ⟨p', e, hs⟩ := HP.out
        injection e with e
        subst e
        obtain ⟨ak, hli, hak⟩ := hs.kids
        have c39 := lies_cell hli 39 _ (tc_kids ..)
        obtain ⟨u, hu, hC⟩ := find_fix hak (dn_rises HR.out hd).1 x
        have C := hC wr (G.refl _)
        obtain ⟨au, rfl⟩ := hu.form
        have HU : Hid (PtrTo P wr (.pointer au) (dn t (L.take (k + 1)))) := by
          show PtrTo P _ _ _
          rw [hsplit, dn_app, hd]
          have e : ((some s).bind fun s => dn s [x]) = s.2.2.get x := by
            show (s.2.2.get x).bind (fun s => some s) = _
            cases s.2.2.get x <;> rfl
          rw [e]
          exact hu
        clear hd hsplit HP hs hli hak hu hC
        go_wp2_with (go_at_call 63; refine C.mono ?_; rintro e w2 ⟨rfl, e2⟩; subst e2)
        go_roundw
        case rel => exact ⟨k + 1, by go_num, by omega, ⟨_, rfl⟩, by trivial, HU.out⟩
        case measure => simp; omega
    · have hltI : ¬ (k : Int) < (N : Int) := by omega
      have HD : Hid (PtrTo P wr (.pointer a) (dn t L)) := by
        have h := HP.out
        rw [List.take_of_length_le (by rw [HL.out]; omega)] at h
        exact h
      go_wp2_with fail
      go_ret
      exact ⟨⟨_, rfl, HD.out⟩, rfl⟩
end Go.Proofs.YtbjjbgaomoihaaaGreatDoor
namespace Go.Proofs.YtbjjbgaomoihaaaGreatDoor
open Go.RowKit
variable {P : Nat → Prop}
theorem PtrTo.isSome {w : World} {au : Option Addr} {o : Option T3} (h : PtrTo P w (.pointer au) o) : au.isSome = o.isSome := by
  cases o with
  | none => have e : Value.pointer au = .pointer none := h; injection e with e; rw [e]; rfl
  | some t => obtain ⟨p, e, _⟩ := h; injection e with e; rw [e]; rfl
def cutN (s : ByteArray) : List ByteArray := (pieces (tl s)).map ofB
theorem names_eq {s : ByteArray} {L : List ByteArray} (h : L.map tl = splitL (tl s) 64) (he : splitE (tl s) 64 = 0) : L = cutN s := by
  unfold splitL at h
  rw [if_pos he] at h
  unfold cutN
  rw [← h, List.map_map]
  have : (ofB ∘ tl) = id := by funext x; exact ofB_tl x
  rw [this, List.map_id]
theorem names_few {s : ByteArray} (he : splitE (tl s) 64 = 0) : (cutN s).length ≤ 64 := by
  unfold splitE at he
  split at he
  · cases he
  · rename_i h
    unfold cutN
    rw [List.length_map]
    omega
def subS (t : T3) (s : ByteArray) : Option T3 := if splitE (tl s) 64 = 0 then dn t (cutN s) else none
theorem sub_any (p : Nat) (t : T3) (s : ByteArray) (w : World) (ht : AtTF P w p t.1 t.2.1 t.2.2) (hr : t.2.2.rises) (hs : s.size ≤ 1048576) :
    Calls Tryz.prog 33 #[.pointer (some ⟨p, 0, none⟩), .string s] w fun e w' => ∃ u, e = .returned (.tuple #[u, .bool (subS t s).isSome]) ∧ PtrTo P w' u (subS t s) ∧ G w w' := by
  have C1 := split_any s 64 w hs
  have HT := hid (⟨ht, hr⟩ : _ ∧ _)
  obtain ⟨E, hE⟩ : ∃ E, splitE (tl s) 64 = E := ⟨_, rfl⟩
  have HE := hid hE
  rw [hE] at C1
  clear ht hr hE
  by_cases h0 : E = 0
  · subst h0
    have hS : subS t s = dn t (cutN s) := by unfold subS; rw [if_pos HE.out]
    rw [hS]
    clear hS
    go_enter Tryz.func33, Tryz.ntmps33
    go_wp2_with (first
      | (go_at_call 62; refine C1.mono ?_; rintro e w1 ⟨⟨nv, L, rfl, hO, hL⟩, hg1⟩; obtain rfl := names_eq hL HE.out; have hN := hO.has; obtain ⟨an, cn, rfl, _⟩ := hN.form; have CD := down_any p t _ _ w1 (HT.out.1.grow hg1) HT.out.2 hN (by have := names_few HE.out; omega); have HG1 := hid hg1; clear hO hL hN hg1)
      | (go_at_call 32; refine CD.mono ?_; rintro e w2 ⟨⟨u, rfl, hu⟩, e2⟩; subst e2; have HU := hid hu; obtain ⟨au, rfl⟩ := hu.form; clear hu))
    go_ret2
    refine ⟨.pointer au, ?_, HU.out, HG1.out⟩
    rw [← HU.out.isSome]
    rfl
  · have hS : subS t s = none := by unfold subS; rw [if_neg (by rw [HE.out]; exact h0)]
    rw [hS]
    have h1 : (E != 0) = true := by simpa using h0
    clear hS h0
    go_enter Tryz.func33, Tryz.ntmps33
    go_wp2_with (go_at_call 62; refine C1.mono ?_; rintro e w1 ⟨⟨nv, L, rfl, hO, hL⟩, hg1⟩; obtain ⟨an, cn, rfl, _⟩ := hO.has.form; have HG1 := hid hg1; clear hO hL hg1)
    go_ret2
    exact ⟨_, rfl, rfl, HG1.out⟩
def wayE (t : T3) (s : ByteArray) : Int :=
  if splitE (tl s) 64 ≠ 0 then splitE (tl s) 64 else if cutN s = [] then 0 else match dn t (cutN s).dropLast with
    | none => 44
    | some x => if x.1.kind = 1 then 0 else 44
theorem hasT_front {w : World} {a : Option Addr} {cap n : Nat} {L : List ByteArray} (h : HasT w (.slice a L.length cap) L) (hn : L.length = n + 1) : HasT w (.slice a n cap) L.dropLast := by
  rcases h with ⟨_, h⟩ | ⟨ad, cp, hv, hc, hcell⟩
  · rw [h] at hn; cases hn
  · injection hv with e1 e2 e3
    subst e1 e3
    refine .inr ⟨ad, cap, by rw [List.length_dropLast, hn]; rfl, by rw [List.length_dropLast]; omega, fun i x hi => hcell i x ?_⟩
    rw [List.getElem?_dropLast] at hi
    split at hi
    · exact hi
    · cases hi
theorem way_any (p : Nat) (t : T3) (s : ByteArray) (w : World) (ht : AtTF P w p t.1 t.2.1 t.2.2) (hr : t.2.2.rises) (hs : s.size ≤ 1048576) :
    Calls Tryz.prog 30 #[.pointer (some ⟨p, 0, none⟩), .string s] w fun e w' => ∃ an n cn, e = .returned (.tuple #[.slice an n cn, .int .i64 (wayE t s)]) ∧ (wayE t s = 0 → n = (cutN s).length ∧ HasT w' (.slice an n cn) (cutN s) ∧ (cutN s).length ≤ 64) ∧ G w w' := by
  have C1 := split_any s 64 w hs
  have HT := hid (⟨ht, hr⟩ : _ ∧ _)
  obtain ⟨E, hE⟩ : ∃ E, splitE (tl s) 64 = E := ⟨_, rfl⟩
  have HE := hid hE
  rw [hE] at C1
  clear ht hr hE
  by_cases h0 : E = 0
  · subst h0
    by_cases hc : cutN s = []
    · have hS : wayE t s = 0 := by unfold wayE; rw [if_neg (by rw [HE.out]; simp), if_pos hc]
      rw [hS]
      clear hS
      go_enter Tryz.func30, Tryz.ntmps30
      go_wp2_with (go_at_call 62; refine C1.mono ?_; rintro e w1 ⟨⟨nv, L, rfl, hO, hL⟩, hg1⟩; obtain rfl := names_eq hL HE.out; have hN := hO.has; rw [hc] at hN; obtain ⟨an, cn, rfl, _⟩ := hN.form; have HG1 := hid hg1; clear hO hL hN hg1)
      go_ret2
      exact ⟨_, _, _, rfl, fun _ => ⟨by rw [hc]; rfl, by rw [hc]; exact OwnsT.has (OwnsT.nil _ 0), by rw [hc]; simp⟩, HG1.out⟩
    · obtain ⟨n, hn⟩ : ∃ n, (cutN s).length = n + 1 := ⟨(cutN s).length - 1, by have := List.length_pos_iff.2 hc; omega⟩
      have hn64 := names_few HE.out
      rw [hn] at hn64
      have hI : IntKind.i64.wrap (((n + 1 : Nat) : Int) - 1) = (n : Int) := by rw [IntKind.wrap_i64]; omega
      have HC := hid (⟨hc, hn⟩ : _ ∧ _)
      cases hd : dn t (cutN s).dropLast with
      | none =>
        have hS : wayE t s = 44 := by unfold wayE; rw [if_neg (by rw [HE.out]; simp), if_neg hc, hd]
        rw [hS]
        clear hS hc
        go_enter Tryz.func30, Tryz.ntmps30
        go_wp2_with (first
          | (go_at_call 62; refine C1.mono ?_; rintro e w1 ⟨⟨nv, L, rfl, hO, hL⟩, hg1⟩; obtain rfl := names_eq hL HE.out; have hN := hO.has; obtain ⟨an, cn, rfl, hcn⟩ := hN.form; have hF := hasT_front hN HC.out.2; have CD := down_any p t _ _ w1 (HT.out.1.grow hg1) HT.out.2 hF (by rw [List.length_dropLast, HC.out.2]; omega); rw [hd] at CD; have HG1 := hid hg1; rw [hn] at hcn ⊢; clear hO hL hN hg1 hF)
          | (go_at_call 32; refine CD.mono ?_; rintro e w2 ⟨⟨u, rfl, hu⟩, e2⟩; subst e2; have hu2 : u = .pointer none := hu; subst hu2; clear hu))
        go_ret2
        exact ⟨_, _, _, rfl, fun h => absurd h (by decide), HG1.out⟩
      | some x =>
        by_cases hk1 : x.1.kind = 1
        · have hS : wayE t s = 0 := by unfold wayE; rw [if_neg (by rw [HE.out]; simp), if_neg hc, hd]; exact if_pos hk1
          rw [hS]
          clear hS hc
          go_enter Tryz.func30, Tryz.ntmps30
          go_wp2_with (first
            | (go_at_call 62; refine C1.mono ?_; rintro e w1 ⟨⟨nv, L, rfl, hO, hL⟩, hg1⟩; obtain rfl := names_eq hL HE.out; have hN := hO.has; have HNN := hid hN; obtain ⟨an, cn, rfl, hcn⟩ := hN.form; have hF := hasT_front hN HC.out.2; have CD := down_any p t _ _ w1 (HT.out.1.grow hg1) HT.out.2 hF (by rw [List.length_dropLast, HC.out.2]; omega); rw [hd] at CD; have HG1 := hid hg1; rw [hn] at hcn ⊢; clear hO hL hN hg1 hF)
            | (go_at_call 32; refine CD.mono ?_; rintro e w2 ⟨⟨u, rfl, p2, hu1, hu2⟩, e2⟩; subst e2; subst hu1; obtain ⟨ak, hli, _⟩ := hu2.kids; have c0 := lies_cell hli 0 (.int .i64 x.1.kind) (by simp [tc, vx]); clear hu2 hli))
          go_ret2
          exact ⟨_, _, _, rfl, fun _ => ⟨HC.out.2.symm, by have h := HNN.out; rw [HC.out.2] at h; exact h, names_few HE.out⟩, HG1.out⟩
        · have hS : wayE t s = 44 := by unfold wayE; rw [if_neg (by rw [HE.out]; simp), if_neg hc, hd]; exact if_neg hk1
          rw [hS]
          have hk2 : (x.1.kind != 1) = true := by simpa using hk1
          clear hS hc
          go_enter Tryz.func30, Tryz.ntmps30
          go_wp2_with (first
            | (go_at_call 62; refine C1.mono ?_; rintro e w1 ⟨⟨nv, L, rfl, hO, hL⟩, hg1⟩; obtain rfl := names_eq hL HE.out; have hN := hO.has; have HNN := hid hN; obtain ⟨an, cn, rfl, hcn⟩ := hN.form; have hF := hasT_front hN HC.out.2; have CD := down_any p t _ _ w1 (HT.out.1.grow hg1) HT.out.2 hF (by rw [List.length_dropLast, HC.out.2]; omega); rw [hd] at CD; have HG1 := hid hg1; rw [hn] at hcn ⊢; clear hO hL hN hg1 hF)
            | (go_at_call 32; refine CD.mono ?_; rintro e w2 ⟨⟨u, rfl, p2, hu1, hu2⟩, e2⟩; subst e2; subst hu1; obtain ⟨ak, hli, _⟩ := hu2.kids; have c0 := lies_cell hli 0 (.int .i64 x.1.kind) (by simp [tc, vx]); clear hu2 hli))
          go_ret2
          exact ⟨_, _, _, rfl, fun h => absurd h (by decide), HG1.out⟩
  · have hS : wayE t s = E := by unfold wayE; rw [if_pos (by rw [HE.out]; exact h0), HE.out]
    rw [hS]
    have h1 : (E != 0) = true := by simpa using h0
    have H0 := hid h0
    clear hS h0
    go_enter Tryz.func30, Tryz.ntmps30
    go_wp2_with (go_at_call 62; refine C1.mono ?_; rintro e w1 ⟨⟨nv, L, rfl, hO, hL⟩, hg1⟩; obtain ⟨an, cn, rfl, _⟩ := hO.has.form; have HG1 := hid hg1; clear hO hL hg1)
    go_ret2
    exact ⟨_, _, _, rfl, fun h => absurd h H0.out, HG1.out⟩
end Go.Proofs.YtbjjbgaomoihaaaGreatDoor
