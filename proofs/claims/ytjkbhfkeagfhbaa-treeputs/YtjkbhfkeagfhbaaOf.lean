/-
  tree.Check and tree.Of by contract.
-/
import Derived.Test.YtjkbhfkeagfhbaaMade
import Derived.Shelf.Strings.OnBuilder
import Derived.Test.YtjkbhfkeagfhbaaProg
import Derived.Test.YtjkbhfkeagfhbaaPlace
import Derived.Lib.Join
import Derived.RangeFuncBox
import Derived.Test.YtjkbhfkeagfhbaaBuild
namespace Go.Proofs.Ytjkbhfkeagfhbaa
open Go.RowKit

theorem HasR.take {w : World} : ∀ {f : F} {k g o : Nat}, HasR w f g o → HasR w (f.take k) g o
  | f, 0, _, _, _ => by rw [F.take_zero]; trivial
  | .nil, _ + 1, _, _, _ => trivial
  | .cons _ _ _ _ r, k + 1, _, _, h => ⟨h.1, HasR.take (f := r) (k := k) h.2⟩
theorem F.split_size {f : F} {k : Nat} {nm : ByteArray} {v : Vd} {m : Md} {ks r : F} (h : f.drop k = .cons nm v m ks r) : (f.take k).size + r.size + ks.size + 1 = f.size := by
  have h1 := congrArg F.size (F.app_take_drop f k)
  rw [F.app_size, h, F.size] at h1
  omega

set_option maxRecDepth 100000 in
set_option maxHeartbeats 1000000 in
theorem children_any : ∀ (Z : Nat) (f : F), f.size < Z → ChildrenOk f := by
  intro Z
  induction Z with
  | zero => intro f h; omega
  | succ Z ih =>
    intro f hZ v w hS hok
    obtain ⟨a, cap, rfl, hcap⟩ := hS.form
    obtain ⟨N, hN⟩ : ∃ N, f.len = N := ⟨_, rfl⟩
    have hN2 : N ≤ 9223372036854775807 := by have := f.len_le_size; unfold F.okL at hok; omega
    by_cases h0 : N = 0
    · have hf : f = .nil := by
        cases f with
        | nil => rfl
        | cons => simp [F.len] at hN; omega
      rw [hN]
      subst h0
      go_enter Try.func77, Try.ntmps77
      go_wp2_with fail
      go_ret
      exact ⟨.nil, _, rfl, rfl, hf.symm, G.refl w⟩
    · have hlt : N / 2 < N := by omega
      obtain ⟨half, hh⟩ : ∃ half, N / 2 = half := ⟨_, rfl⟩
      rw [hh] at hlt
      obtain ⟨_, _, he, _, hr⟩ := id hS
      rcases hr with hr | ⟨g, o, ha, hr⟩
      · subst hr; simp [F.len] at hN; omega
      obtain rfl : a = some ⟨g, o, none⟩ := by injection he with e1; rw [e1, ha]
      clear he ha
      obtain ⟨g', o', cap', nm, vv, m, ks, c, hv, hd, hNN, hc⟩ := hS.at (k := half) (by omega)
      obtain ⟨rfl, rfl⟩ : g' = g ∧ o' = o := by injection hv with e1; injection e1 with e2; injection e2 with e3 e4; exact ⟨e3.symm, e4.symm⟩
      clear hv
      obtain ⟨kv, rfl, hSk⟩ := hNN
      have hsz := F.split_size hd
      have hok' : ∀ x : F, x.size ≤ f.size → x.okL := fun x hx => by unfold F.okL at *; omega
      have n0 : w.cell? ⟨g', o' + half * 41, none⟩ = some (.string nm) := hc 0 _ (nc_name ..)
      have hT : HasS w (.slice (some ⟨g', o', none⟩) half cap) (f.take half) := ⟨_, _, by rw [F.take_len f half (by omega)], by rw [F.take_len f half (by omega)]; omega, .inr ⟨g', o', rfl, hr.take⟩⟩
      obtain ⟨AA, hAA⟩ : ∃ AA, (if cap = half + 1 then some (⟨g', o', none⟩ : Addr) else some ⟨g', o' + (half + 1) * 41, none⟩) = AA := ⟨_, rfl⟩
      obtain ⟨N2, hN2'⟩ : ∃ N2, N - (half + 1) = N2 := ⟨_, rfl⟩
      obtain ⟨cap2, hcap2⟩ : ∃ c2, cap - (half + 1) = c2 := ⟨_, rfl⟩
      have hU : HasS w (.slice AA N2 cap2) (f.drop (half + 1)) := by
        refine ⟨_, _, by rw [F.drop_len, hN, hN2'], by rw [F.drop_len]; omega, ?_⟩
        by_cases hce : cap = half + 1
        · left
          exact F.drop_all f _ (by omega)
        · right
          rw [if_neg hce] at hAA
          exact ⟨_, _, hAA.symm, hr.drop⟩
      have C1 := hid (fun (W : World) (hW : G w W) => ih (f.take half) (by omega) _ W (hT.below hW) (hok' _ (by omega)))
      have C2 := hid (fun (W : World) (hW : G w W) => made_any g' (o' + half * 41) nm vv m kv ks W (hW.lies hc) (hSk.below hW) (hok' _ (by omega)) (ih ks (by omega)))
      have C3 := hid (fun (W : World) (hW : G w W) => ih (f.drop (half + 1)) (by omega) _ W (hU.below hW) (hok' _ (by omega)))
      have HSZ : Hid ((f.take half).size + (f.drop (half + 1)).size + ks.size + 1 ≤ 9223372036854775807) := by show _ ≤ _; unfold F.okL at hok; omega
      have HFF : Hid ((f.take half).app (.cons nm vv m ks (f.drop (half + 1))) = f) := by show _ = _; rw [← hd]; exact F.app_take_drop f half
      generalize hg' : g' = g at *
      generalize ho' : o' = o at *
      rw [hN] at hcap
      obtain ⟨half1, hh1⟩ : ∃ h1, half + 1 = h1 := ⟨_, rfl⟩
      have q1 : (N : Int).tdiv 2 = (half : Int) := by rw [← hh]; exact Int.ofNat_tdiv N 2
      have q2 : IntKind.i64.wrap ((half : Int) + 1) = (half1 : Int) := by rw [← hh1, IntKind.wrap_i64]; omega
      have q3 : (half : Int) < (N : Int) := by omega
      have q4 : (half : Int) ≤ (cap : Int) := by omega
      have q5 : (half1 : Int) ≤ (N : Int) := by omega
      have q6 : (N : Int) ≤ (cap : Int) := by omega
      have q7 : ¬ (N : Int) = 0 := by omega
      have HAA : Hid (((if cap = half + 1 then some (⟨g, o, none⟩ : Addr) else some ⟨g, o + (half + 1) * 41, none⟩) = AA) ∧ N - (half + 1) = N2 ∧ cap - (half + 1) = cap2 ∧ half + 1 = half1) := ⟨hAA, hN2', hcap2, hh1⟩
      rw [hN]
      clear hS hr hd hSk hc hT hU hAA hN2' hcap2 hh1 hN ih hsz hok' hh hok hZ
      go_enter Try.func77, Try.ntmps77
      go_upto_region 4 with fail
      refine wp_region_G ?_
      have d0 := (G.drew w).cell n0
      have HD : Hid (G w w.drew) := G.drew w
      generalize w.drew = w2 at *
      refine takeG 0 10 (.slice (some ⟨g, o, none⟩) N cap) rfl rfl (by kernel_rfl) (by kernel_rfl) (by kernel_rfl) (fun _ _ _ h => h) (by kernel_rfl) (fun wz hz => ?_) ?_
      · rfl
      try simp only [Act.put, List.setIfInBounds_toArray, List.set_cons_zero, List.set_cons_succ]
      refine takeG 1 11 (.int .i64 (half : Int)) rfl rfl (by kernel_rfl) (by kernel_rfl) (by kernel_rfl) (fun _ _ _ h => h) (by kernel_rfl) (fun wz hz => ?_) ?_
      · rfl
      try simp only [Act.put, List.setIfInBounds_toArray, List.set_cons_zero, List.set_cons_succ]
      refine takeG 2 12 (.slice (some ⟨g, o, none⟩) half cap) rfl rfl (by kernel_rfl) (by kernel_rfl) (by kernel_rfl) (fun _ _ _ h => h) (by kernel_rfl) (fun wz hz => ?_) ?_
      · go_simp
      try simp only [Act.put, List.setIfInBounds_toArray, List.set_cons_zero, List.set_cons_succ]
      refine takeG 4 14 (.slice (some ⟨g, o, none⟩) N cap) rfl rfl (by kernel_rfl) (by kernel_rfl) (by kernel_rfl) (fun _ _ _ h => h) (by kernel_rfl) (fun wz hz => ?_) ?_
      · rfl
      try simp only [Act.put, List.setIfInBounds_toArray, List.set_cons_zero, List.set_cons_succ]
      refine takeG 5 15 (.int .i64 (half : Int)) rfl rfl (by kernel_rfl) (by kernel_rfl) (by kernel_rfl) (fun _ _ _ h => h) (by kernel_rfl) (fun wz hz => ?_) ?_
      · rfl
      try simp only [Act.put, List.setIfInBounds_toArray, List.set_cons_zero, List.set_cons_succ]
      refine takeG 6 16 (.pointer (some ⟨g, o + half * 41, none⟩)) rfl rfl (by kernel_rfl) (by kernel_rfl) (by kernel_rfl) (fun _ _ _ h => h) (by kernel_rfl) (fun wz hz => ?_) ?_
      · go_simp
      try simp only [Act.put, List.setIfInBounds_toArray, List.set_cons_zero, List.set_cons_succ]
      refine takeG 7 17 (.pointer (some ⟨g, o + half * 41, none⟩)) rfl rfl (by kernel_rfl) (by kernel_rfl) (by kernel_rfl) (fun _ _ _ h => h) (by kernel_rfl) (fun wz hz => ?_) ?_
      · go_simp
      try simp only [Act.put, List.setIfInBounds_toArray, List.set_cons_zero, List.set_cons_succ]
      refine takeG 8 18 (.string nm) rfl rfl (by kernel_rfl) (by kernel_rfl) (by kernel_rfl) (fun _ _ _ h => h) (by kernel_rfl) (fun wz hz => ?_) ?_
      · have y0 := hz.cell d0; go_simp
      try simp only [Act.put, List.setIfInBounds_toArray, List.set_cons_zero, List.set_cons_succ]
      refine takeG 9 19 (.slice (some ⟨g, o, none⟩) N cap) rfl rfl (by kernel_rfl) (by kernel_rfl) (by kernel_rfl) (fun _ _ _ h => h) (by kernel_rfl) (fun wz hz => ?_) ?_
      · rfl
      try simp only [Act.put, List.setIfInBounds_toArray, List.set_cons_zero, List.set_cons_succ]
      refine takeG 10 20 (.int .i64 (half : Int)) rfl rfl (by kernel_rfl) (by kernel_rfl) (by kernel_rfl) (fun _ _ _ h => h) (by kernel_rfl) (fun wz hz => ?_) ?_
      · rfl
      try simp only [Act.put, List.setIfInBounds_toArray, List.set_cons_zero, List.set_cons_succ]
      refine takeG 11 21 (.pointer (some ⟨g, o + half * 41, none⟩)) rfl rfl (by kernel_rfl) (by kernel_rfl) (by kernel_rfl) (fun _ _ _ h => h) (by kernel_rfl) (fun wz hz => ?_) ?_
      · go_simp
      try simp only [Act.put, List.setIfInBounds_toArray, List.set_cons_zero, List.set_cons_succ]
      refine takeG 14 24 (.slice (some ⟨g, o, none⟩) N cap) rfl rfl (by kernel_rfl) (by kernel_rfl) (by kernel_rfl) (fun _ _ _ h => h) (by kernel_rfl) (fun wz hz => ?_) ?_
      · rfl
      try simp only [Act.put, List.setIfInBounds_toArray, List.set_cons_zero, List.set_cons_succ]
      refine takeG 15 25 (.int .i64 (half : Int)) rfl rfl (by kernel_rfl) (by kernel_rfl) (by kernel_rfl) (fun _ _ _ h => h) (by kernel_rfl) (fun wz hz => ?_) ?_
      · rfl
      try simp only [Act.put, List.setIfInBounds_toArray, List.set_cons_zero, List.set_cons_succ]
      refine takeG 16 26 (.int .i64 (half1 : Int)) rfl rfl (by kernel_rfl) (by kernel_rfl) (by kernel_rfl) (fun _ _ _ h => h) (by kernel_rfl) (fun wz hz => ?_) ?_
      · go_simp
      try simp only [Act.put, List.setIfInBounds_toArray, List.set_cons_zero, List.set_cons_succ]
      refine takeG 17 27 (.slice AA N2 cap2) rfl rfl (by kernel_rfl) (by kernel_rfl) (by kernel_rfl) (fun _ _ _ h => h) (by kernel_rfl) (fun wz hz => ?_) ?_
      · (go_simp; obtain ⟨e1, e2, e3, e4⟩ := HAA.out; subst e4; exact ⟨e1, e2, e3⟩)
      try simp only [Act.put, List.setIfInBounds_toArray, List.set_cons_zero, List.set_cons_succ]
      refine readyG [3] (by kernel_rfl) (by simp) (fun w3 hg3 => ?_)
      refine AllG.call 3 13 77 #[.slice (some ⟨g, o, none⟩) half cap] rfl rfl (by kernel_rfl) (by go_simp) ((C1.out w3 (HD.out.trans hg3)).mono ?_) AllG.nil
      rintro e w4 ⟨k1, u1, rfl, hk, hf, hg4⟩
      refine ⟨u1, rfl, hg4, ?_⟩
      obtain ⟨a1, rfl⟩ := hk.form
      have HK1 : Hid (At w4 k1 (.pointer a1) ∧ k1.flat = f.take half ∧ G w w4) := ⟨hk, hf, (HD.out.trans hg3).trans hg4⟩
      clear hk hf hg4 hg3
      try simp only [Act.put, List.setIfInBounds_toArray, List.set_cons_zero, List.set_cons_succ]
      refine readyG [12] (by kernel_rfl) (by simp) (fun w5 hg5 => ?_)
      refine AllG.call 12 22 38 #[.pointer (some ⟨g, o + half * 41, none⟩)] rfl rfl (by kernel_rfl) (by go_simp) ((C2.out w5 (HK1.out.2.2.trans hg5)).mono ?_) AllG.nil
      rintro e w6 ⟨p, kk, rfl, hk, hf, hg6⟩
      refine ⟨.pointer (some ⟨p, 0, none⟩), rfl, hg6, ?_⟩
      have HK2 : Hid (AtT w6 p vv m kk ∧ kk.flat = ks ∧ G w w6 ∧ G w4 w6) := ⟨hk, hf, (HK1.out.2.2.trans hg5).trans hg6, hg5.trans hg6⟩
      clear hk hf hg6 hg5
      try simp only [Act.put, List.setIfInBounds_toArray, List.set_cons_zero, List.set_cons_succ]
      refine takeG 13 23 (.agg #[.string nm, .pointer (some ⟨p, 0, none⟩)]) rfl rfl (by kernel_rfl) (by kernel_rfl) (by kernel_rfl) (fun _ _ _ h => h) (by kernel_rfl) (fun wz hz => ?_) ?_
      · go_simp
      try simp only [Act.put, List.setIfInBounds_toArray, List.set_cons_zero, List.set_cons_succ]
      refine readyG [18] (by kernel_rfl) (by simp) (fun w7 hg7 => ?_)
      refine AllG.call 18 28 77 #[.slice AA N2 cap2] rfl rfl (by kernel_rfl) (by go_simp) ((C3.out w7 (HK2.out.2.2.1.trans hg7)).mono ?_) AllG.nil
      rintro e w8 ⟨k2, u2, rfl, hk, hf, hg8⟩
      refine ⟨u2, rfl, hg8, ?_⟩
      obtain ⟨a2, rfl⟩ := hk.form
      have HK3 : Hid (At w8 k2 (.pointer a2) ∧ k2.flat = f.drop (half + 1) ∧ G w w8 ∧ G w6 w8) := ⟨hk, hf, (HK2.out.2.2.1.trans hg7).trans hg8, hg7.trans hg8⟩
      clear hk hf hg8 hg7
      try simp only [Act.put, List.setIfInBounds_toArray, List.set_cons_zero, List.set_cons_succ]
      refine readyG [19] (by kernel_rfl) (by simp) (fun w9 hg9 => ?_)
      have CJ := join_any k1 k2 kk (.pointer a1) (.pointer a2) nm p vv m w9 (HK1.out.1.grow ((HK2.out.2.2.2.trans HK3.out.2.2.2).trans hg9)) (HK3.out.1.grow hg9) (HK2.out.1.grow (HK3.out.2.2.2.trans hg9)) (by rw [HK1.out.2.1, HK2.out.2.1, HK3.out.2.1]; exact HSZ.out)
      refine AllG.call 19 29 103 #[.pointer a1, .agg #[.string nm, .pointer (some ⟨p, 0, none⟩)], .pointer a2] rfl rfl (by kernel_rfl) (by go_simp) (CJ.mono ?_) AllG.nil
      rintro e w10 ⟨q, rfl, hq, hg10⟩
      refine ⟨.pointer (some ⟨q, 0, none⟩), rfl, hg10, ?_⟩
      have HQ : Hid (At w10 (K.node q p nm vv m kk k1 k2) (.pointer (some ⟨q, 0, none⟩)) ∧ G w w10) := ⟨hq, (HK3.out.2.2.1.trans hg9).trans hg10⟩
      clear hq hg10 hg9 CJ
      try simp only [Act.put, List.setIfInBounds_toArray, List.set_cons_zero, List.set_cons_succ]
      refine takeG 20 2 (.pointer (some ⟨q, 0, none⟩)) rfl rfl (by kernel_rfl) (by kernel_rfl) (by kernel_rfl) (fun _ _ _ h => h) (by kernel_rfl) (fun wz hz => ?_) ?_
      · rfl
      try simp only [Act.put, List.setIfInBounds_toArray, List.set_cons_zero, List.set_cons_succ]
      refine doneG (by kernel_rfl) (fun w11 hg11 => ?_)
      go_wp2_with fail
      go_ret
      refine ⟨_, _, rfl, HQ.out.1.grow hg11, ?_, HQ.out.2.trans hg11⟩
      rw [K.flat, HK1.out.2.1, HK2.out.2.1, HK3.out.2.1]
      exact HFF.out
end Go.Proofs.Ytjkbhfkeagfhbaa
namespace Go.Proofs.Ytjkbhfkeagfhbaa
open Go.Shelf
def Try.lays156_ren : Go.Shelf.Ren := ⟨fun | 156 => 76 | 165 => 100 | 166 => 101 | 169 => 102 | 240 => 115 | 241 => 116 | 276 => 125 | 277 => 126 | n => n, fun | 31 => 80 | 9 => 9 | 3 => 3 | 4 => 4 | 0 => 0 | 20 => 20 | 72 => 172 | 76 => 176 | 70 => 170 | 37 => 123 | 75 => 175 | 127 => 186 | 164 => 190 | 5 => 5 | 80 => 178 | n => n, fun | n => n⟩
theorem Try.lays156 : Go.Proofs.Lays.n156 Try.prog Try.lays156_ren := {
  mixed := by kernel_rfl
  f156 := Try.func76.trans (congrArg some (by kernel_rfl))
  f165 := Try.func100.trans (congrArg some (by kernel_rfl))
  f166 := Try.func101.trans (congrArg some (by kernel_rfl))
  f169 := Try.func102.trans (congrArg some (by kernel_rfl))
  f240 := Try.func115.trans (congrArg some (by kernel_rfl))
  f241 := Try.func116.trans (congrArg some (by kernel_rfl))
  f276 := Try.func125.trans (congrArg some (by kernel_rfl))
  f277 := Try.func126.trans (congrArg some (by kernel_rfl))
  t0 := Try.underlying0
  a0 := Try.isAgg0
  z0 := Try.sizeOf0
  v0 := Try.zeroValue0
  t3 := Try.underlying3
  a3 := Try.isAgg3
  z3 := Try.sizeOf3
  v3 := Try.zeroValue3
  t4 := Try.underlying4
  a4 := Try.isAgg4
  z4 := Try.sizeOf4
  v4 := Try.zeroValue4
  t9 := Try.underlying9
  a9 := Try.isAgg9
  z9 := Try.sizeOf9
  v9 := Try.zeroValue9
  t20 := Try.underlying20
  a20 := Try.isAgg20
  z20 := Try.sizeOf20
  v20 := Try.zeroValue20
  t31 := Try.underlying80
  a31 := Try.isAgg80
  z31 := Try.sizeOf80
  v31 := Try.zeroValue80
  t37 := Try.underlying123
  a37 := Try.isAgg123
  z37 := Try.sizeOf123
  v37 := Try.zeroValue123
  t70 := Try.underlying170
  a70 := Try.isAgg170
  z70 := Try.sizeOf170
  v70 := Try.zeroValue170
  t72 := Try.underlying172
  a72 := Try.isAgg172
  z72 := Try.sizeOf172
  v72 := Try.zeroValue172
  t75 := Try.underlying175
  a75 := Try.isAgg175
  z75 := Try.sizeOf175
  v75 := Try.zeroValue175
  t76 := Try.underlying176
  a76 := Try.isAgg176
  z76 := Try.sizeOf176
  v76 := Try.zeroValue176
  t127 := Try.underlying186
  a127 := Try.isAgg186
  z127 := Try.sizeOf186
  v127 := Try.zeroValue186
  t164 := Try.underlying190
  a164 := Try.isAgg190
  z164 := Try.sizeOf190
  v164 := Try.zeroValue190 }
theorem Try.Builder_Extra_156 : Builder.Extra Try.prog Try.lays156_ren := {
  sizeBuilder := by kernel_rfl
  liesBuilder := by kernel_rfl
  t5 := Try.underlying5
  a5 := Try.isAgg5
  z5 := Try.sizeOf5
  v5 := Try.zeroValue5
  infoByte := by kernel_rfl
  cellsByte := by kernel_rfl
  sizeByte := by kernel_rfl
  neB5 := by decide }
open Go.RowKit in
theorem Try.strings_Join_none (a : Option Addr) (c : Nat) (sep : ByteArray) (w : World) :
    Calls Try.prog 76 #[.slice a 0 c, .string sep] w fun e w' => e = .returned (.string ⟨#[]⟩) ∧ w' = w := Any.strings_Join_none Try.lays156 Try.Builder_Extra_156 a c sep w
open Go.RowKit in
theorem Try.strings_Join (bk o c : Nat) (xs : List ByteArray) (sep : ByteArray) (w : World) (hcells : ∀ (j : Nat) x, xs[j]? = some x → w.cell? ⟨bk, o + j, none⟩ = some (.string x)) (hbk : bk < w.heap.size) (hN : xs.length ≤ 140737488355328) (hcap : xs.length ≤ c) (hlen : (Lib.join (xs.map (·.data.toList)) sep.data.toList).length ≤ 140737488355328) :
    Calls Try.prog 76 #[.slice (some ⟨bk, o, none⟩) xs.length c, .string sep] w fun e w' => e = .returned (.string ⟨(Lib.join (xs.map (·.data.toList)) sep.data.toList).toArray⟩) ∧ Below w.heap.size w w' := Any.strings_Join Try.lays156 Try.Builder_Extra_156 bk o c xs sep w hcells hbk hN hcap hlen
end Go.Proofs.Ytjkbhfkeagfhbaa
namespace Go.Proofs.Ytjkbhfkeagfhbaa
open Go.RowKit

theorem lib_join : ∀ L : List By, Lib.join L [47] = joinL L
  | [] => rfl
  | [x] => Lib.join_one x [47]
  | x :: y :: t => by
    have ih := lib_join (y :: t)
    unfold Lib.join at ih ⊢
    rw [joinL, ← ih]
    simp [List.intercalate]
/-- a text of these bytes -/
def ofB (l : By) : ByteArray := ⟨l.toArray⟩
theorem tl_ofB (l : By) : tl (ofB l) = l := by simp [tl, ofB]
theorem ofB_tl (s : ByteArray) : ofB (tl s) = s := ext_of _ _ (tl_ofB _)

theorem sJoin_any (v : Value) (L : List ByteArray) (w : World) (hv : HasT w v L) (hn : L.length ≤ 1048577) (hs : (joinL (L.map tl)).length ≤ 1048576) :
    Calls Try.prog 76 #[v, .string ⟨#[47]⟩] w fun e w' => e = .returned (.string (ofB (joinL (L.map tl)))) ∧ Below w.heap.size w w' := by
  rcases hv with ⟨rfl, rfl⟩ | ⟨a, cap, rfl, hc, hcell⟩
  · exact (Try.strings_Join_none none 0 ⟨#[47]⟩ w).mono fun e w' h => ⟨h.1, by rw [h.2]; exact Below.refl _ _⟩
  · cases L with
    | nil => exact (Try.strings_Join_none (some a) cap ⟨#[47]⟩ w).mono fun e w' h => ⟨h.1, by rw [h.2]; exact Below.refl _ _⟩
    | cons x L =>
      have h0 := hcell 0 x rfl
      have hadd : a.add 0 = a := by simp [Addr.add]
      rw [hadd] at h0
      obtain ⟨bk, o, sp⟩ := a
      have hsp : sp = none := by
        cases sp with
        | none => rfl
        | some q => simp only [World.cell?] at h0; split at h0 <;> simp at h0
      subst hsp
      have hE : (fun s : ByteArray => s.data.toList) = tl := by funext s; rw [tl, ByteArray.toList_eq]
      have hlen : (Lib.join ((x :: L).map (·.data.toList)) (ByteArray.data ⟨#[47]⟩).toList).length ≤ 140737488355328 := by
        rw [hE]
        show (Lib.join _ [47]).length ≤ _
        rw [lib_join]; omega
      refine (Try.strings_Join bk o cap (x :: L) ⟨#[47]⟩ w (fun j y hj => ?_) (World.block_lt_of_cell? w _ h0) (by omega) hc hlen).mono fun e w' h => ⟨?_, h.2⟩
      · have := hcell j y hj
        by_cases e : j = 0
        · subst e; rw [hadd] at this; exact this
        · simpa [Addr.add, e] using this
      · rw [h.1, hE]
        show Ending.returned (.string ⟨(Lib.join _ [47]).toArray⟩) = _
        rw [lib_join]; rfl

set_option maxHeartbeats 1000000 in
set_option maxRecDepth 100000 in
theorem pathJoin_any (v : Value) (L : List ByteArray) (w : World) (hv : HasT w v L) (hn : L.length ≤ 1048577) (hs : (joinL (L.map tl)).length ≤ 1048576) :
    Calls Try.prog 37 #[v] w fun e w' => e = .returned (.string (ofB (joinL (L.map tl)))) ∧ Below w.heap.size w w' := by
  have C := sJoin_any v L w hv hn hs
  obtain ⟨ao, cap, rfl, _⟩ := hv.form
  clear hv hs
  generalize ofB (joinL (L.map tl)) = z at *
  go_enter Try.func37, Try.ntmps37
  go_wp2_with (go_at_call 76; refine C.mono ?_; rintro e w1 ⟨rfl, b1⟩)
  go_ret
  exact ⟨rfl, b1⟩

end Go.Proofs.Ytjkbhfkeagfhbaa
namespace Go.Proofs.Ytjkbhfkeagfhbaa
open Go.RowKit

/-- how long names are together -/
def wsum : List ByteArray → Nat
  | [] => 0
  | s :: L => 1 + s.size + wsum L
theorem wsum_append (a b : List ByteArray) : wsum (a ++ b) = wsum a + wsum b := by
  induction a with
  | nil => simp [wsum]
  | cons x a ih => simp only [List.cons_append, wsum, ih]; omega
theorem len_wsum (a : List ByteArray) : a.length ≤ wsum a := by
  induction a with
  | nil => simp
  | cons x a ih => simp only [List.length_cons, wsum]; omega
theorem join_wsum : ∀ a : List ByteArray, (joinL (a.map tl)).length ≤ wsum a
  | [] => by simp [joinL]
  | [x] => by simp [joinL, wsum, tl_len]
  | x :: y :: a => by
    have ih := join_wsum (y :: a)
    simp only [List.map_cons, joinL, List.length_append, List.length_cons, tl_len] at ih ⊢
    simp only [wsum] at ih ⊢
    omega
theorem fault_wsum : ∀ (f : F) (prev : Option ByteArray) (L P : List ByteArray) (e : Int), faultF f prev L = some (P, e) → wsum P ≤ wsum L + f.weight
  | .nil, _, _, _, _, h => by cases h
  | .cons nm v m ks r, prev, L, P, e, h => by
    rw [faultF] at h
    have hw : wsum (L ++ [nm]) = wsum L + (1 + nm.size) := by rw [wsum_append]; simp [wsum]
    split at h
    · injection h with h; injection h with h1; subst h1; rw [hw, F.weight]; omega
    · split at h
      · injection h with h; injection h with h1; subst h1; rw [hw, F.weight]; omega
      · cases hx : faultF ks none (L ++ [nm]) with
        | some x =>
          rw [hx] at h
          injection h with h
          subst h
          have := fault_wsum ks none (L ++ [nm]) P e hx
          rw [hw] at this
          rw [F.weight]; omega
        | none =>
          rw [hx] at h
          have := fault_wsum r (some nm) L P e h
          rw [F.weight]; omega
theorem faultN_wsum {v : Vd} {m : Md} {ks : F} {P : List ByteArray} {e : Int} (h : faultN v m ks [] = some (P, e)) : wsum P ≤ ks.weight := by
  unfold faultN at h
  split at h
  · injection h with h; injection h with h1; subst h1; simp [wsum]
  · have := fault_wsum ks none [] P e h
    simpa [wsum] using this
theorem F.ok_of_weight : ∀ f : F, f.weight ≤ 9223372036854775807 → f.ok
  | .nil, _ => trivial
  | .cons nm v m ks r, h => by
    simp only [F.weight] at h
    have h1 := F.size_le_weight ks
    have h2 := F.len_le_size ks
    exact ⟨by omega, by omega, F.ok_of_weight ks (by omega), F.ok_of_weight r (by omega)⟩
theorem F.okL_of_weight (f : F) (h : f.weight ≤ 9223372036854775807) : f.okL := Nat.le_trans (F.size_le_weight f) h

/-- the names and the error of an answer -/
def namesOf : Option (List ByteArray × Int) → List ByteArray
  | none => []
  | some (P, _) => P
def errOf : Option (List ByteArray × Int) → Int
  | none => 0
  | some (_, e) => e
theorem FaultRes.both {w : World} {u : Value} {er : Int} {r : Option (List ByteArray × Int)} (h : FaultRes w u er r) : HasT w u (namesOf r) ∧ er = errOf r := by
  cases r with
  | none => exact ⟨.inl ⟨h.2, rfl⟩, h.1⟩
  | some x => exact ⟨h.2.2, h.1⟩
theorem G.of_grown {w w' : World} (h : w.grownBy w' none) : G w w' := ⟨h.os, h.tape, h.output, h.size, fun k hk => h.block k hk (by simp)⟩
/-- what Check answers -/
def checkP (v : Vd) (m : Md) (ks : F) : ByteArray := ofB (joinL ((namesOf (faultN v m ks [])).map tl))
def checkE (v : Vd) (m : Md) (ks : F) : Int := errOf (faultN v m ks [])
theorem names_wsum (v : Vd) (m : Md) (ks : F) : wsum (namesOf (faultN v m ks [])) ≤ ks.weight := by
  cases h : faultN v m ks [] with
  | none => simp [namesOf, wsum]
  | some x => exact faultN_wsum (e := x.2) h

set_option maxRecDepth 100000 in
set_option maxHeartbeats 1000000 in
theorem tcheck_any (c : Array Value) (nm : ByteArray) (v : Vd) (m : Md) (ks : F) (w : World) (hN : HasN w c nm v m ks) (hw : ks.weight ≤ 100000) :
    Calls Try.prog 9 #[.agg c] w fun e w' => e = .returned (.tuple #[.string (checkP v m ks), .int .i64 (checkE v m ks)]) ∧ G w w' := by
  obtain ⟨kv, hc, hS⟩ := hN
  have hB : G w (w.alloc (.cells c 30)) := G.alloc _ _
  have hl := lies_new w c 30
  rw [hc] at hl
  have C1 := fault_any (w.alloc (.cells (nc nm v m kv) 30)) (ks.size + 1) ks (Nat.lt_succ_self _) w.heap.size 0 nm v m kv hl (by rw [← hc]; exact hS.below hB) (F.okL_of_weight _ (by omega)) (F.ok_of_weight _ (by omega)) (w.alloc (.cells (nc nm v m kv) 30)) (.slice none 0 0) [] (Below.refl _ _) (OwnsT.nil _ _) (by simp)
  rw [← hc] at C1
  have HG : Hid (G w (w.alloc (.cells c 30))) := hB
  have hws := names_wsum v m ks
  have C2 : Hid (∀ (W : World) (u : Value), HasT W u (namesOf (faultN v m ks [])) → Calls Try.prog 37 #[u] W fun e w' => e = .returned (.string (checkP v m ks)) ∧ G W w') := fun W u h => pathJoin_any u _ W h (by have := len_wsum (namesOf (faultN v m ks [])); omega) (by have := join_wsum (namesOf (faultN v m ks [])); omega)
  have HE : Hid (errOf (faultN v m ks []) = checkE v m ks) := rfl
  generalize checkP v m ks = cp at *
  generalize checkE v m ks = ce at *
  clear hl hc hS hB hw hws
  go_enter Try.func9, Try.ntmps9
  go_upto_region 1 with fail
  generalize w.alloc (.cells c 30) = w1 at *
  generalize w.heap.size = H at *
  go_wp2_with (first
    | (go_at_call 36; refine C1.mono ?_; rintro e w2 ⟨u, er, rfl, hg2, _, hres⟩; obtain ⟨hT, her⟩ := hres.both; rw [HE.out] at her; subst her; have CJ := C2.out w2 u hT; have HG2 : Hid (G w w2) := HG.out.trans (G.of_grown hg2); obtain ⟨au, cu, hu, _⟩ := hT.form; subst hu; clear C1 C2 hT hg2 hres)
    | (go_at_call 37; refine CJ.mono ?_; rintro e w3 ⟨rfl, g3⟩))
  go_ret2
  exact ⟨rfl, HG2.out.trans g3⟩

/-- the tree that Of answers -/
def OfRes (w : World) (u : Value) (ce : Int) (v : Vd) (m : Md) (ks : F) : Prop := (ce ≠ 0 ∧ u = .pointer none) ∨ (ce = 0 ∧ ∃ p k, u = .pointer (some ⟨p, 0, none⟩) ∧ AtT w p v m k ∧ k.flat = ks)
set_option maxRecDepth 100000 in
set_option maxHeartbeats 1000000 in
theorem of_any (c : Array Value) (nm : ByteArray) (v : Vd) (m : Md) (ks : F) (w : World) (hN : HasN w c nm v m ks) (hw : ks.weight ≤ 100000) :
    Calls Try.prog 10 #[.agg c] w fun e w' => ∃ u, e = .returned (.tuple #[u, .int .i64 (checkE v m ks)]) ∧ G w w' ∧ OfRes w' u (checkE v m ks) v m ks := by
  have hB : G w (w.alloc (.cells c 30)) := G.alloc _ _
  have C1 := tcheck_any c nm v m ks (w.alloc (.cells c 30)) (hN.below hB) hw
  obtain ⟨kv, hc, hS⟩ := hN
  have hl := lies_new w c 30
  have HL : Hid (Lies (w.alloc (.cells c 30)) w.heap.size 0 c ∧ c.size = 41) := ⟨hl, by rw [hc]; exact nc_size ..⟩
  have C2 := hid (fun (W : World) (hW : G (w.alloc (.cells c 30)) W) => made_any w.heap.size 0 nm v m kv ks W (by have := hW.lies hl; rw [hc] at this; exact this) ((hS.below hB).below hW) (F.okL_of_weight _ (by omega)) (children_any (ks.size + 1) ks (Nat.lt_succ_self _)))
  have HG : Hid (G w (w.alloc (.cells c 30))) := hB
  generalize checkP v m ks = cp at *
  generalize checkE v m ks = ce at *
  clear hl hc hS hB hw
  go_enter Try.func10, Try.ntmps10
  go_upto_region 1 with fail
  generalize w.alloc (.cells c 30) = w1 at *
  generalize w.heap.size = H at *
  by_cases h0 : ce = 0
  · subst h0
    go_wp2_with (first
      | (with_reducible refine wpList_exec (.agg c) ?_ ?_ ?_; exact exec_load30 _ rfl H 0 rfl c HL.out.2 HL.out.1; kernel_rfl)
      | (go_at_call 9; refine C1.mono ?_; rintro e w2 ⟨rfl, g2⟩; have CM := C2.out w2 g2; have HG2 : Hid (G w w2) := HG.out.trans g2; clear C1 C2 g2)
      | (go_at_call 38; refine CM.mono ?_; rintro e w3 ⟨p, k, rfl, h3⟩; have H3 := hid h3; clear h3 CM))
    go_ret2
    exact ⟨_, rfl, HG2.out.trans H3.out.2.2, .inr ⟨rfl, p, k, rfl, H3.out.1, H3.out.2.1⟩⟩
  · have h0' : (ce != 0) = true := by simpa using h0
    have H0 : Hid (ce ≠ 0) := h0
    clear h0
    go_wp2_with (first
      | (with_reducible refine wpList_exec (.agg c) ?_ ?_ ?_; exact exec_load30 _ rfl H 0 rfl c HL.out.2 HL.out.1; kernel_rfl)
      | (go_at_call 9; refine C1.mono ?_; rintro e w2 ⟨rfl, g2⟩; have HG2 : Hid (G w w2) := HG.out.trans g2; clear C1 C2 g2))
    go_ret2
    exact ⟨_, rfl, HG2.out, .inl ⟨H0.out, rfl⟩⟩
end Go.Proofs.Ytjkbhfkeagfhbaa
