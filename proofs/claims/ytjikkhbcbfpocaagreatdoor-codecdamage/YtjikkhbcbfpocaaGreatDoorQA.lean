import Derived.Test.YtjikkhbcbfpocaaGreatDoorLA
import Derived.Test.YtjikkhbcbfpocaaGreatDoorCards
import Derived.Test.YtjikkhbcbfpocaaGreatDoorTie
import Derived.ProofKit
import Derived.OpenShut
import Derived.ShutString
import Derived.Deep.DeepHandedRow
import Derived.LaidHandle
import Derived.MakeChecks
import Derived.Lib.LaidTab
set_option maxRecDepth 100000
set_option maxHeartbeats 4000000
namespace Go.Proofs.YtjikkhbcbfpocaaGreatDoor
open Go.RowKit Go.Shelf
def md8 (ver : Int) : F → Prop
 | .nil => True
 | .cons _ v _ ks r => (ver < 2 → v.kind ≠ 3 → v.mode = 8) ∧ md8 ver ks ∧ md8 ver r
def laO (prev : Option ByteArray) : ByteArray := prev.getD ⟨#[]⟩
theorem sT {prev : Option ByteArray} {nm : ByteArray} {lev : Nat} (h : kh prev nm lev = 0) : nOkB (laO prev) nm = true := by
 obtain ⟨_, h2, h3⟩ := zX h
 unfold nOkB
 rw [h2, Bool.and_true]
 cases prev with
 | none =>
  have hne : nm.toList ≠ [] := fun e => by
   have h1 := (of_decide_eq_true h2).1
   rw [xw] at h1
   have h4 := xw nm
   unfold tl at h4
   rw [e] at h4
   simp only [lN] at h4
   omega
  show (!(Op.bytesLess nm.toList (⟨#[]⟩ : ByteArray).toList || nm.toList == (⟨#[]⟩ : ByteArray).toList)) = true
  have e0 : (⟨#[]⟩ : ByteArray).toList = [] := by rw [ByteArray.toList_eq]
  rw [e0, d9, Bool.false_or]
  simp [hne]
 | some p =>
  show (!leB nm p) = true
  have : leB nm p = false := h3
  rw [this]; rfl
theorem fg {l : List Int} {ver : Int} : ∀ (f : F) (n : Nat) (here : List ByteArray) (prev : Option ByteArray) (L : List ByteArray) (acc : F) (r : Rv) (Y : List Nat), jk f prev L = none → here.length = L.length → L.length + 1 + n = 66 → md8 ver f → Okr r → (f.size : Int) ≤ r.left → r.left < 9223372036854775808 → l.drop r.s.p = up (encF ver f ++ Y) →
  ∃ S, kidL (jb l ver n (some here)) f.len acc (laO prev) r = (some (acc.app (f.mp id (mz ver))), fwd r (encF ver f).length f.size S) ∧ S.map (·.hash) = dirF f
 | .nil, n, here, prev, L, acc, r, Y, _, _, _, _, _, _, _, _ => by
  refine ⟨[], ?_, by unfold dirF; simp [kf, dirs]⟩
  show (some acc, r) = _
  rw [F.mp, F.mY]
  unfold fwd
  simp [encF, F.size]
 | .cons nm v m ks rest, n, here, prev, L, acc, r, Y, hf, hhl, hn, h8, h0, hlo, hhi, hd => by
  obtain ⟨f1, f2, f3, f4⟩ := qt hf
  have hdp := (zX f1).1
  obtain ⟨n', rfl⟩ : ∃ n', n = n' + 1 := ⟨n - 1, by omega⟩
  rw [yv, List.append_assoc] at hd
  have hsz : (F.cons nm v m ks rest).size = 1 + ks.size + rest.size := by simp only [F.size]; omega
  rw [hsz] at hlo
  obtain ⟨S1, e1, e2⟩ := eF (l := l) (ver := ver) (n := n') (u := some here) (last := laO prev) (nm := nm) (r := r) (v := v) (m := m) (ks := ks) h0 (by omega) hhi (by show here.length + 1 ≤ 64; omega) (fun q => by cases q) (fun _ _ => sT f1) f2 h8.1 hd (fun r' Y' o lo hi hd' => by
   obtain ⟨S, q1, q2⟩ := fg ks n' (nm :: here) none (L ++ [nm]) .nil r' Y' f3 (by simp [hhl]) (by rw [lA]; simp only [lC, lN]; omega) h8.2.1 o lo hi hd'
   exact ⟨S, q1, q2⟩)
  have hd2 : l.drop (fwd r (encT ver (namB nm) v m ks).length (1 + ks.size) S1).s.p = up (encF ver rest ++ Y) := jw hd
  obtain ⟨S2, e3, e4⟩ := fg rest (n' + 1) here (some nm) L (acc.app (.cons nm v (mz ver m) (ks.mp id (mz ver)) .nil)) (fwd r (encT ver (namB nm) v m ks).length (1 + ks.size) S1) Y f4 hhl hn h8.2.2 h0 (by show _ ≤ r.left - _; omega) (by show r.left - _ < _; omega) hd2
  refine ⟨S1 ++ S2, ?_, by rw [List.map_append, e2, e4, x4]⟩
  have hk : kidL (jb l ver (n' + 1) (some here)) (F.cons nm v m ks rest).len acc (laO prev) r = kidL (jb l ver (n' + 1) (some here)) rest.len (acc.app (.cons nm v (mz ver m) (ks.mp id (mz ver)) .nil)) nm (fwd r (encT ver (namB nm) v m ks).length (1 + ks.size) S1) := by
   rw [show (F.cons nm v m ks rest).len = rest.len + 1 from by simp only [F.len]]
   rw [kidL, if_neg (by simp [h0.2]), e1]
   rfl
  rw [hk]
  have e3 : kidL (jb l ver (n' + 1) (some here)) rest.len (acc.app (.cons nm v (mz ver m) (ks.mp id (mz ver)) .nil)) nm (fwd r (encT ver (namB nm) v m ks).length (1 + ks.size) S1) = _ := e3
  rw [e3, sS, F.eH, yv, lA, hsz]
  rfl
theorem sU {l : List Int} {ver : Int} {r : Rv} {v : Vd} {m : Md} {ks : F} {Y : List Nat} (h0 : Okr r) (hlo : ((1 + ks.size : Nat) : Int) ≤ r.left) (hhi : r.left < 9223372036854775808) (hk : v.kind = 1) (hc : qZ v m ks = 0) (h8 : (ver < 2 → v.mode = 8) ∧ md8 ver ks) (hd : l.drop r.s.p = up (encT ver [] v m ks ++ Y)) :
  ∃ S, jb l ver 66 none ⟨#[]⟩ r = (⟨⟨#[]⟩, v, mz ver m, ks.mp id (mz ver)⟩, fwd r (encT ver [] v m ks).length (1 + ks.size) S) ∧ S.map (·.hash) = dirT v ks := by
 obtain ⟨c1, c2⟩ := qF hc
 exact eF (n := 65) (u := none) h0 hlo hhi (by decide) (fun _ => ⟨hk, rfl⟩) (fun _ q => by cases q) c1 (fun q _ => h8.1 q) hd fun r' Y' o lo hi hd' => fg ks 65 [] none [] .nil r' Y' c2 rfl rfl h8.2 o lo hi hd'
theorem dB (n : Nat) : (le4 n).length = 4 := rfl
theorem ai (ver : Nat) (v : Vd) (m : Md) (ks : F) : (arcW ver v m ks).take ((arcW ver v m ks).length - 4) = arcB ver v m ks := by
 unfold arcW
 rw [lA, dB, Nat.add_sub_cancel, List.take_append_of_le_length (Nat.le_refl _), List.take_of_length_le (Nat.le_refl _)]
theorem mQ (ver : Nat) (v : Vd) (m : Md) (ks : F) : (arcW ver v m ks).drop ((arcW ver v m ks).length - 4) = le4 (Su.Crc.crc (arcB ver v m ks)) := by
 unfold arcW
 rw [lA, dB, Nat.add_sub_cancel, List.drop_append, List.drop_of_length_le (Nat.le_refl _)]
 simp
theorem ym (ver : Nat) (hv : ver < 128) (v : Vd) (m : Md) (ks : F) : arcB ver v m ks = [116, 119, 110, 101, ver] ++ (encN (1 + ks.size) ++ encT ver [] v m ks) := by
 unfold arcB
 rw [kP hv]
 rfl
theorem aj {ver : Nat} (h1 : 1 ≤ ver) (h3 : ver ≤ 3) (v : Vd) (m : Md) (ks : F) : opU (arcW ver v m ks) = (ver, ⟨5, 0, 0⟩) ∧ opF (arcW ver v m ks) = none ∧ decL (arcW ver v m ks) = up (arcB ver v m ks) := by
 have hb : arcW ver v m ks = [116, 119, 110, 101] ++ (encN ver ++ (encN (1 + ks.size) ++ encT ver [] v m ks ++ le4 (Su.Crc.crc (arcB ver v m ks)))) := by
  unfold arcW
  rw [ym ver (by omega), kP (n := ver) (by omega)]
  simp
 have hU : opU (arcW ver v m ks) = (ver, ⟨5, 0, 0⟩) := by
  have hd : (up (arcW ver v m ks)).drop 4 = up (encN ver ++ (encN (1 + ks.size) ++ encT ver [] v m ks ++ le4 (Su.Crc.crc (arcB ver v m ks)))) := by
   rw [hb, ← dH]
   rfl
  have hr : Wire.rd 0 ((up (arcW ver v m ks)).drop 4) = .ok ver (Wire.enc ver).length := by rw [hd, qB, yu]; exact Wire.fM _ (by omega)
  unfold opU Wi.uintS
  rw [if_neg (by simp), hr]
  simp only
  rw [if_pos h3, Wire.aF (by omega)]
  rfl
 refine ⟨hU, ?_, ?_⟩
 ·have hm : opM (arcW ver v m ks) = true := by
   unfold opM
   rw [hb]
   rfl
  have hl : 9 ≤ (arcW ver v m ks).length := by
   rw [hb, kP (n := ver) (by omega)]
   simp only [lA, lC, lN, dB]
   omega
  unfold opF
  rw [hm, hU, if_neg (by simp), if_neg (by simp only; omega), if_neg (by simp only; omega), mQ, ai, if_pos rfl]
 ·unfold decL
  rw [ai]
theorem eG {ver : Nat} (h1 : 1 ≤ ver) (h3 : ver ≤ 3) (v : Vd) (m : Md) (ks : F) : (decL (arcW ver v m ks)).drop 5 = up (encN (1 + ks.size) ++ encT ver [] v m ks) := by
 rw [(aj h1 h3 v m ks).2.2, ← dH, ym ver (by omega)]
 rfl
theorem mT {ver : Nat} (h1 : 1 ≤ ver) (h3 : ver ≤ 3) {v : Vd} {m : Md} {ks : F} {most : Int} (hb : 1 + ks.size ≤ bnd most) (hk : v.kind = 1) (hc : qZ v m ks = 0) (h8 : ((ver : Int) < 2 → v.mode = 8) ∧ md8 ver ks) :
  (decN (arcW ver v m ks) most).1 = ⟨⟨#[]⟩, v, mz ver m, ks.mp id (mz ver)⟩ ∧ (decN (arcW ver v m ks) most).2.flt = none ∧ (decN (arcW ver v m ks) most).2.st.map (·.hash) = dirT v ks := by
 have hbl := rR most
 obtain ⟨hU, _, hL⟩ := aj h1 h3 v m ks
 have hd := eG h1 h3 v m ks
 have hR : decR (arcW ver v m ks) = ⟨⟨5, 0, 0⟩, 0, none, []⟩ := by unfold decR; rw [hU]
 unfold decN
 rw [hR, hU]
 generalize hl : decL (arcW ver v m ks) = l at *
 have hr : Wire.rd 0 (l.drop 5) = .ok (1 + ks.size) (Wire.enc (1 + ks.size)).length := by rw [hd, qB, yu]; exact Wire.fM _ (by omega)
 have hu : Wi.uintS l ⟨5, 0, 0⟩ (bnd most) = (1 + ks.size, ⟨5 + (encN (1 + ks.size)).length, 0, 0⟩) := by
  unfold Wi.uintS
  rw [if_neg (by simp), hr]
  simp only
  rw [if_pos hb, kT]
 have hA : qm l (bnd most) ⟨⟨5, 0, 0⟩, 0, none, []⟩ = ⟨⟨5 + (encN (1 + ks.size)).length, 0, 0⟩, ((1 + ks.size : Nat) : Int), none, []⟩ := by
  unfold qm
  simp only [hu]
  rw [decide_eq_true (by omega : 0 < 1 + ks.size)]
  unfold kC
  rw [if_neg (by simp), zY rfl]
 have hd2 : l.drop (5 + (encN (1 + ks.size)).length) = up (encT ver [] v m ks ++ []) := by
  rw [List.append_nil]
  exact jw (r := ⟨⟨5, 0, 0⟩, 0, none, []⟩) hd
 obtain ⟨S, e1, e2⟩ := sU (l := l) (ver := ver) (r := ⟨⟨5 + (encN (1 + ks.size)).length, 0, 0⟩, ((1 + ks.size : Nat) : Int), none, []⟩) (v := v) (m := m) (ks := ks) ⟨rfl, rfl⟩ (Int.le_refl _) (by show ((1 + ks.size : Nat) : Int) < _; omega) hk hc h8 hd2
 have hend : 5 + (encN (1 + ks.size)).length + (encT ver [] v m ks).length = l.length := by
  have hx := congrArg List.length hd
  rw [List.length_drop, qU, lA] at hx
  have : 1 ≤ (encN (1 + ks.size)).length := by rw [kT]; exact Wire.dt _
  omega
 unfold zQ
 simp only
 rw [hA, e1]
 simp only
 have hE : cF l (fwd ⟨⟨5 + (encN (1 + ks.size)).length, 0, 0⟩, ((1 + ks.size : Nat) : Int), none, []⟩ (encT ver [] v m ks).length (1 + ks.size) S) = fwd ⟨⟨5 + (encN (1 + ks.size)).length, 0, 0⟩, ((1 + ks.size : Nat) : Int), none, []⟩ (encT ver [] v m ks).length (1 + ks.size) S := by
  have hs : Wi.endS l (fwd ⟨⟨5 + (encN (1 + ks.size)).length, 0, 0⟩, ((1 + ks.size : Nat) : Int), none, []⟩ (encT ver [] v m ks).length (1 + ks.size) S).s = (fwd ⟨⟨5 + (encN (1 + ks.size)).length, 0, 0⟩, ((1 + ks.size : Nat) : Int), none, []⟩ (encT ver [] v m ks).length (1 + ks.size) S).s := by
   unfold Wi.endS fwd
   simp only
   rw [if_neg (by simp), if_neg (by omega)]
  unfold cF
  rw [hs, zY (by rfl)]
 rw [hE]
 have hN : zl 5 (fwd ⟨⟨5 + (encN (1 + ks.size)).length, 0, 0⟩, ((1 + ks.size : Nat) : Int), none, []⟩ (encT ver [] v m ks).length (1 + ks.size) S) = fwd ⟨⟨5 + (encN (1 + ks.size)).length, 0, 0⟩, ((1 + ks.size : Nat) : Int), none, []⟩ (encT ver [] v m ks).length (1 + ks.size) S := by
  unfold zl fwd
  rw [if_neg (by simp only; omega)]
 refine ⟨trivial, ?_, ?_⟩
 ·show (zl 5 _).flt = none
  rw [hN]; rfl
 ·show (zl 5 _).st.map _ = _
  rw [hN]; exact e2
theorem dC (g : Md → Md) : ∀ f : F, kf (f.mp id g) = kf f
 | .nil => rfl
 | .cons nm v m ks r => by
  rw [F.mp, ku, ku, dC g r]
  have : jd (id v) (ks.mp id g) = jd v ks := by
   unfold jd
   rw [dC g ks]
   rfl
  rw [this]
theorem mU (g : Md → Md) (v : Vd) (f : F) : dirT v (f.mp id g) = dirT v f := by
 unfold dirT jd
 rw [dC]
theorem rW (ver : Int) {v : Vd} {m : Md} {b : Bool} (h : ownE v m b = 0) : ownE v (mz ver m) b = 0 := by
 unfold mz
 split
 ·rcases ag h with ⟨_, _, _, _, k5⟩ | ⟨k1, k2, k3, k4, _, _⟩ | ⟨_, _, _, _, k5⟩
  ·rw [← k5]; exact h
  ·simp [ownE, jt, k1, k2, k3, k4, js, Md.zero]
  ·rw [← k5]; exact h
 ·exact h
theorem aL (ver : Int) : ∀ {f : F} {prev : Option ByteArray} {L : List ByteArray}, jk f prev L = none → jk (f.mp id (mz ver)) prev L = none
 | .nil, _, _, h => h
 | .cons nm v m ks r, prev, L, h => by
  obtain ⟨a, b, c, d⟩ := qt h
  rw [F.mp]
  unfold jk
  rw [F.mp_len, if_neg (by rw [a]; simp), if_neg (by rw [show id v = v from rfl, rW ver b]; simp), aL ver c]
  exact aL ver d
theorem gt {fv : Vd → Vd} {fm : Md → Md} (h : ∀ v, (fv v).sum = v.sum) : ∀ {f : F}, bytF f → bytF (f.mp fv fm)
 | .nil, _ => trivial
 | .cons _ v _ _ _, hb => ⟨by rw [h v]; exact hb.1, gt h hb.2.1, gt h hb.2.2⟩
theorem mW (v : Vd) : (unkV v).sum = v.sum := by unfold unkV; split <;> rfl
theorem dD {ver : Int} (h : 2 ≤ ver) : ∀ f : F, md8 ver f
 | .nil => trivial
 | .cons _ _ _ ks r => ⟨fun q => by omega, dD h ks, dD h r⟩
theorem fh (ver : Int) : ∀ f : F, md8 ver (f.mp unkV id)
 | .nil => trivial
 | .cons _ v _ ks r => ⟨fun _ q => by unfold unkV at q ⊢; split at q <;> simp_all, fh ver ks, fh ver r⟩
theorem te (ver : Int) (f : F) : md8 ver (wrF ver f) := by
 unfold wrF
 split
 ·exact fh ver f
 ·exact dD (by omega) f
structure Ar (ver : Nat) (v : Vd) (m : Md) (ks : F) : Prop where
 h1 : 1 ≤ ver
 h3 : ver ≤ 3
 hk : v.kind = 1
 hc : qZ v m ks = 0
 h8 : ((ver : Int) < 2 → v.mode = 8) ∧ md8 ver ks
 hB : Su.Bytes v.sum
 hb : bytF ks
 hw : ks.weight ≤ 20000
theorem Ar.c {ver : Nat} {v : Vd} {m : Md} {ks : F} (h : Ar ver v m ks) : cOk v m := d8 (qF h.hc).1 h.hB
theorem Ar.g {ver : Nat} {v : Vd} {m : Md} {ks : F} (h : Ar ver v m ks) : gOk ks ∧ nOk ks := yk (qF h.hc).2 h.hb
theorem Ar.sz {ver : Nat} {v : Vd} {m : Md} {ks : F} (h : Ar ver v m ks) : ks.size ≤ 20000 := Nat.le_trans (F.size_le_weight ks) h.hw
theorem Ar.bytes {ver : Nat} {v : Vd} {m : Md} {ks : F} (h : Ar ver v m ks) : Su.Bytes (arcW ver v m ks) := by
 unfold arcW
 intro x hx
 rcases List.mem_append.1 hx with q | q
 ·exact xT ver h.c h.g.1 x q
 ·exact eB _ x q
theorem Ar.len {ver : Nat} {v : Vd} {m : Md} {ks : F} (h : Ar ver v m ks) : (arcW ver v m ks).length ≤ 350 * (1 + ks.size) := (i3 ver (by have := h.h3; omega) h.c h.g.1 h.g.2 (by have := h.sz; omega)).1
theorem gu {ver : Nat} (h1 : 1 ≤ ver) (h3 : ver ≤ 3) {v : Vd} {m : Md} {ks : F} {most : Int} (hs : ks.size ≤ 20000) : (qm (decL (arcW ver v m ks)) (bnd most) (decR (arcW ver v m ks))).left ≤ 100000 := by
 obtain ⟨hU, _, hL⟩ := aj h1 h3 v m ks
 have hd := eG h1 h3 v m ks
 have hR : decR (arcW ver v m ks) = ⟨⟨5, 0, 0⟩, 0, none, []⟩ := by unfold decR; rw [hU]
 rw [zV, hR]
 generalize decL (arcW ver v m ks) = l at *
 have hr : Wire.rd 0 (l.drop 5) = .ok (1 + ks.size) (Wire.enc (1 + ks.size)).length := by rw [hd, qB, yu]; exact Wire.fM _ (by omega)
 show ((Wi.uintS l ⟨5, 0, 0⟩ (bnd most)).1 : Int) ≤ 100000
 unfold Wi.uintS
 rw [if_neg (by simp), hr]
 simp only
 split
 ·simp only; omega
 ·simp only; omega
theorem tf {ver : Nat} {v : Vd} {m : Md} {ks : F} {most : Int} (h : Ar ver v m ks) (hb : 1 + ks.size ≤ bnd most) : DecOk (decN (arcW ver v m ks) most).1 (decN (arcW ver v m ks) most).2 := by
 obtain ⟨e1, e2, e3⟩ := mT h.h1 h.h3 (most := most) hb h.hk h.hc h.h8
 have hl : (decN (arcW ver v m ks) most).2.st.length = (dirT v ks).length := by rw [← e3, List.length_map]
 have hf : (dirT v ks).length ≤ 3 * ks.size + 1 := by
  unfold dirT dirs
  rw [List.length_map]
  exact Nat.le_trans (List.length_filter_le _ _) (ee _ _)
 have hz := h.sz
 have hg := yk (aL ver (qF h.hc).2) (gt (fun _ => rfl) h.hb)
 rw [e1]
 refine ⟨eC ?_ (aL ver (qF h.hc).2), ?_, h.c.2.1, hg.1.fOk, ?_, by omega, ?_⟩
 ·simp only [F.mp_len]
  exact rW ver (qF h.hc).1
 ·simp only [F.mp_weight]; have := h.hw; omega
 ·simp only [mU]; exact hl
 ·simp only [F.mp_size]; omega
theorem gv (u : Value) {ver : Nat} {v : Vd} {m : Md} {ks : F} {most : Int} (W : World) (h : Ar ver v m ks) (hb : 1 + ks.size ≤ bnd most) (hu : Su.Has W u (arcW ver v m ks)) (hTb : Su.Tabs W) (hTh : Su.Half W) (hE : ErrT W) (h1 : 1 < W.heap.size) :
  Calls Tryz.prog 13 #[u, .int .i64 most] W fun e w' => ∃ p k, e = .returned (.tuple #[.pointer (some ⟨p, 0, none⟩), .int .i64 (ver : Int), .nilIface]) ∧ G W w' ∧ AtT w' p v (mz ver m) k ∧ k.flat = ks.mp id (mz ver) := by
 obtain ⟨d3, d4, d5⟩ := mT h.h1 h.h3 (most := most) hb h.hk h.hc h.h8
 obtain ⟨d2, d1, _⟩ := aj h.h1 h.h3 v m ks
 have hl := h.len
 have hz := h.sz
 refine (xR u _ most W hu h.bytes hTh hTb hE h1 (by omega) (fun _ => .inl (gu h.h1 h.h3 hz)) fun _ _ => tf h hb).mono ?_
 rintro e w' ⟨hg, hp⟩
 rcases hp with ⟨x, q, _⟩ | ⟨_, ⟨x, q, _⟩ | ⟨_, ⟨q, _⟩ | ⟨_, p, k, q1, q2, q3, _, _⟩⟩⟩
 ·rw [d1] at q; cases q
 ·rw [d4] at q; cases q
 ·refine absurd ?_ q
  rw [d3]
  exact d5.trans (mU (mz ver) v ks).symm
 ·rw [d2] at q1
  rw [d3] at q2 q3
  exact ⟨p, k, q1, hg, q2, q3⟩
attribute [local go_sem] Oper.semAt_some
def kv7 : Vd := ⟨1, 7, 0, jo, by simp [jo]⟩
def kA : List Nat := arcW 3 kv7 Md.zero .nil
theorem aO : qZ kv7 Md.zero .nil = 0 := by decide
theorem n9 : ∃ h c : List Nat, kA = [116, 119, 110, 101, 3, 1, 1, 7, 0] ++ (h ++ c) ∧ h.length = 32 ∧ c.length = 4 := by
 refine ⟨(jd kv7 .nil).1, le4 (Su.Crc.crc (arcB 3 kv7 Md.zero .nil)), ?_, kg _ _, rfl⟩
 unfold kA arcW
 generalize le4 (Su.Crc.crc (arcB 3 kv7 Md.zero .nil)) = c
 rw [ym 3 (by decide)]
 unfold encT oneB
 rw [if_pos (show kv7.kind = 1 from rfl), show F.nil.size = 0 from rfl, show F.nil.len = 0 from rfl, kP (n := 0) (by decide), kP (n := 1 + 0) (by decide)]
 generalize (jd kv7 .nil).1 = h
 simp [modB, encF, kv7]
theorem nC : kA.length = 45 := by
 obtain ⟨h, c, e, h1, h2⟩ := n9
 rw [e]
 simp [h1, h2]
theorem sf : kA.take 9 = [116, 119, 110, 101, 3, 1, 1, 7, 0] := by
 obtain ⟨h, c, e, h1, h2⟩ := n9
 rw [e]
 rfl
theorem ErrT.up {w w' : World} (h : ErrT w) (hg : G w w') : ErrT w' := hg.cell h
theorem uN : Ar 3 kv7 Md.zero .nil := ⟨by decide, by decide, rfl, aO, ⟨fun q => absurd q (by decide), trivial⟩, aZ, trivial, by decide⟩
theorem pN (v : Value) (W : World) (hv : Su.Has W v kA) (hTb : Su.Tabs W) (hTh : Su.Half W) (hE : ErrT W) (h1 : 1 < W.heap.size) :
  Calls Tryz.prog 13 #[v, .int .i64 9] W fun e w' => ∃ p k, e = .returned (.tuple #[.pointer (some ⟨p, 0, none⟩), .int .i64 3, .nilIface]) ∧ G W w' ∧ AtT w' p kv7 Md.zero k ∧ k.flat = .nil :=
 (gv v W uN (by decide) hv hTb hTh hE h1).mono fun _ _ ⟨p, k, q1, q2, q3, q4⟩ => ⟨p, k, q1, q2, q3, q4⟩
theorem sg (W : World) (hTb : Su.Tabs W) (hTh : Su.Half W) (hE : ErrT W) (h1 : 1 < W.heap.size) :
  Calls Tryz.prog 13 #[.slice none 0 0, .int .i64 9] W fun e w' => ∃ fb, e = .returned (.tuple #[.pointer none, .int .i64 0, .iface 72 (.pointer (some ⟨fb, 0, none⟩))]) ∧ G W w' ∧ w'.heap[fb]? = some (.cells (fc 0 ⟨#[]⟩ 60) 93 (0, 0)) := by
 have hF : opF [] = some (0, 60) := by unfold opF opM; rfl
 refine (xR (.slice none 0 0) [] 9 W (Su.Has.nil W) (fun x hx => by cases hx) hTh hTb hE h1 (by decide) (fun q => by rw [hF] at q; cases q) fun q => by rw [hF] at q; cases q).mono ?_
 rintro e w' ⟨hg, hp⟩
 rcases hp with ⟨x, q, fb, q1, q2⟩ | ⟨q, _⟩
 ·rw [hF] at q
  cases q
  exact ⟨fb, q1, hg, q2⟩
 ·rw [hF] at q; cases q
theorem pO (p : Nat) (k : K) (W : World) (hT : AtT W p kv7 Md.zero k) (hk : k.flat = .nil) (hTb : Su.Tabs W) (hTh : Su.Half W) :
  Calls Tryz.prog 11 #[.pointer (some ⟨p, 0, none⟩), .int .i64 3, .int .i64 9] W fun e w' => ∃ a cap, e = .returned (.tuple #[.slice (some a) 45 cap, .int .i64 0]) ∧ G W w' ∧ Su.Has w' (.slice (some a) 45 cap) kA ∧ 45 ≤ cap := by
 have hc : cOk kv7 Md.zero := d8 (qF aO).1 aZ
 refine (xl p kv7 Md.zero k W 3 9 hT hc (by rw [hk]; trivial) (by rw [hk]; trivial) (by rw [hk]; decide) (by rw [hk]; decide) (by rw [hk]; exact am aO) hTb hTh).mono ?_
 rintro e w' h
 have h0 : encE 3 kv7.kind (1 + k.flat.size : Nat) 9 = 0 := by rw [hk]; decide
 rcases h with ⟨q, _⟩ | ⟨_, u, q1, q2, q3⟩
 ·exact absurd h0 q
 ·have e1 : arcW (3 : Int).toNat (wrV 3 kv7) Md.zero (wrF 3 k.flat) = kA := by rw [hk]; rfl
  rw [e1] at q2
  rcases q2.has with ⟨_, q⟩ | ⟨a, cap, rfl, h5, h6⟩
  ·have := nC; rw [q] at this; cases this
  ·have h7 : Su.Has w' (.slice (some a) kA.length cap) kA := .inr ⟨a, cap, rfl, h5, h6⟩
   rw [nC] at h5 h7 q1
   exact ⟨a, cap, q1, q3, h7, h5⟩
theorem nD {w : World} {a : Addr} {cap : Nat} (h : Su.Has w (.slice (some a) 45 cap) kA) (hc : 45 ≤ cap) : Su.Has w (.slice (some a) 9 cap) [116, 119, 110, 101, 3, 1, 1, 7, 0] := by
 rcases h with ⟨q, _⟩ | ⟨a', cap', q, _, h6⟩
 ·cases q
 ·rw [Value.slice.injEq, Option.some.injEq] at q
  obtain ⟨rfl, _, rfl⟩ := q
  refine .inr ⟨a, cap, rfl, by show 9 ≤ cap; omega, fun i hi => ?_⟩
  have hi : i < 9 := hi
  rw [h6 i (by rw [nC]; omega), ← sf]
  congr 2
  rw [List.getD_eq_getElem?_getD, List.getD_eq_getElem?_getD, List.getElem?_take_of_lt hi]
def knX : Array Value := (vx kv7).toArray
def knC : Array Value := nc ⟨#[]⟩ kv7 Md.zero (.slice none 0 0)
theorem pP {o : Oper} {a : Act} (ho : o.op = .build 24 #[(0, .const (.int .i64 1)), (1, .const (.int .i64 7))]) (w : World) : (execOp a.eval o).run Tryz.prog w = .ok (.value (.agg knX)) w := by
 unfold execOp
 simp only [ho]
 kernel_rfl
theorem pQ {o : Oper} {a : Act} (x : Operand) (ho : o.op = .build 30 #[(1, x)]) (hx : a.eval x = .agg knX) (w : World) : (execOp a.eval o).run Tryz.prog w = .ok (.value (.agg knC)) w := by
 unfold execOp
 simp only [ho, List.map_toArray, List.map_cons, List.map_nil, hx]
 kernel_rfl
def kLit : List Nat := [116, 119, 110, 101, 3, 1, 1, 7, 0]
def kRow : Array Value := #[.int .u8 116, .int .u8 119, .int .u8 110, .int .u8 101, .int .u8 3, .int .u8 1, .int .u8 1, .int .u8 7, .int .u8 0]
theorem pR (w : World) : HasS w (.slice none 0 0) .nil := ⟨none, 0, rfl, Nat.le_refl _, .inl rfl⟩
theorem uO (W : World) : Su.Has (W.alloc (.cells kRow 5)) (.slice (some ⟨W.heap.size, 0, none⟩) 9 9) kLit := by
 refine .inr ⟨⟨W.heap.size, 0, none⟩, 9, rfl, Nat.le_refl _, fun i hi => ?_⟩
 have hi : i < 9 := hi
 have e : (⟨W.heap.size, 0, none⟩ : Addr).add i = ⟨W.heap.size, i, none⟩ := by
  simp [Addr.add]
  exact fun h => h.symm
 rw [e, World.cell?_alloc_new]
 match i, hi with
 | 0, _ | 1, _ | 2, _ | 3, _ | 4, _ | 5, _ | 6, _ | 7, _ | 8, _ => rfl
theorem tv (a : Addr) (cap : Nat) (W : World) (h : Su.Has W (.slice (some a) 9 cap) kLit) : Calls Tryz.prog 20 #[.slice (some a) 9 cap, .slice (some ⟨W.heap.size, 0, none⟩) 9 9] (W.alloc (.cells kRow 5)) fun e w' => e = .returned (.bool true) ∧ G W w' := by
 have hg : G W (W.alloc (.cells kRow 5)) := G.alloc _ _
 refine (cP _ _ kLit kLit _ (h.below hg) (uO W) (by decide) (by decide)).mono ?_
 rintro e w' ⟨q1, n, rfl⟩
 exact ⟨by rw [q1, decide_eq_true rfl], below_drewN hg n⟩
theorem nE (w : World) (hTb : Su.Tabs w) (hTh : Su.Half w) (hE : ErrT w) (h1 : 1 < w.heap.size) : Calls Tryz.prog 9 #[] w fun e w' => e = .returned (.bool true) ∧ G w w' := by
 have C1 : Hid (Calls Tryz.prog 29 #[.agg knC] w fun e w' => ∃ p k, e = .returned (.tuple #[.pointer (some ⟨p, 0, none⟩), .int .i64 0]) ∧ G w w' ∧ AtT w' p kv7 Md.zero k ∧ k.flat = .nil) :=
  (dU knC ⟨#[]⟩ kv7 Md.zero .nil w ⟨_, rfl, pR w⟩ (by decide)).mono fun e w' ⟨u, q1, q2, q3⟩ => by
   rw [aO] at q1 q3
   rcases q3 with ⟨q, _⟩ | ⟨_, p, k, rfl, h3, h4, _⟩
   ·exact absurd rfl q
   ·exact ⟨p, k, q1, q2, h3, h4⟩
 have HC2 : Hid (∀ (p : Nat) (k : K) (W : World), G w W → AtT W p kv7 Md.zero k → k.flat = .nil → Calls Tryz.prog 11 #[.pointer (some ⟨p, 0, none⟩), .int .i64 3, .int .i64 9] W fun e w' => ∃ a cap, e = .returned (.tuple #[.slice (some a) 45 cap, .int .i64 0]) ∧ G W w' ∧ Su.Has w' (.slice (some a) 45 cap) kA ∧ 45 ≤ cap) :=
  fun p k W hg h2 h3 => pO p k W h2 h3 (hTb.up hg) (hTh.below hg (by omega))
 have HC3 : Hid (∀ (v : Value) (W : World), G w W → Su.Has W v kA → Calls Tryz.prog 13 #[v, .int .i64 9] W fun e w' => ∃ p k, e = .returned (.tuple #[.pointer (some ⟨p, 0, none⟩), .int .i64 3, .nilIface]) ∧ G W w' ∧ AtT w' p kv7 Md.zero k ∧ k.flat = .nil) :=
  fun v W hg h2 => pN v W h2 (hTb.up hg) (hTh.below hg (by omega)) (hE.up hg) (by have := hg.size; omega)
 have HC4 : Hid (∀ (W : World), G w W → Calls Tryz.prog 13 #[.slice none 0 0, .int .i64 9] W fun e w' => ∃ fb, e = .returned (.tuple #[.pointer none, .int .i64 0, .iface 72 (.pointer (some ⟨fb, 0, none⟩))]) ∧ G W w' ∧ w'.heap[fb]? = some (.cells (fc 0 ⟨#[]⟩ 60) 93 (0, 0))) :=
  fun W hg => sg W (hTb.up hg) (hTh.below hg (by omega)) (hE.up hg) (by have := hg.size; omega)
 have HTo : Hid (∀ (fb : Nat) (W : World), W.heap[fb]? = some (.cells (fc 0 ⟨#[]⟩ 60) 93 (0, 0)) → Calls Tryz.prog 17 #[.iface 72 (.pointer (some ⟨fb, 0, none⟩))] W fun x w' => x = .returned (.tuple #[.agg #[.int .i64 0, .string ⟨#[]⟩, .int .i64 60], .bool true]) ∧ G W w') :=
  fun fb W h => my fb 0 60 ⟨#[]⟩ W h (by decide)
 clear hTb hTh hE h1
 go_enter Tryz.func9, Tryz.ntmps9
 go_upto_region 5 with (first
  | ((with_reducible refine j0 (.agg knX) ?_ ?_); exact pP rfl _)
  | ((with_reducible refine j0 (.agg knC) ?_ ?_); exact pQ _ rfl rfl _)
  | (go_at_call 29; refine C1.o.mono ?_; rintro e w1 ⟨p, k, rfl, hg1, hT1, hk1⟩; have HT1 := hid (⟨hg1, hT1, hk1⟩ : _ ∧ _ ∧ _); clear hg1 hT1 hk1)
  | (go_at_call 11; refine (HC2.o p k _ HT1.o.1 HT1.o.2.1 HT1.o.2.2).mono ?_; rintro e w2 ⟨a, cap, rfl, hg2, hh2, hc2⟩; have HT2 := hid (⟨G.trans HT1.o.1 hg2, hh2, hc2, hg2⟩ : _ ∧ _ ∧ _ ∧ _); clear hg2 hh2))
 have HR : Hid (Su.Has w2 (.slice (some a) 9 cap) kLit) := nD HT2.o.2.1 hc2
 go_upto_region 8 with (first
  | (go_at_call 20; refine (tv a cap w2 HR.o).mono ?_; rintro e w3 ⟨rfl, hg3⟩; have HT3 := hid (⟨G.trans HT2.o.1 hg3, HT2.o.2.1.below hg3, G.trans HT2.o.2.2.2 hg3⟩ : _ ∧ _ ∧ _); clear hg3)
  | (go_at_call 13; refine (HC3.o _ _ HT3.o.1 HT3.o.2.1).mono ?_; rintro e w4 ⟨p4, k4, rfl, hg4, hT4, hk4⟩; have HT4 := hid (⟨G.trans HT3.o.1 hg4, hT4, hk4, G.trans HT3.o.2.2 hg4⟩ : _ ∧ _ ∧ _ ∧ _); clear hg4 hT4 hk4))
 go_upto_region 12 with (first
  | (go_at_call 19; refine (ke p4 kv7 Md.zero k4 w4 HT4.o.2.1).mono ?_; rintro e w5 ⟨rfl, hg5⟩; have HT5 := hid (⟨hg5, G.trans HT4.o.1 hg5, G.trans HT4.o.2.2.2 hg5⟩ : _ ∧ _ ∧ _); clear hg5)
  | (go_at_call 19; refine (ke p kv7 Md.zero k w5 (HT1.o.2.1.grow HT5.o.2.2)).mono ?_; rintro e w6 ⟨rfl, hg6⟩; have HT6 := hid (⟨G.trans HT5.o.1 hg6, G.trans HT5.o.2.1 hg6⟩ : _ ∧ _); clear hg6)
  | ((with_reducible refine j0 (.bool false) ?_ ?_); exact il _ _ kv7 kv7 rfl rfl rfl _)
  | (go_at_call 18; refine (zr p4 kv7 Md.zero k4 w6 (HT4.o.2.1.grow HT6.o.1) (by rw [HT4.o.2.2.1]; decide)).mono ?_; rintro e w7 ⟨he, hw7⟩; rw [HT4.o.2.2.1] at he; subst he; subst hw7)
  | (go_at_call 13; refine (HC4.o _ HT6.o.2).mono ?_; rintro e w8 ⟨fb, rfl, hg8, hf8⟩; have HT8 := hid (⟨G.trans HT6.o.2 hg8, hf8⟩ : _ ∧ _); clear hg8 hf8)
  | (go_at_call 17; refine (HTo.o fb w8 HT8.o.2).mono ?_; rintro e w9 ⟨rfl, hg9⟩; have HT9 := hid (G.trans HT8.o.1 hg9); clear hg9))
 go_wp2
 go_ret
 exact ⟨rfl, G.trans HT9.o (G.alloc _ _)⟩
end Go.Proofs.YtjikkhbcbfpocaaGreatDoor
namespace Go.Proofs.YtjikkhbcbfpocaaGreatDoor.Fr6
open Go.ChangeShapes Go.WideShapes Go.ChangeAt Go.RowKit
open Go.ChangeMaps (open_string shut_string)
theorem own : ownKnob Tryz.prog.godebug = none := by kernel_rfl
theorem laidOut : laidOutB Tryz.prog = true := by kernel_rfl
theorem tw : Tryz.prog.globalNamed "twine/sum.halfSums" = some 0 := by kernel_rfl
theorem gErr : Tryz.prog.globalNamed "errors.errorType" = some 1 := by kernel_rfl
theorem rf : Tryz.prog.globalNamed "twine/sum.firstWords" = some 2 := by kernel_rfl
theorem ri : Tryz.prog.globalNamed "twine/sum.roundWords" = some 3 := by kernel_rfl
theorem tHalf : (Tryz.prog.globals[0]?).map (·.type) = some 199 := by kernel_rfl
theorem tFirst : (Tryz.prog.globals[2]?).map (·.type) = some 238 := by kernel_rfl
theorem tRound : (Tryz.prog.globals[3]?).map (·.type) = some 270 := by kernel_rfl
theorem gRt : (Tryz.prog.cutTypes.find? (·.1 == "internal/reflectlite.rtype")).map (·.2) = some 248 := by kernel_rfl
def rj : List Nat := [1779033703, 3144134277, 1013904242, 2773480762, 1359893119, 2600822924, 528734635, 1541459225]
theorem dHalf {H : Type} : (Rows.laid_twine_sum_halfSums : DataW H) = Lib.tabData .u32 (Su.Crc.tab.map Int.ofNat) := rfl
theorem dFirst {H : Type} : (Rows.laid_twine_sum_firstWords : DataW H) = Lib.tabData .u32 (rj.map Int.ofNat) := rfl
theorem dRound {H : Type} : (Rows.laid_twine_sum_roundWords : DataW H) = Lib.tabData .u32 (Su.Sha.ks.map Int.ofNat) := rfl
theorem bD {w : World} {n : String} {g : Nat} {t : TypeId} {len fuel : Nat} {zs : List Nat} {cs : Array Value} {p : List MemPlace} (hg : Tryz.prog.globalNamed n = some g) (hu : Tryz.prog.underlying t = some (.array len 56)) (hct : Tryz.prog.cellsOf t = len)
  (hv : w.var? Tryz.prog n = some cs) (hd : DataW.trod (fun _ => ()) Tryz.prog w 0 (fun _ => true) false fuel t cs.toList = some (Lib.tabData .u32 (zs.map Int.ofNat), p)) (i : Nat) (hi : i < zs.length) :
  w.cell? ⟨g, i, none⟩ = some (Su.vw (zs.getD i 0)) := by
 have hc := Lib.cells_of_tab hu Tryz.underlying56 (by kernel_rfl) hct hd
 rw [World.var?_cell hg hv i, ← Array.getElem?_toList, hc]
 simp [List.getD, hi, Su.vw]
theorem tySize : Tryz.prog.types.size = 307 := by kernel_rfl
theorem oneRow : ((List.range 307).filter fun t => Tryz.prog.rowNamed t [101, 114, 114, 111, 114]) = [41] := by kernel_rfl
theorem sh {W : World} (h : laidMetH Tryz.prog Rows.codecFormRow.laid W) : Su.Tabs W ∧ Su.Half W ∧ ErrT W := by
 first
  | (have h' : laidMet Tryz.prog [("twine/sum.halfSums", Rows.laid_twine_sum_halfSums), ("twine/sum.firstWords", Rows.laid_twine_sum_firstWords), ("twine/sum.roundWords", Rows.laid_twine_sum_roundWords)] W ∧ handlesMet Tryz.prog [("errors.errorType", Rows.laid_errors_errorType)] W := h; obtain ⟨⟨ps, ⟨g0, t0, cs0, f0, p0, q0, hg0, ht0, hv0, hd0, ⟨g1, t1, cs1, f1, p1, q1, hg1, ht1, hv1, hd1, ⟨g2, t2, cs2, f2, p2, q2, hg2, ht2, hv2, hd2, _, _⟩, _⟩, _⟩, _, _⟩, hh⟩ := h')
  | (have h' : laidMet Tryz.prog [("twine/sum.firstWords", Rows.laid_twine_sum_firstWords), ("twine/sum.roundWords", Rows.laid_twine_sum_roundWords), ("twine/sum.halfSums", Rows.laid_twine_sum_halfSums)] W ∧ handlesMet Tryz.prog [("errors.errorType", Rows.laid_errors_errorType)] W := h; obtain ⟨⟨ps, ⟨g1, t1, cs1, f1, p1, q1, hg1, ht1, hv1, hd1, ⟨g2, t2, cs2, f2, p2, q2, hg2, ht2, hv2, hd2, ⟨g0, t0, cs0, f0, p0, q0, hg0, ht0, hv0, hd0, _, _⟩, _⟩, _⟩, _, _⟩, hh⟩ := h')
 obtain rfl := Option.some.inj (tw.symm.trans hg0)
 obtain rfl := Option.some.inj (rf.symm.trans hg1)
 obtain rfl := Option.some.inj (ri.symm.trans hg2)
 obtain rfl := Option.some.inj (tHalf.symm.trans ht0)
 obtain rfl := Option.some.inj (tFirst.symm.trans ht1)
 obtain rfl := Option.some.inj (tRound.symm.trans ht2)
 rw [dHalf] at hd0
 rw [dFirst] at hd1
 rw [dRound] at hd2
 refine ⟨⟨fun i hi => bD rf Tryz.underlying238 (by kernel_rfl) hv1 hd1 i hi, fun i hi => bD ri Tryz.underlying270 (by kernel_rfl) hv2 hd2 i hi⟩, ⟨fun i hi => bD tw Tryz.underlying199 (by kernel_rfl) hv0 hd0 i hi⟩, ?_⟩
 obtain ⟨name, u, ty, e1, e2, e3, e4, e5⟩ := hh _ (List.mem_singleton.2 rfl)
 have en : name = [101, 114, 114, 111, 114] := (Option.some.inj e1).symm
 subst en
 obtain rfl := Option.some.inj (gRt.symm.trans e2)
 have hm : ty ∈ (List.range 307).filter fun t => Tryz.prog.rowNamed t [101, 114, 114, 111, 114] := List.mem_filter.2 ⟨List.mem_range.2 (by rw [← tySize]; exact e3), e4⟩
 rw [oneRow] at hm
 obtain rfl := List.mem_singleton.1 hm
 have hth : typeHandle Tryz.prog 41 = .pointer (some ⟨5, 41, none⟩) := by kernel_rfl
 rw [hth] at e5
 have := World.var?_cell gErr e5 0
 unfold ErrT
 simpa using this
def lay (c : Array Value) : Obj → Obj
 | .cells _ t frozen => .cells c t frozen
 | o => o
noncomputable def x8 (os : Os) : World :=
 { World.holding Tryz.prog os ⟨#[], #[], []⟩ with heap := ((((World.holding Tryz.prog os ⟨#[], #[], []⟩).heap.modify 0 (lay (Su.Crc.tab.map Su.vw).toArray)).modify 2 (lay (rj.map Su.vw).toArray)).modify 3 (lay (Su.Sha.ks.map Su.vw).toArray)).modify 1 (lay #[.iface 248 (.agg #[.pointer (some ⟨5, 41, none⟩)])]) }
theorem laid4 (os : Os) (args : Array Value) : laidMetH Tryz.prog Rows.codecFormRow.laid ((x8 os).forCall (fun _ _ => 0) ⟨#[], args, []⟩).memory :=
 laidMetH_of_parts (laidMet_of_run' 8 (by kernel_rfl) (by kernel_rfl)) (by kernel_rfl)
end Go.Proofs.YtjikkhbcbfpocaaGreatDoor.Fr6
namespace Go.Proofs.YtjikkhbcbfpocaaGreatDoor
open Go.ChangeShapes Go.WideShapes Go.ChangeAt Go.RowKit
theorem u9 {H : Type} {enc : TypeId × Value → H} {W : World} {fuel : Nat} {cs : List Value} {x : DataW H × List MemPlace}
  (hf : DataW.trod enc Tryz.prog W 0 (fun _ => true) true fuel 22 cs = some x) : ∃ l : List Nat, cs = l.map vb ∧ l.length = 32 ∧ Su.Bytes l := by
 obtain ⟨xs, m, _, _, hl, hxs, hel⟩ := DataW.trod_array Tryz.underlying22 hf
 have h1 : Tryz.prog.cellsOf 5 = 1 := by kernel_rfl
 have h2 : Tryz.prog.cellsOf 22 = 32 := by kernel_rfl
 rw [h2] at hl
 have each : ∀ i, ∃ z : Nat, (i < 32 → cs[i]? = some (vb z)) ∧ z < 256 := fun i => by
  by_cases hi : i < 32
  ·have h := hel i hi
   rw [h1, Nat.mul_one, List.getElem?_eq_getElem (by omega)] at h
   obtain ⟨n, hn, _, hw⟩ := DataW.trod_int Tryz.underlying5 h
   have hb := bounds_u8 hw
   refine ⟨n.toNat, fun _ => ?_, by omega⟩
   have hc : (cs.drop i).take 1 = [Value.int .u8 n] := hn
   rw [List.take_one, List.head?_drop] at hc
   rw [List.getElem?_eq_getElem (by omega)] at hc ⊢
   simp only [Option.toList_some, List.cons.injEq, and_true] at hc
   rw [hc]
   unfold vb
   rw [Int.toNat_of_nonneg hb.1]
  ·exact ⟨0, fun h => absurd h hi, by decide⟩
 obtain ⟨f, hfz⟩ := Classical.skolem.1 each
 refine ⟨(List.range 32).map f, ?_, by simp, fun x hx => by obtain ⟨i, _, rfl⟩ := List.mem_map.1 hx; exact (hfz i).2⟩
 apply List.ext_getElem?
 intro i
 by_cases hi : i < 32
 ·rw [(hfz i).1 hi]; simp [hi]
 ·rw [List.getElem?_eq_none (by omega), List.getElem?_eq_none (by simp; omega)]
theorem qO {α : Type} {l : List α} {n : Nat} (h : l.length = n + 1) : ∃ a r, l = a :: r ∧ r.length = n := by
 cases l with
 | nil => simp at h
 | cons a r => exact ⟨a, r, rfl, by simpa using h⟩
theorem uA {H : Type} {enc : TypeId × Value → H} {W : World} {fuel : Nat} {cs : List Value} {x : DataW H × List MemPlace}
  (hf : DataW.trod enc Tryz.prog W 0 (fun _ => true) true fuel 24 cs = some x) : ∃ v : Vd, cs = vx v ∧ Su.Bytes v.sum := by
 obtain ⟨xs, n, _, _, hl, hxs, hel⟩ := DataW.trod_struct Tryz.underlying24 hf
 rw [show Tryz.prog.cellsOf 24 = 35 by kernel_rfl] at hl
 have hx4 : xs.length = 4 := hxs
 have g0 : DataW.trod enc Tryz.prog W 0 (fun _ => true) true n 3 ((cs.drop 0).take (Tryz.prog.cellsOf 3)) = xs[0]? := hel 0 _ rfl
 have g1 : DataW.trod enc Tryz.prog W 0 (fun _ => true) true n 3 ((cs.drop 1).take (Tryz.prog.cellsOf 3)) = xs[1]? := hel 1 _ rfl
 have g2 : DataW.trod enc Tryz.prog W 0 (fun _ => true) true n 3 ((cs.drop 2).take (Tryz.prog.cellsOf 3)) = xs[2]? := hel 2 _ rfl
 have g3 : DataW.trod enc Tryz.prog W 0 (fun _ => true) true n 22 ((cs.drop 3).take (Tryz.prog.cellsOf 22)) = xs[3]? := hel 3 _ rfl
 rw [show Tryz.prog.cellsOf 3 = 1 by kernel_rfl] at g0 g1 g2
 rw [show Tryz.prog.cellsOf 22 = 32 by kernel_rfl] at g3
 rw [List.getElem?_eq_getElem (by omega)] at g0 g1 g2 g3
 obtain ⟨k, hk, _, _⟩ := DataW.trod_int Tryz.underlying3 g0
 obtain ⟨md, hmd, _, _⟩ := DataW.trod_int Tryz.underlying3 g1
 obtain ⟨sz, hsz, _, _⟩ := DataW.trod_int Tryz.underlying3 g2
 obtain ⟨l, hsl, hll, hlb⟩ := u9 g3
 obtain ⟨c0, t0, rfl, q0⟩ := qO hl
 obtain ⟨c1, t1, rfl, q1⟩ := qO q0
 obtain ⟨c2, r, rfl, q2⟩ := qO q1
 refine ⟨⟨k, md, sz, l, hll⟩, ?_, hlb⟩
 simp only [List.drop_zero, List.take_succ_cons, List.take_zero, List.drop_succ_cons, List.cons.injEq, and_true] at hk hmd hsz
 have hr : r.take 32 = l.map vb := hsl
 rw [List.take_of_length_le (by omega)] at hr
 rw [hk, hmd, hsz, hr]; rfl
theorem nU {H : Type} {enc : TypeId × Value → H} {W : World} {fuel : Nat} {cs : List Value} {x : DataW H × List MemPlace}
  (hf : DataW.trod enc Tryz.prog W 0 (fun _ => true) true fuel 26 cs = some x) : ∃ a b : Int, cs = [.int .i64 a, .int .i64 b] := by
 obtain ⟨xs, n, _, _, hl, hxs, hel⟩ := DataW.trod_struct Tryz.underlying26 hf
 rw [show Tryz.prog.cellsOf 26 = 2 by kernel_rfl] at hl
 have hx4 : xs.length = 2 := hxs
 have g0 : DataW.trod enc Tryz.prog W 0 (fun _ => true) true n 3 ((cs.drop 0).take (Tryz.prog.cellsOf 3)) = xs[0]? := hel 0 _ rfl
 have g1 : DataW.trod enc Tryz.prog W 0 (fun _ => true) true n 3 ((cs.drop 1).take (Tryz.prog.cellsOf 3)) = xs[1]? := hel 1 _ rfl
 rw [show Tryz.prog.cellsOf 3 = 1 by kernel_rfl] at g0 g1
 rw [List.getElem?_eq_getElem (by omega)] at g0 g1
 obtain ⟨k, hk, _, _⟩ := DataW.trod_int Tryz.underlying3 g0
 obtain ⟨md, hmd, _, _⟩ := DataW.trod_int Tryz.underlying3 g1
 obtain ⟨c0, t0, rfl, q3⟩ := qO hl
 obtain ⟨c1, t1, rfl, q4⟩ := qO q3
 obtain rfl := List.length_eq_zero_iff.1 q4
 simp only [List.drop_zero, List.take_succ_cons, List.take_zero, List.drop_succ_cons, List.cons.injEq, and_true] at hk hmd
 exact ⟨k, md, by rw [hk, hmd]⟩
theorem pj {H : Type} {enc : TypeId × Value → H} {W : World} {fuel : Nat} {cs : List Value} {x : DataW H × List MemPlace}
  (hf : DataW.trod enc Tryz.prog W 0 (fun _ => true) true fuel 27 cs = some x) : ∃ m : Md, cs = mx m := by
 obtain ⟨xs, n, _, _, hl, hxs, hel⟩ := DataW.trod_array Tryz.underlying27 hf
 rw [show Tryz.prog.cellsOf 27 = 4 by kernel_rfl] at hl
 have g0 := hel 0 (by omega)
 have g1 := hel 1 (by omega)
 rw [show Tryz.prog.cellsOf 26 = 2 by kernel_rfl] at g0 g1
 rw [List.getElem?_eq_getElem (by omega)] at g0 g1
 obtain ⟨a, b, h0⟩ := nU g0
 obtain ⟨c, d, h1⟩ := nU g1
 obtain ⟨c0, t0, rfl, q5⟩ := qO hl
 obtain ⟨c1, t1, rfl, q6⟩ := qO q5
 obtain ⟨c2, t2, rfl, q7⟩ := qO q6
 obtain ⟨c3, t3, rfl, q8⟩ := qO q7
 obtain rfl := List.length_eq_zero_iff.1 q8
 simp only [Nat.zero_mul, Nat.one_mul, List.drop_zero, List.take_succ_cons, List.take_zero, List.drop_succ_cons, List.cons.injEq, and_true] at h0 h1
 exact ⟨⟨a, b, c, d⟩, by rw [h0.1, h0.2, h1.1, h1.2]; rfl⟩
def ofL : List (ByteArray × Vd × Md × F) → F
 | [] => .nil
 | x :: l => .cons x.1 x.2.1 x.2.2.1 x.2.2.2 (ofL l)
theorem nV : ∀ l, (ofL l).len = l.length
 | [] => rfl
 | _ :: l => by rw [ofL, F.len, nV l]; rfl
def nW (W : World) (cs : List Value) (x : ByteArray × Vd × Md × F) : Prop := ∃ kv, cs = (nc x.1 x.2.1 x.2.2.1 kv).toList ∧ HasS W kv x.2.2.2 ∧ x.1.size ≤ 9223372036854775807 ∧ x.2.2.2.ok ∧ x.2.2.2.len ≤ 9223372036854775807 ∧ Su.Bytes x.2.1.sum ∧ bytF x.2.2.2
theorem rq {W : World} {g : Nat} : ∀ (l : List (ByteArray × Vd × Md × F)) (o : Nat), (∀ i x, l[i]? = some x → ∃ cs, nW W cs x ∧ ∀ j u, cs[j]? = some u → W.cell? ⟨g, o + i * 41 + j, none⟩ = some u) → HasR W (ofL l) g o ∧ (ofL l).ok ∧ bytF (ofL l)
 | [], _, _ => ⟨trivial, trivial, trivial⟩
 | x :: l, o, h => by
  obtain ⟨cs, ⟨kv, rfl, ⟨a, cap, rfl, hl, hk⟩, hs, hok, hlen, hb1, hb2⟩, hc⟩ := h 0 x rfl
  have ih := rq l (o + 41) (fun i y hy => by
   obtain ⟨cs, h1, h2⟩ := h (i + 1) y (by simpa using hy)
   exact ⟨cs, h1, fun j u hj => by have := h2 j u hj; rwa [show o + (i + 1) * 41 + j = o + 41 + i * 41 + j by omega] at this⟩)
  refine ⟨⟨⟨a, cap, fun j u hj => ?_, hl, hk⟩, ih.1⟩, ⟨hs, hlen, hok, ih.2.1⟩, hb1, hb2, ih.2.2⟩
  have := hc j u (by simpa using hj)
  simpa using this
theorem sy {H : Type} {enc : TypeId × Value → H} {W : World} : ∀ (fuel : Nat) (cs : List Value) (x : DataW H × List MemPlace), DataW.trod enc Tryz.prog W 0 (fun _ => true) true fuel 30 cs = some x → ∃ y, nW W cs y := by
 intro fuel
 induction fuel using Nat.strongRecOn with
 | _ fuel ih =>
  intro cs x hf
  obtain ⟨xs, n, hn, _, hl, hxs, hel⟩ := DataW.trod_struct Tryz.underlying30 hf
  rw [show Tryz.prog.cellsOf 30 = 41 by kernel_rfl] at hl
  have hx4 : xs.length = 4 := hxs
  have g0 : DataW.trod enc Tryz.prog W 0 (fun _ => true) true n 9 ((cs.drop 0).take (Tryz.prog.cellsOf 9)) = xs[0]? := hel 0 _ rfl
  have g1 : DataW.trod enc Tryz.prog W 0 (fun _ => true) true n 24 ((cs.drop 1).take (Tryz.prog.cellsOf 24)) = xs[1]? := hel 1 _ rfl
  have g2 : DataW.trod enc Tryz.prog W 0 (fun _ => true) true n 27 ((cs.drop 36).take (Tryz.prog.cellsOf 27)) = xs[2]? := hel 2 _ rfl
  have g3 : DataW.trod enc Tryz.prog W 0 (fun _ => true) true n 28 ((cs.drop 40).take (Tryz.prog.cellsOf 28)) = xs[3]? := hel 3 _ rfl
  rw [show Tryz.prog.cellsOf 9 = 1 by kernel_rfl] at g0
  rw [show Tryz.prog.cellsOf 24 = 35 by kernel_rfl] at g1
  rw [show Tryz.prog.cellsOf 27 = 4 by kernel_rfl] at g2
  rw [show Tryz.prog.cellsOf 28 = 1 by kernel_rfl] at g3
  rw [List.getElem?_eq_getElem (by omega)] at g0 g1 g2 g3
  obtain ⟨nm, hnm, _, hns⟩ := DataW.trod_string Tryz.underlying9 g0
  obtain ⟨v, hv, hvb⟩ := uA g1
  obtain ⟨m, hm⟩ := pj g2
  have hkids : ∃ kv f, (cs.drop 40).take 1 = [kv] ∧ HasS W kv f ∧ f.ok ∧ f.len ≤ 9223372036854775807 ∧ bytF f := by
   rcases DataW.trod_slice Tryz.underlying28 g3 with ⟨hcs, _⟩ | ⟨ad, len, cap, elems, rest, n2, hn2, hcs, _, _, hle, hmx, hlen, hel2, _, _⟩
   ·exact ⟨_, .nil, hcs, ⟨none, 0, rfl, Nat.le_refl _, .inl rfl⟩, trivial, by simp [F.len], trivial⟩
   ·unfold maxLen at hmx
    rw [show Tryz.prog.cellsOf 30 = 41 by kernel_rfl] at hel2
    have each : ∀ i, ∃ y : ByteArray × Vd × Md × F, i < len → ∃ cs', nW W cs' y ∧ ∀ j u, cs'[j]? = some u → W.cell? ((ad.add (i * 41)).add j) = some u := fun i => by
     by_cases hi : i < len
     ·have h := hel2 i hi
      rw [List.getElem?_eq_getElem (by omega), Option.bind_eq_some_iff] at h
      obtain ⟨cs', hc, ht⟩ := h
      obtain ⟨_, hcl, hcc⟩ := World.cells?_some hc
      obtain ⟨y, hy⟩ := ih n2 (by omega) cs' _ ht
      refine ⟨y, fun _ => ⟨cs', hy, fun j u hj => ?_⟩⟩
      have hjl := (List.getElem?_eq_some_iff.1 hj).1
      rw [hcc j (by omega)]
      exact hj
     ·exact ⟨⟨⟨#[]⟩, ⟨0, 0, 0, List.replicate 32 0, by simp⟩, ⟨0, 0, 0, 0⟩, .nil⟩, fun h => absurd h hi⟩
    obtain ⟨f, hfz⟩ := Classical.skolem.1 each
    by_cases h0 : len = 0
    ·subst h0
     exact ⟨_, .nil, hcs, ⟨some ad, cap, rfl, Nat.zero_le _, .inl rfl⟩, trivial, by simp [F.len], trivial⟩
    ·have hsp : ad.spot = none := by
      obtain ⟨cs', ⟨kv, rfl, _⟩, h⟩ := hfz 0 (by omega)
      have h := h 0 (.string (f 0).1) (by simpa using yJ (f 0).1 (f 0).2.1 (f 0).2.2.1 kv)
      rw [Nat.zero_mul, show (ad.add 0).add 0 = ad from rfl] at h
      unfold World.cell? at h
      split at h
      ·split at h
       ·cases h
       ·rename_i hs; simpa using hs
      ·cases h
     obtain ⟨b, o, s⟩ := ad
     simp only at hsp
     subst hsp
     have hrow := rq (W := W) (g := b) ((List.range len).map f) o (fun i y hy => by
      have hi : i < len := by have := (List.getElem?_eq_some_iff.1 hy).1; simpa using this
      have hyf : y = f i := by simp [hi] at hy; exact hy.symm
      subst hyf
      obtain ⟨cs', h1, h2⟩ := hfz i hi
      exact ⟨cs', h1, fun j u hj => by have := h2 j u hj; rwa [Addr.add_mid, Addr.add_mid] at this⟩)
     have hlenF : (ofL ((List.range len).map f)).len = len := by rw [nV]; simp
     exact ⟨_, ofL ((List.range len).map f), hcs, ⟨_, cap, by rw [hlenF], by rw [hlenF]; exact hle, .inr ⟨b, o, rfl, hrow.1⟩⟩, hrow.2.1, by rw [hlenF]; omega, hrow.2.2⟩
  obtain ⟨kv, f, hkv, hS, hfo, hfl, hfb⟩ := hkids
  refine ⟨⟨nm, v, m, f⟩, kv, ?_, hS, by show nm.size ≤ _; have : maxLen = 9223372036854775807 := rfl; omega, hfo, hfl, hvb, hfb⟩
  have e0 : cs = cs.take 1 ++ ((cs.drop 1).take 35 ++ ((cs.drop 36).take 4 ++ (cs.drop 40).take 1)) := by
   have a1 := List.take_append_drop 1 cs
   have a2 := List.take_append_drop 35 (cs.drop 1)
   have a3 := List.take_append_drop 4 (cs.drop 36)
   rw [List.drop_drop] at a2 a3
   rw [List.take_of_length_le (l := cs.drop 40) (by rw [List.length_drop]; omega)]
   have a3' : (cs.drop 36).take 4 ++ cs.drop 40 = cs.drop 36 := a3
   have a2' : (cs.drop 1).take 35 ++ cs.drop 36 = cs.drop 1 := a2
   rw [a3', a2', a1]
  have hnm' : cs.take 1 = [.string nm] := by simpa using hnm
  rw [e0, hnm', hv, hm, hkv]
  simp [nc]
end Go.Proofs.YtjikkhbcbfpocaaGreatDoor
namespace Go.Proofs.YtjikkhbcbfpocaaGreatDoor.Su
open Go.RowKit Go.Shelf
theorem ng : ∀ (l : List Nat) (k : Nat), k < 8 * l.length → Crc.num (l.set (k / 8) (l.getD (k / 8) 0 ^^^ 2 ^ (k % 8))) = Crc.num l ^^^ 2 ^ k
 | [], k, h => by simp at h
 | c :: l, k, h => by
  by_cases hk : k < 8
  ·rw [show k / 8 = 0 by omega, show k % 8 = k by omega]
   show (c ^^^ 2 ^ k) ^^^ Crc.num l * 2 ^ 8 = (c ^^^ Crc.num l * 2 ^ 8) ^^^ 2 ^ k
   ac_rfl
  ·obtain ⟨j, rfl⟩ : ∃ j, k = j + 8 := ⟨k - 8, by omega⟩
   have ih := ng l j (by simp at h; omega)
   rw [show (j + 8) / 8 = j / 8 + 1 by omega, show (j + 8) % 8 = j % 8 by omega]
   show c ^^^ Crc.num (l.set (j / 8) (l.getD (j / 8) 0 ^^^ 2 ^ (j % 8))) * 2 ^ 8 = (c ^^^ Crc.num l * 2 ^ 8) ^^^ 2 ^ (j + 8)
   rw [ih, Crc.oD, ← Nat.pow_add]
   ac_rfl
theorem ni : ∀ (l m : List Nat), l.length = m.length → Bytes l → Bytes m → Crc.num l = Crc.num m → l = m
 | [], [], _, _, _, _ => rfl
 | c :: l, d :: m, h, hl, hm, e => by
  have hc : c < 256 := hl c (by simp)
  have hd : d < 256 := hm d (by simp)
  have e' : c ^^^ Crc.num l * 2 ^ 8 = d ^^^ Crc.num m * 2 ^ 8 := e
  have m1 := congrArg (· % 2 ^ 8) e'
  have d1 := congrArg (· / 2 ^ 8) e'
  simp only [Crc.oC, Crc.oB, Nat.mul_mod_left, Nat.mul_div_cancel _ (show 0 < 2 ^ 8 by decide), Nat.xor_zero] at m1 d1
  rw [Nat.mod_eq_of_lt (by omega), Nat.mod_eq_of_lt (by omega)] at m1
  rw [Nat.div_eq_of_lt (by omega), Nat.div_eq_of_lt (by omega)] at d1
  simp only [Nat.zero_xor] at d1
  rw [m1, ni l m (by simpa using h) (fun x hx => hl x (by simp [hx])) (fun x hx => hm x (by simp [hx])) d1]
theorem iI (b i : Nat) : b % 2 ^ (i + 1) = if b / 2 ^ i % 2 = 1 then b % 2 ^ i ^^^ 2 ^ i else b % 2 ^ i := by
 have h : b % 2 ^ (i + 1) = b % 2 ^ i + 2 ^ i * (b / 2 ^ i % 2) := by
  rw [Nat.pow_succ, Nat.mod_mul]
 rw [h]
 rcases Nat.mod_two_eq_zero_or_one (b / 2 ^ i) with h0 | h0
 ·rw [h0]; simp
 ·rw [h0, if_pos rfl, Nat.mul_one]
  have hlt : b % 2 ^ i < 2 ^ i := Nat.mod_lt _ (Nat.two_pow_pos i)
  have := Crc.bV (b % 2 ^ i + 2 ^ i) i
  rw [Nat.add_div_right _ (Nat.two_pow_pos i), Nat.div_eq_of_lt hlt, Nat.add_mod_right, Nat.mod_eq_of_lt hlt] at this
  rw [this]
  simp [Nat.xor_comm]
theorem Owns.set {w : World} {lo : Nat} {v : Value} {l : List Nat} (h : Owns w lo v l) (i x : Nat) (hi : i < l.length) :
  ∃ g cap, v = .slice (some ⟨g, 0, none⟩) l.length cap ∧ lo ≤ g ∧ w.cell? ⟨g, i, none⟩ = some (vb (l.getD i 0)) ∧ w.frozen? ⟨g, i, none⟩ = false ∧ Owns (w.setCell ⟨g, i, none⟩ (vb x)) lo v (l.set i x) ∧ Below lo w (w.setCell ⟨g, i, none⟩ (vb x)) := by
 obtain ⟨h1, ⟨_, h0⟩ | ⟨g, cap, cur, rfl, hg, hh, hn, hm, hs, ht⟩⟩ := h
 ·omega
 ·rw [Nat.mul_one] at hs ht
  have hcell : w.cell? ⟨g, i, none⟩ = some (vb (l.getD i 0)) := by
   rw [cell_of_row _ g i _ _ _ hh, ← Array.getElem?_toList]
   have : (cur.toList.take l.length)[i]? = (l.map vb)[i]? := by rw [ht]
   rw [List.getElem?_take, if_pos hi] at this
   rw [this]; simp [List.getD, hi]
  refine ⟨g, cap, rfl, hg, hcell, frozen_of_row _ g i _ _ hh, ?_, ⟨rfl, rfl, rfl, by simp [World.setCell], fun k hk => heap_setCell_other _ _ _ _ (by simp; omega)⟩⟩
  refine ⟨by simp, .inr ⟨g, cap, cur.setIfInBounds i (vb x), by simp, hg, heap_setCell_same _ _ _ _ _ _ hh, by simpa using hn, hm, by simp [hs], ?_⟩⟩
  rw [Nat.mul_one, List.length_set, Array.toList_setIfInBounds, List.take_set, ht, List.map_set]
theorem nj (z i p : Nat) : (z ^^^ 2 ^ i) * 2 ^ p = z * 2 ^ p ^^^ 2 ^ (p + i) := by
 rw [Crc.oD, ← Nat.pow_add, Nat.add_comm]
end Go.Proofs.YtjikkhbcbfpocaaGreatDoor.Su
namespace Go.Proofs.YtjikkhbcbfpocaaGreatDoor
open Go.RowKit Go.Shelf
attribute [local go_sem] Oper.semAt_some
theorem et (k : Int) (n : Nat) (hn : 0 < n) (hn2 : n < 4611686018427387904) :
  ∃ p : Nat, p < n ∧ ∀ w, Calls Tryz.prog 21 #[.int .i64 k, .int .i64 n] w fun e w' => e = .returned (.int .i64 p) ∧ w = w' := by
 have hz : ¬ ((n : Int) = 0) := by omega
 have b1 := Int.tmod_lt_of_pos k (show (0 : Int) < n by omega)
 have b2 : -(n : Int) < Int.tmod k n := by
  have := Int.lt_tmod_of_pos k (show (0 : Int) < n by omega)
  omega
 obtain ⟨r, hr⟩ : ∃ r, Int.tmod k n = r := ⟨_, rfl⟩
 rw [hr] at b1 b2
 by_cases h : r < 0
 ·refine ⟨(r + n).toNat, by omega, fun w => ?_⟩
  have e : ((r + n).toNat : Int) = r + n := Int.toNat_of_nonneg (by omega)
  rw [e]
  have hw : IntKind.i64.wrap (r + n) = r + n := by rw [IntKind.wrap_i64]; omega
  clear e b1 b2
  go_enter Tryz.func21, Tryz.ntmps21
  go_wp2
  go_ret
  exact ⟨rfl, rfl⟩
 ·refine ⟨r.toNat, by omega, fun w => ?_⟩
  have e : (r.toNat : Int) = r := Int.toNat_of_nonneg (by omega)
  rw [e]
  clear e b1 b2
  go_enter Tryz.func21, Tryz.ntmps21
  go_wp2
  go_ret
  exact ⟨rfl, rfl⟩
theorem bu {ver : Nat} {v : Vd} {m : Md} {ks : F} (h : Ar ver v m ks) {O : List Nat} (hB : Su.Bytes O) (hl : O.length = (arcW ver v m ks).length) {z p : Nat} (hz : z < 4294967296) (hp : p ≤ 8 * (arcW ver v m ks).length) (hx : Su.Crc.num O ^^^ Su.Crc.num (arcW ver v m ks) = z * 2 ^ p) (hne : O ≠ arcW ver v m ks) : opF O ≠ none := by
 intro hF
 obtain ⟨_, _, _, _, e⟩ := eD hB hF
 have s1 : Su.Crc.raw Su.Crc.ones O = Su.Crc.bits 32 Su.Crc.ones := by
  have h1 := Su.Crc.oE (l := O.take (O.length - 4)) fun c hc => hB c (List.mem_of_mem_take hc)
  rw [e]; exact h1
 have s2 : Su.Crc.raw Su.Crc.ones (arcW ver v m ks) = Su.Crc.bits 32 Su.Crc.ones :=
  Su.Crc.oE (l := arcB ver v m ks) fun c hc => xT ver h.c h.g.1 c hc
 by_cases h0 : z = 0
 ·subst h0
  rw [Nat.zero_mul] at hx
  have hn : Su.Crc.num O = Su.Crc.num (arcW ver v m ks) := by
   have := congrArg (· ^^^ Su.Crc.num (arcW ver v m ks)) hx
   simpa [Nat.xor_assoc] using this
  exact hne (Su.ni O _ hl hB h.bytes hn)
 ·exact Su.Crc.burst O _ Su.Crc.ones z p hl hz h0 hp hx (s1.trans s2.symm)
end Go.Proofs.YtjikkhbcbfpocaaGreatDoor
