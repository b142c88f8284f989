import Derived.Test.YtjikkhbcbfpocaaGreatDoorZ0
import Derived.Test.YtjikkhbcbfpocaaGreatDoorDO
namespace Go.Proofs.YtjikkhbcbfpocaaGreatDoor
open Go.RowKit Go.Shelf
theorem strB_mkStr {l : List Int} (hB : Wire.Bytes l) : up (strN (Wi.mkStr l)) = l := by
 rw [up_strN]
 simp only [Wi.strB, Wi.mkStr, List.map_map]
 conv => rhs; rw [← List.map_id l]
 apply List.map_congr_left
 intro c hc
 have := hB c hc
 simp
 omega
theorem mkStr_size (l : List Int) : (Wi.mkStr l).size = l.length := by
 show (Wi.mkStr l).data.size = _
 simp [Wi.mkStr]
theorem name_none {l : List Int} (hB : Wire.Bytes l) {last : ByteArray} {r : Rv} (h : (nameR l last r).2.flt = none) : nOkB last (nameR l last r).1 = true ∧ (nameR l last r).1.size ≤ 255 ∧ Stands l r (namB (nameR l last r).1) (nameR l last r).2 := by
 unfold nameR at h ⊢
 simp only at h ⊢
 obtain ⟨h1, h2, h3, h4⟩ := must_none h
 have hb : boundR { r with s := (Wi.textS l r.s 255).2 } = { r with s := (Wi.textS l r.s 255).2 } := by
  unfold boundR at h3 ⊢
  split
  ·rename_i q
   rw [if_pos q] at h3
   cases h3
  ·rfl
 rw [hb] at h1 h3 h4
 simp only at h1 h3
 have hfe : r.s.fe = 0 := by
  unfold Wi.textS at h1
  split at h1
  ·exact h1
  ·rename_i q; exact Classical.byContradiction q
 cases hr : Wire.rd 0 (l.drop r.s.p) with
 | form i =>
  have hu : Wi.textS l r.s 255 = ([], ⟨r.s.p, (r.s.p + i : Nat), 11⟩) := by unfold Wi.textS; rw [if_neg (by omega), hr]
  rw [hu] at h1; simp at h1
 | short =>
  have hu : Wi.textS l r.s 255 = ([], ⟨r.s.p, l.length, 10⟩) := by unfold Wi.textS; rw [if_neg (by omega), hr]
  rw [hu] at h1; simp at h1
 | ok n k =>
  have hu : Wi.textS l r.s 255 = if (255 : Int) < n then ([], ⟨r.s.p, r.s.p, 12⟩) else if l.length < r.s.p + k + n then ([], ⟨r.s.p, l.length, 10⟩) else ((l.drop (r.s.p + k)).take n, ⟨r.s.p + k + n, r.s.fa, r.s.fe⟩) := by unfold Wi.textS; rw [if_neg (by omega), hr]
  by_cases c1 : (255 : Int) < n
  ·rw [if_pos c1] at hu
   rw [hu] at h1; simp at h1
  ·rw [if_neg c1] at hu
   by_cases c2 : l.length < r.s.p + k + n
   ·rw [if_pos c2] at hu
    rw [hu] at h1; simp at h1
   ·rw [if_neg c2] at hu
    obtain ⟨e1, e2⟩ := up_enc_take hB hr
    have ht : ((l.drop (r.s.p + k)).take n).length = n := by rw [List.length_take, List.length_drop]; omega
    have htB : Wire.Bytes ((l.drop (r.s.p + k)).take n) := (hB.drop _).take _
    have hsz : (Wi.mkStr ((l.drop (r.s.p + k)).take n)).size = n := by rw [mkStr_size, ht]
    have hst := strB_mkStr htB
    have hsl : (strN (Wi.mkStr ((l.drop (r.s.p + k)).take n))).length = n := by rw [strN_len, hsz]
    rw [hu] at h2
    rw [hb, h4, hu]
    refine ⟨h2, by rw [hsz]; omega, hfe, h3, ?_, ?_⟩
    ·unfold namB
     rw [hsz, up_append, List.append_assoc, hst, lA, e2, hsl, ← Nat.add_assoc, ← List.drop_drop (i := n), List.take_append_drop]
     rw [e2] at e1
     exact e1
    ·unfold namB
     rw [hsz, lA, e2, hsl, Nat.add_assoc]
def nrmV (ver : Int) (v : Vd) (m : Md) : Prop := (ver < 2 → v.kind ≠ 3 → v.mode = 8) ∧ (ver < 3 → m = Md.zero)
def nrmF (ver : Int) : F → Prop
 | .nil => True
 | .cons _ v m ks r => nrmV ver v m ∧ nrmF ver ks ∧ nrmF ver r
def bytF : F → Prop
 | .nil => True
 | .cons _ v _ ks r => Su.Bytes v.sum ∧ bytF ks ∧ bytF r
theorem nrmF_app (ver : Int) : ∀ {f g : F}, nrmF ver f → nrmF ver g → nrmF ver (f.app g)
 | .nil, _, _, h => h
 | .cons _ _ _ _ _, _, h, k => ⟨h.1, h.2.1, nrmF_app ver h.2.2 k⟩
theorem bytF_app : ∀ {f g : F}, bytF f → bytF g → bytF (f.app g)
 | .nil, _, _, h => h
 | .cons _ _ _ _ _, _, h, k => ⟨h.1, h.2.1, bytF_app h.2.2 k⟩
def lastN : F → Option ByteArray → Option ByteArray
 | .nil, p => p
 | .cons nm _ _ _ r, _ => lastN r (some nm)
theorem lastN_app : ∀ (f g : F) (p : Option ByteArray), lastN (f.app g) p = lastN g (lastN f p)
 | .nil, _, _ => rfl
 | .cons _ _ _ _ r, g, _ => lastN_app r g _
theorem faultF_app : ∀ (f g : F) (prev : Option ByteArray) (L : List ByteArray), faultF f prev L = none → faultF g (lastN f prev) L = none → faultF (f.app g) prev L = none
 | .nil, _, _, _, _, h => h
 | .cons nm v m ks r, g, prev, L, h, k => by
  rw [F.app]
  unfold faultF at h ⊢
  split at h
  ·cases h
  ·split at h
   ·cases h
   ·rename_i q1 q2
    rw [if_neg q1, if_neg q2]
    cases hk : faultF ks none (L ++ [nm]) with
    | some x => rw [hk] at h; cases h
    | none =>
     rw [hk] at h
     exact faultF_app r g (some nm) L h k
structure RdOk (l : List Int) (ver : Int) (L : Nat) (nb : List Nat) (r : Rv) (d : Nd) (r' : Rv) : Prop where
 ex : ∃ (X : List Nat) (S : List Stp), l.drop r.s.p = up X ++ l.drop r'.s.p ∧ r'.s.p = r.s.p + X.length ∧ r'.st = r.st ++ S ∧ S.length = (dirT d.v d.ks).length ∧ (S.map (·.hash) = dirT d.v d.ks → X = encT ver nb d.v d.m d.ks) ∧ 1 + nb.length + d.ks.weight ≤ X.length
 fe : r'.s.fe = 0 ∧ r'.s.fa = r.s.fa
 left : r'.left = r.left - ((1 + d.ks.size : Nat) : Int)
 own : ownE d.v d.m (decide (0 < d.ks.len)) = 0
 kid : ∀ Ln : List ByteArray, Ln.length = L → faultF d.ks none Ln = none
 nrm : nrmV ver d.v d.m ∧ nrmF ver d.ks
 byt : Su.Bytes d.v.sum ∧ bytF d.ks
structure KdOk (l : List Int) (ver : Int) (L : Nat) (r0 r : Rv) (f : F) (la : ByteArray) : Prop where
 ex : ∃ (X : List Nat) (S : List Stp), l.drop r0.s.p = up X ++ l.drop r.s.p ∧ r.s.p = r0.s.p + X.length ∧ r.st = r0.st ++ S ∧ S.length = (dirF f).length ∧ (S.map (·.hash) = dirF f → X = encF ver f) ∧ f.weight ≤ X.length
 fe : r.s.fe = 0 ∧ r.s.fa = r0.s.fa
 left : r.left = r0.left - (f.size : Int)
 pos : 0 ≤ r.left
 kid : ∀ Ln : List ByteArray, Ln.length = L → faultF f none Ln = none
 nrm : nrmF ver f
 byt : bytF f
 last : f = .nil ∨ lastN f none = some la
theorem F.one_size (nm : ByteArray) (v : Vd) (m : Md) (ks : F) : (F.cons nm v m ks .nil).size = ks.size + 1 := by simp [F.size]
theorem kidL_ok {l : List Int} {ver : Int} {L : Nat} {r0 : Rv} (nd : ByteArray → Rv → Nd × Rv) (hnd : ∀ last r, r.flt = none → 0 ≤ r.left → (nd last r).2.flt = none → 0 ≤ (nd last r).2.left ∧ RdOk l ver (L + 1) (namB (nd last r).1.nm) r (nd last r).1 (nd last r).2 ∧ nOkB last (nd last r).1.nm = true ∧ L + 1 ≤ 64) :
  ∀ (n : Nat) (f : F) (la : ByteArray) (r : Rv), KdOk l ver L r0 r f la → (kidL nd n f la r).2.flt = none → ∃ f' la', (kidL nd n f la r).1 = some f' ∧ f'.len = f.len + n ∧ KdOk l ver L r0 (kidL nd n f la r).2 f' la'
 | 0, f, la, r, h, _ => ⟨f, la, by rw [kidL_zero], rfl, by rw [kidL_zero]; exact h⟩
 | n + 1, f, la, r, h, hf => by
  have hr : r.flt = none := by
   cases e : r.flt with
   | none => rfl
   | some x => rw [kidL_flt _ _ _ _ _ (by rw [e]; rfl)] at hf; rw [e] at hf; cases hf
  rw [kidL_go _ _ _ _ _ hr] at hf ⊢
  have hfx : (nd la r).2.flt = none := by
   cases e : (nd la r).2.flt with
   | none => rfl
   | some x =>
    exfalso
    cases n with
    | zero => rw [kidL_zero] at hf; rw [e] at hf; cases hf
    | succ n => rw [kidL_flt _ _ _ _ _ (by rw [e]; rfl)] at hf; rw [e] at hf; cases hf
  obtain ⟨hp, hk, hn, hL⟩ := hnd la r hr h.pos hfx
  generalize nd la r = x at *
  obtain ⟨d, r1⟩ := x
  simp only at hf hfx hp hk hn ⊢
  have hnew : KdOk l ver L r0 r1 (f.app (.cons d.nm d.v d.m d.ks .nil)) d.nm := by
   obtain ⟨X, S, a1, a2, a3, a4, a5, a6⟩ := h.ex
   obtain ⟨Y, Z, b1, b2, b3, b4, b5, b6⟩ := hk.ex
   have hdir : dirF (f.app (.cons d.nm d.v d.m d.ks .nil)) = dirF f ++ dirT d.v d.ks := by
    rw [dirF_app, dirF_cons]
    congr 1
    show _ ++ dirF .nil = _
    unfold dirF
    simp [hashF, dirs]
   refine ⟨⟨X ++ Y, S ++ Z, ?_, ?_, ?_, ?_, fun e => ?_, ?_⟩, ⟨hk.fe.1, hk.fe.2.trans h.fe.2⟩, ?_, hp, fun Ln hLn => ?_, nrmF_app ver h.nrm ⟨hk.nrm.1, hk.nrm.2, trivial⟩, bytF_app h.byt ⟨hk.byt.1, hk.byt.2, trivial⟩, .inr ?_⟩
   ·rw [a1, b1, up_append, List.append_assoc]
   ·rw [b2, a2, lA]; omega
   ·rw [b3, a3, List.append_assoc]
   ·rw [hdir, lA, lA, a4, b4]
   ·rw [hdir, List.map_append] at e
    obtain ⟨e1, e2⟩ := List.append_inj e (by rw [List.length_map, a4])
    rw [encF_app, a5 e1, b5 e2]
    show _ = _ ++ (encT ver (namB d.nm) d.v d.m d.ks ++ encF ver .nil)
    rw [show encF ver .nil = [] from rfl, List.append_nil]
   ·rw [F.app_weight, lA]
    have hw : (F.cons d.nm d.v d.m d.ks .nil).weight = 1 + d.nm.size + d.ks.weight := by simp [F.weight]
    have hnb : d.nm.size ≤ (namB d.nm).length := by unfold namB; rw [lA, strN_len]; omega
    omega
   ·have := hk.left
    have := h.left
    rw [F.app_size, F.one_size]
    omega
   ·refine faultF_app f _ none Ln (h.kid Ln hLn) ?_
    have hname : nameB (tl d.nm) = true ∧ leP d.nm (lastN f none) = false := by
     unfold nOkB at hn
     rw [Bool.and_eq_true, Bool.not_eq_true'] at hn
     refine ⟨hn.2, ?_⟩
     rcases h.last with e | e
     ·rw [e]; rfl
     ·rw [e]; exact hn.1
    have hpl : placeE (lastN f none) d.nm (Ln.length + 1) = 0 := by
     unfold placeE
     rw [if_neg (by omega), if_neg (by rw [hname.1]; decide), if_neg (by rw [hname.2]; decide)]
    have hkk := hk.kid (Ln ++ [d.nm]) (by rw [lA, hLn]; rfl)
    unfold faultF
    rw [if_neg (by rw [hpl]; decide), if_neg (by rw [hk.own]; decide), hkk]
    rfl
   ·rw [lastN_app]; rfl
  obtain ⟨f', la', c1, c2, c3⟩ := kidL_ok nd hnd n _ _ _ hnew hf
  refine ⟨f', la', c1, ?_, c3⟩
  rw [c2, F.app_len]
  show f.len + 1 + n = _
  omega
def nbO : Option (List ByteArray) → ByteArray → List Nat
 | none, _ => []
 | some _, nm => namB nm
theorem hereO_len (up : Option (List ByteArray)) (nm : ByteArray) : (hereO up nm).length = deepO up := by cases up <;> rfl
structure HdOk (l : List Int) (up : Option (List ByteArray)) (last : ByteArray) (r : Rv) (k : Int) (nm : ByteArray) (r2 : Rv) : Prop where
 deep : deepO up ≤ 64
 left0 : r.left ≠ 0
 kok : kOk (deepO up) k = true
 kpos : 0 ≤ k
 nok : ∀ u, up = some u → nOkB last nm = true
 drop : l.drop r.s.p = Go.Proofs.YtjikkhbcbfpocaaGreatDoor.up (k.toNat :: nbO up nm) ++ l.drop r2.s.p
 p : r2.s.p = r.s.p + (1 + (nbO up nm).length)
 fe : r2.s.fe = 0
 fa : r2.s.fa = r.s.fa
 left : r2.left = r.left - 1
 st : r2.st = r.st
 fl : r2.flt = none
theorem head_none {l : List Int} (hB : Wire.Bytes l) {up : Option (List ByteArray)} {last : ByteArray} {r : Rv} (h : (headR l up last r).2.flt = none) : HdOk l up last r (kindR l (deepO up) r).1 (headR l up last r).1 (headR l up last r).2 := by
 obtain ⟨q1, q2, q3, q4, q5, q6, q7, q8⟩ := kind_none ((Sm.head l up last r).none h)
 have hk0 : 0 ≤ (kindR l (deepO up) r).1 := (byteS_byte hB r.s).1
 have hd1 : l.drop r.s.p = (kindR l (deepO up) r).1 :: l.drop (r.s.p + 1) := by
  rw [List.drop_eq_getElem_cons q5, q6, List.getElem?_eq_getElem q5]; rfl
 have hS : Stands l (kindR l (deepO up) r).2 (nbO up (headR l up last r).1) (headR l up last r).2 ∧ ∀ u, up = some u → nOkB last (headR l up last r).1 = true := by
  unfold headR nameO at h ⊢
  cases up with
  | none => exact ⟨Stands.refl (by rw [q8]; exact q4) h, fun u e => by cases e⟩
  | some u =>
   simp only at h ⊢
   obtain ⟨a1, a2, a3⟩ := name_none hB h
   exact ⟨a3, fun _ _ => a1⟩
 obtain ⟨hS, hno⟩ := hS
 have hst := hS.st
 have hdr := hS.drop
 rw [q8] at hdr hst
 simp only at hdr hst
 refine ⟨q2, q1, q7, hk0, hno, ?_, ?_, hst.2.2.2.1, hst.2.2.2.2.2, hst.1, hst.2.1, hst.2.2.1⟩
 ·rw [hd1, hdr, hst.2.2.2.2.1]
  show _ = Int.ofNat _ :: _
  rw [show Int.ofNat (kindR l (deepO up) r).1.toNat = (kindR l (deepO up) r).1 from Int.toNat_of_nonneg hk0]
  rfl
 ·rw [hst.2.2.2.2.1, Nat.add_assoc]
theorem kidE_some {here : List ByteArray} {pl : Nat} {h : List Nat} {x : Option F × Rv} {f : F} (e : x.1 = some f) : kidE here pl h x = (f, { x.2 with st := x.2.st ++ [⟨here, pl, h⟩] }) := by unfold kidE; rw [e]
theorem zeros_bytes : Su.Bytes zeros := fun x hx => by
 have := List.eq_of_mem_replicate hx
 omega
theorem own_dir (md : Int) (b : Bool) (h : 0 ≤ md ∧ md ≤ 8) : ownE ⟨1, md, 0, zeros, by simp [zeros]⟩ Md.zero b = 0 := by
 simp [ownE, rightVB, h.1, h.2]
theorem own_file (md sz : Int) (sm : List Nat) (hs : sm.length = 32) (m : Md) (h : 0 ≤ md ∧ md ≤ 8) (h2 : 0 ≤ sz ∧ sz ≤ 1099511627775) (h3 : rightMB m.n0 m.s0 = true) (h4 : rightMB m.n1 m.s1 = true) : ownE ⟨2, md, sz, sm, hs⟩ m false = 0 := by
 simp [ownE, rightVB, h.1, h.2, h2.1, h2.2, h3, h4]
theorem own_link (sz : Int) (sm : List Nat) (hs : sm.length = 32) (h2 : 1 ≤ sz ∧ sz ≤ 4095) : ownE ⟨3, 0, sz, sm, hs⟩ Md.zero false = 0 := by
 simp [ownE, rightVB, h2.1, h2.2]
theorem nodeR_ok {l : List Int} {ver : Int} (hB : Wire.Bytes l) : ∀ (n : Nat) (up : Option (List ByteArray)) (last : ByteArray) (r : Rv), deepO up + n = 66 → 1 ≤ n → 0 ≤ r.left → (nodeR l ver n up last r).2.flt = none →
  RdOk l ver (deepO up) (nbO up (nodeR l ver n up last r).1.nm) r (nodeR l ver n up last r).1 (nodeR l ver n up last r).2 ∧ (∀ u, up = some u → nOkB last (nodeR l ver n up last r).1.nm = true) ∧ deepO up ≤ 64
 | 0, _, _, _, _, h, _, _ => by omega
 | n + 1, up, last, r, hd, _, hl, hf => by
  unfold nodeR at hf ⊢
  have hh : (headR l up last r).2.flt = none := by
   cases e : (headR l up last r).2.flt with
   | none => rfl
   | some x =>
    unfold bodyR at hf
    rw [if_pos (by rw [e]; rfl)] at hf
    simp only at hf
    rw [e] at hf; cases hf
  have H := head_none hB hh
  generalize hkk : (kindR l (deepO up) r).1 = k at *
  generalize hnn : (headR l up last r).1 = nm at *
  generalize (headR l up last r).2 = r2 at *
  have hk123 : k = 1 ∨ k = 2 ∨ k = 3 := by
   have := H.kok
   unfold kOk at this
   simp at this
   omega
  unfold bodyR at hf ⊢
  rw [if_neg (by rw [hh]; decide)] at hf ⊢
  rcases hk123 with hk1 | hk1 | hk1
  ·subst hk1
   rw [if_pos rfl] at hf ⊢
   simp only at hf ⊢
   have hfk : (kidL (nodeR l ver n (some (hereO up nm))) (cntR l (modR l ver r2).2).1 .nil ⟨#[]⟩ (sumR l (cntR l (modR l ver r2).2).2).2).2.flt = none := by
    have := (kidE_left (hereO up nm) (cntR l (modR l ver r2).2).2.s.p (sumR l (cntR l (modR l ver r2).2).2).1 (kidL (nodeR l ver n (some (hereO up nm))) (cntR l (modR l ver r2).2).1 .nil ⟨#[]⟩ (sumR l (cntR l (modR l ver r2).2).2).2)).2.1
    rw [← this]
    exact hf
   have hlt := kidL_lt (nodeR l ver n (some (hereO up nm))) (fun last r => nodeR_lt l ver n _ last r) (cntR l (modR l ver r2).2).1 .nil ⟨#[]⟩ (sumR l (cntR l (modR l ver r2).2).2).2
   obtain ⟨c1, c2⟩ := sum_none hB (hlt.none hfk)
   obtain ⟨b1, b2, b3⟩ := num_none hB c2.fl
   obtain ⟨a1, a2, a3⟩ := mod_none hB H.fe b3.fl
   have hidx := kidL_ok (l := l) (ver := ver) (L := deepO up) (r0 := (sumR l (cntR l (modR l ver r2).2).2).2) (nodeR l ver n (some (hereO up nm))) (fun la r' h0 hp hfx => by
    have hdn : deepO (some (hereO up nm)) + n = 66 := by show (hereO up nm).length + 1 + n = 66; rw [hereO_len]; omega
    have h1n : 1 ≤ n := by have := H.deep; omega
    obtain ⟨i1, i2, i3⟩ := nodeR_ok hB n (some (hereO up nm)) la r' hdn h1n hp hfx
    have hiv := (nodeR_inv l ver n (some (hereO up nm)) la r' hdn h1n hp).1.2 hfx
    have e : deepO (some (hereO up nm)) = deepO up + 1 := by show (hereO up nm).length + 1 = _; rw [hereO_len]
    rw [e] at i1 i3
    exact ⟨hiv, i1, i2 _ rfl, i3⟩) (cntR l (modR l ver r2).2).1 .nil ⟨#[]⟩ (sumR l (cntR l (modR l ver r2).2).2).2 (by
    have s3 := c2.st
    have s2 := b3.st
    have s1 := a3.st
    have hl2 := H.left
    have hl0 := H.left0
    refine ⟨⟨[], [], by simp [Go.Proofs.YtjikkhbcbfpocaaGreatDoor.up], by simp, by simp, by unfold dirF; simp [hashF, dirs], fun _ => rfl, Nat.le_refl _⟩, ⟨s3.2.2.2.1, rfl⟩, by simp [F.size], ?_, fun _ _ => rfl, trivial, trivial, .inl rfl⟩
    have e1 : (sumR l (cntR l (modR l ver r2).2).2).2.left = (cntR l (modR l ver r2).2).2.left := s3.1
    have e2 : (cntR l (modR l ver r2).2).2.left = (modR l ver r2).2.left := s2.1
    rw [e1, e2, s1.1]
    omega) hfk
   obtain ⟨f, la', k1, k2, k3⟩ := hidx
   have hks : kidsR l (nodeR l ver n (some (hereO up nm))) (hereO up nm) (modR l ver r2).2 = (f, { (kidL (nodeR l ver n (some (hereO up nm))) (cntR l (modR l ver r2).2).1 .nil ⟨#[]⟩ (sumR l (cntR l (modR l ver r2).2).2).2).2 with st := (kidL (nodeR l ver n (some (hereO up nm))) (cntR l (modR l ver r2).2).1 .nil ⟨#[]⟩ (sumR l (cntR l (modR l ver r2).2).2).2).2.st ++ [⟨hereO up nm, (cntR l (modR l ver r2).2).2.s.p, (sumR l (cntR l (modR l ver r2).2).2).1⟩] }) := kidE_some k1
   rw [hks]
   clear hks hlt hfk hf
   generalize (kidL (nodeR l ver n (some (hereO up nm))) (cntR l (modR l ver r2).2).1 .nil ⟨#[]⟩ (sumR l (cntR l (modR l ver r2).2).2).2).2 = r6 at *
   have hN : f.len = (cntR l (modR l ver r2).2).1 := by rw [k2]; simp [F.len]
   have hab := (a3.trans b3).trans c2
   rw [show (numR l 0 (modR l ver r2).2.left.toNat (modR l ver r2).2).1 = (cntR l (modR l ver r2).2).1 from rfl] at hab
   rw [← hN] at hab
   have hst5 := hab.st
   generalize (cntR l (modR l ver r2).2).2.s.p = PL at *
   generalize hhash : (sumR l (cntR l (modR l ver r2).2).2).1 = hash at *
   generalize hmd : (modR l ver r2).1 = md at *
   generalize (sumR l (cntR l (modR l ver r2).2).2).2 = r5 at *
   obtain ⟨X, S, x1, x2, x3, x4, x5, x6⟩ := k3.ex
   have hdirT : dirT ⟨1, md, 0, zeros, by simp [zeros]⟩ f = dirF f ++ [(hashT ⟨1, md, 0, zeros, by simp [zeros]⟩ f).1] := dirT_dir rfl f
   have hh32 : hash.length = 32 := by rw [← hhash]; exact b32_len _
   refine ⟨⟨⟨1 :: (nbO up nm ++ ((if 2 ≤ ver then [md.toNat] else []) ++ encN f.len ++ hash ++ X)), S ++ [⟨hereO up nm, PL, hash⟩], ?_, ?_, ?_, ?_, fun e => ?_, ?_⟩, ⟨k3.fe.1, k3.fe.2.trans (hst5.2.2.2.2.2.trans H.fa)⟩, ?_, own_dir md _ a1, k3.kid, ⟨⟨fun q _ => a2 q, fun _ => rfl⟩, k3.nrm⟩, ⟨zeros_bytes, k3.byt⟩⟩, H.nok, H.deep⟩
   ·rw [H.drop, hab.drop, ← hst5.2.2.2.2.1, x1]
    simp only [Go.Proofs.YtjikkhbcbfpocaaGreatDoor.up, List.map_cons, List.map_append, List.append_assoc, List.cons_append]
    rfl
   ·simp only [lC, lA]
    rw [x2, hst5.2.2.2.2.1, H.p]
    simp only [lA]
    omega
   ·rw [x3, hst5.2.1, H.st, List.append_assoc]
   ·rw [hdirT, lA, lA, x4]; rfl
   ·rw [hdirT, List.map_append] at e
    obtain ⟨e1, e2⟩ := List.append_inj e (by rw [List.length_map, x4])
    simp only [List.map_cons, List.map_nil, List.cons.injEq, and_true] at e2
    unfold encT oneB
    rw [if_pos rfl, x5 e1, ← e2]
    simp [modB]
   ·simp only [lC, lA]
    omega
   ·show r6.left = r.left - ((1 + f.size : Nat) : Int)
    have := k3.left
    have := H.left
    have := hst5.1
    omega
  ·subst hk1
   rw [if_neg (by decide), if_pos rfl] at hf ⊢
   simp only at hf ⊢
   obtain ⟨c1, c2, c3, c4⟩ := marks_none hB (by
    have h9 := (Sm.marks l ver (modR l ver (conR l 0 1099511627775 r2).2).2).none hf
    have h8 := (Sm.mod l ver (conR l 0 1099511627775 r2).2).none h9
    obtain ⟨_, _, _, b4⟩ := con_none hB h8
    exact (mod_none hB b4.st.2.2.2.1 h9).2.2.st.2.2.2.1) hf
   obtain ⟨_, _, _, b40⟩ := con_none hB ((Sm.mod l ver (conR l 0 1099511627775 r2).2).none c4.fl)
   obtain ⟨a1, a2, a3⟩ := mod_none hB b40.st.2.2.2.1 c4.fl
   obtain ⟨b1, b2, b3, b4⟩ := con_none hB a3.fl
   have hab := (b4.trans a3).trans c4
   have hst := hab.st
   have hdirT : dirT ⟨2, (modR l ver (conR l 0 1099511627775 r2).2).1, (conR l 0 1099511627775 r2).1.1, (conR l 0 1099511627775 r2).1.2, conR_len _ _ _ _⟩ .nil = [] := dirT_else (show (2 : Int) ≠ 1 by decide) _ (.inl rfl)
   refine ⟨⟨⟨2 :: (nbO up nm ++ (encN (conR l 0 1099511627775 r2).1.1 ++ (conR l 0 1099511627775 r2).1.2 ++ (if 2 ≤ ver then [(modR l ver (conR l 0 1099511627775 r2).2).1.toNat] else []) ++ marB ver (marksR l ver (modR l ver (conR l 0 1099511627775 r2).2).2).1)), [], ?_, ?_, ?_, ?_, fun _ => ?_, ?_⟩, ⟨hst.2.2.2.1, hst.2.2.2.2.2.trans H.fa⟩, ?_, own_file _ _ _ _ _ a1 ⟨by omega, by omega⟩ c1 c2, fun _ _ => rfl, ⟨⟨fun q _ => a2 q, c3⟩, trivial⟩, ⟨b3, trivial⟩⟩, H.nok, H.deep⟩
   ·rw [H.drop, hab.drop, ← hst.2.2.2.2.1]
    simp only [Go.Proofs.YtjikkhbcbfpocaaGreatDoor.up, List.map_cons, List.map_append, List.append_assoc, List.cons_append]
    rfl
   ·rw [hst.2.2.2.2.1, H.p]
    simp only [lC, lA]
    omega
   ·rw [hst.2.1, H.st, List.append_nil]
   ·exact congrArg List.length hdirT.symm
   ·unfold encT oneB
    rw [if_neg (show ¬ (2 : Int) = 1 by decide), if_pos rfl]
    simp [conB, modB]
   ·simp only [lC, lA, F.weight]
    omega
   ·rw [hst.1, H.left]
    simp [F.size]
  ·subst hk1
   rw [if_neg (by decide), if_neg (by decide), if_pos rfl] at hf ⊢
   simp only at hf ⊢
   obtain ⟨b1, b2, b3, b4⟩ := con_none hB hf
   have hst := b4.st
   have hdirT : dirT ⟨3, 0, (conR l 1 4095 r2).1.1, (conR l 1 4095 r2).1.2, conR_len _ _ _ _⟩ .nil = [] := dirT_else (show (3 : Int) ≠ 1 by decide) _ (.inr rfl)
   refine ⟨⟨⟨3 :: (nbO up nm ++ (encN (conR l 1 4095 r2).1.1 ++ (conR l 1 4095 r2).1.2)), [], ?_, ?_, ?_, ?_, fun _ => ?_, ?_⟩, ⟨hst.2.2.2.1, hst.2.2.2.2.2.trans H.fa⟩, ?_, own_link _ _ _ ⟨by omega, by omega⟩, fun _ _ => rfl, ⟨⟨fun _ q => absurd rfl q, fun _ => rfl⟩, trivial⟩, ⟨b3, trivial⟩⟩, H.nok, H.deep⟩
   ·rw [H.drop, b4.drop, ← hst.2.2.2.2.1]
    simp only [Go.Proofs.YtjikkhbcbfpocaaGreatDoor.up, List.map_cons, List.map_append, List.append_assoc, List.cons_append]
    rfl
   ·rw [hst.2.2.2.2.1, H.p]
    simp only [lC, lA]
    omega
   ·rw [hst.2.1, H.st, List.append_nil]
   ·exact congrArg List.length hdirT.symm
   ·unfold encT oneB
    rw [if_neg (show ¬ (3 : Int) = 1 by decide), if_neg (show ¬ (3 : Int) = 2 by decide)]
    simp [conB]
   ·simp only [lC, lA, F.weight]
    omega
   ·rw [hst.1, H.left]
    simp [F.size]
end Go.Proofs.YtjikkhbcbfpocaaGreatDoor
