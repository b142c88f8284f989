import Derived.Test.YtjikkhbcbfpocaaGreatDoorZ0
import Derived.Test.YtjikkhbcbfpocaaGreatDoorDS
import Derived.Test.YtjikkhbcbfpocaaGreatDoorDW
set_option maxRecDepth 100000
set_option maxHeartbeats 1600000
namespace Go.Proofs.YtjikkhbcbfpocaaGreatDoor
open Go.RowKit Go.Shelf
def Okr (r : Rv) : Prop := r.s.fe = 0 ∧ r.flt = none
def adv (r : Rv) (k : Nat) : Rv := { r with s := ⟨r.s.p + k, r.s.fa, r.s.fe⟩ }
theorem Okr.adv {r : Rv} (h : Okr r) (k : Nat) : Okr (adv r k) := h
theorem adv_adv (r : Rv) (a b : Nat) : adv (adv r a) b = adv r (a + b) := by unfold adv; simp only [Nat.add_assoc]
theorem adv_drop {l : List Int} {r : Rv} {X Y : List Nat} (h : l.drop r.s.p = up (X ++ Y)) : l.drop (adv r X.length).s.p = up Y := by
 show l.drop (r.s.p + X.length) = _
 rw [← List.drop_drop, h, up_append, List.drop_append, up_len]
 simp [up]
theorem must_ok {a : Int} {r : Rv} (h : r.s.fe = 0) : mustR a true r = r := by unfold mustR; rw [if_neg (by simp [h])]
theorem num_at {l : List Int} {least : Int} {most n : Nat} {r : Rv} {Y : List Nat} (h0 : Okr r) (hd : l.drop r.s.p = up (encN n ++ Y)) (h1 : least ≤ (n : Int)) (h2 : n ≤ most) (h3 : n < 18446744073709551616) : numR l least most r = (n, adv r (encN n).length) := by
 have hr : Wire.rd 0 (l.drop r.s.p) = .ok n (Wire.enc n).length := by rw [hd, up_append, up_encN]; exact Wire.rd_enc _ h3
 have hu : Wi.uintS l r.s most = (n, ⟨r.s.p + (encN n).length, r.s.fa, r.s.fe⟩) := by
  unfold Wi.uintS
  rw [if_neg (by rw [h0.1]; simp), hr]
  simp only
  rw [if_pos h2, encN_len]
 unfold numR
 rw [hu]
 simp only
 rw [decide_eq_true h1, must_ok (r := ⟨⟨r.s.p + (encN n).length, r.s.fa, r.s.fe⟩, r.left, r.flt, r.st⟩) h0.1]
 rfl
theorem b32_up {h : List Nat} (hl : h.length = 32) : b32 (up h) = h := by
 unfold b32
 rw [if_pos (by rw [up_len]; exact hl)]
 unfold up
 rw [List.map_map]
 conv => rhs; rw [← List.map_id h]
 exact List.map_congr_left fun x _ => by simp [Function.comp]
theorem len_ge {l : List Int} {p : Nat} {X Y : List Nat} (h : l.drop p = up (X ++ Y)) : X.length ≤ l.length - p := by
 have := congrArg List.length h
 rw [List.length_drop, up_len, lA] at this
 omega
theorem sum_at {l : List Int} {h Y : List Nat} {r : Rv} (h0 : Okr r) (hl : h.length = 32) (hd : l.drop r.s.p = up (h ++ Y)) : sumR l r = (h, adv r h.length) := by
 have hg := len_ge hd
 have e32 : (32 : Int).toNat = 32 := rfl
 have hraw : Wi.rawB l r.s 32 = up h := by
  unfold Wi.rawB
  rw [e32, if_neg (by rw [h0.1]; simp), if_neg (by omega), hd, up_append, List.take_append_of_le_length (by rw [up_len]; omega), List.take_of_length_le (by rw [up_len]; omega)]
 have hrs : Wi.rawS l r.s 32 = ⟨r.s.p + 32, r.s.fa, r.s.fe⟩ := by
  unfold Wi.rawS
  rw [e32, if_neg (by rw [h0.1]; simp), if_neg (by omega)]
 unfold sumR
 rw [hraw, hrs, b32_up hl, must_ok (r := ⟨⟨r.s.p + 32, r.s.fa, r.s.fe⟩, r.left, r.flt, r.st⟩) h0.1, hl]
 rfl
theorem byte_at {l : List Int} {c : Nat} {Y : List Nat} {r : Rv} (h0 : Okr r) (hd : l.drop r.s.p = up (c :: Y)) : Wi.byteS l r.s = ((c : Int), ⟨r.s.p + 1, r.s.fa, r.s.fe⟩) := by
 have hlt : r.s.p < l.length := by
  have := congrArg List.length hd
  rw [List.length_drop, up_len, lC] at this
  omega
 have hc : l[r.s.p]?.getD 0 = (c : Int) := by
  rw [List.getElem?_eq_getElem hlt]
  rw [List.drop_eq_getElem_cons hlt] at hd
  injection hd
 unfold Wi.byteS
 rw [if_neg (by rw [h0.1]; simp), if_pos hlt, hc]
theorem mod_at {l : List Int} {ver : Int} {v : Vd} {Y : List Nat} {r : Rv} (h0 : Okr r) (hm : 0 ≤ v.mode ∧ v.mode ≤ 8) (h8 : ver < 2 → v.mode = 8) (hd : l.drop r.s.p = up (modB ver v ++ Y)) : modR l ver r = (v.mode, adv r (modB ver v).length) := by
 unfold modR modB at *
 by_cases hv : ver < 2
 ·rw [if_pos hv, if_neg (by omega), h8 hv]
  rfl
 ·rw [if_neg hv, if_pos (by omega)]
  rw [if_pos (by omega)] at hd
  rw [byte_at h0 hd]
  have e : ((v.mode.toNat : Nat) : Int) = v.mode := by omega
  simp only [e]
  rw [decide_eq_true hm.2, must_ok (r := ⟨⟨r.s.p + 1, r.s.fa, r.s.fe⟩, r.left, r.flt, r.st⟩) h0.1]
  rfl
theorem mark_at {l : List Int} {a b : Nat} {Y : List Nat} {r : Rv} (h0 : Okr r) (hm : rightMB a b = true) (hd : l.drop r.s.p = up (encN a ++ (encN b ++ Y))) : markR l r = ((a, b), adv r ((encN a).length + (encN b).length)) := by
 have hm := of_decide_eq_true hm
 have e1 := num_at (least := 0) (most := mStamp) h0 hd (by omega) (by unfold mStamp; omega) (by omega)
 have hd2 := adv_drop hd
 unfold markR
 rw [e1]
 simp only
 by_cases ha : a = 0
 ·rw [if_pos ha]
  have e2 := num_at (least := 0) (most := 0) (h0.adv (encN a).length) hd2 (by omega) (by omega) (by omega)
  rw [e2, adv_adv, ha]
 ·rw [if_neg ha]
  have e2 := num_at (least := 1) (most := mStamp) (h0.adv (encN a).length) hd2 (by omega) (by unfold mStamp; omega) (by omega)
  rw [e2, adv_adv]
def mz (ver : Int) (m : Md) : Md := if ver < 3 then Md.zero else m
theorem marks_at {l : List Int} {ver : Int} {m : Md} {Y : List Nat} {r : Rv} (h0 : Okr r) (h1 : rightMB m.n0 m.s0 = true) (h2 : rightMB m.n1 m.s1 = true) (hd : l.drop r.s.p = up (marB ver m ++ Y)) : marksR l ver r = (mz ver m, adv r (marB ver m).length) := by
 unfold marksR marB mz at *
 by_cases hv : ver < 3
 ·rw [if_pos hv, if_pos hv, if_pos hv]
  rfl
 ·rw [if_neg hv] at hd
  rw [if_neg hv, if_neg hv, if_neg hv]
  have p1 := (rightMB_ok h1)
  have p2 := (rightMB_ok h2)
  have c0 : ((m.n0.toNat : Nat) : Int) = m.n0 := by omega
  have c1 : ((m.s0.toNat : Nat) : Int) = m.s0 := by omega
  have c2 : ((m.n1.toNat : Nat) : Int) = m.n1 := by omega
  have c3 : ((m.s1.toNat : Nat) : Int) = m.s1 := by omega
  have hb : mkB m 2 = encN m.n0.toNat ++ (encN m.s0.toNat ++ (encN m.n1.toNat ++ encN m.s1.toNat)) := by
   simp [mkB, mN, mS]
  rw [hb] at hd ⊢
  simp only [List.append_assoc] at hd
  have e1 := mark_at h0 (by rw [c0, c1]; exact h1) hd
  have hd2 : l.drop (adv r ((encN m.n0.toNat).length + (encN m.s0.toNat).length)).s.p = up (encN m.n1.toNat ++ (encN m.s1.toNat ++ Y)) := by
   rw [← adv_adv]
   exact adv_drop (adv_drop hd)
  have e2 := mark_at (h0.adv _) (by rw [c2, c3]; exact h2) hd2
  rw [e1]
  simp only
  rw [e2, adv_adv]
  simp only [c0, c1, c2, c3, lA, Nat.add_assoc]
theorem con_at {l : List Int} {least : Int} {most : Nat} {v : Vd} {Y : List Nat} {r : Rv} (h0 : Okr r) (h1 : least ≤ v.size) (hp : 0 ≤ v.size) (h2 : v.size ≤ (most : Int)) (h3 : v.size < 9223372036854775808) (hd : l.drop r.s.p = up (conB v ++ Y)) : conR l least most r = ((v.size.toNat, v.sum), adv r (conB v).length) := by
 unfold conB at hd ⊢
 rw [List.append_assoc] at hd
 have e1 := num_at (least := least) (most := most) h0 hd (by omega) (by omega) (by omega)
 have e2 := sum_at (h0.adv (encN v.size.toNat).length) v.len (adv_drop hd)
 unfold conR
 rw [e1]
 simp only
 rw [e2, adv_adv, lA]
theorem kind_at {l : List Int} {deep c : Nat} {Y : List Nat} {r : Rv} (h0 : Okr r) (hl : r.left ≠ 0) (hdp : deep ≤ 64) (hk : kOk deep (c : Int) = true) (hd : l.drop r.s.p = up (c :: Y)) : kindR l deep r = ((c : Int), { adv r 1 with left := r.left - 1 }) := by
 unfold kindR
 rw [byte_at h0 hd]
 simp only
 have hp : preR deep r = r := by unfold preR; rw [if_neg hl, if_neg (by omega)]
 rw [hk, hp, must_ok (r := ⟨⟨r.s.p + 1, r.s.fa, r.s.fe⟩, r.left, r.flt, r.st⟩) h0.1]
 rfl
theorem bytesLess_nil (x : List UInt8) : Op.bytesLess x [] = false := by cases x <;> rfl
theorem name_at {l : List Int} {last nm : ByteArray} {Y : List Nat} {r : Rv} (h0 : Okr r) (hok : nOkB last nm = true) (hd : l.drop r.s.p = up (namB nm ++ Y)) : nameR l last r = (nm, adv r (namB nm).length) := by
 have hs : nm.size ≤ 255 := by
  unfold nOkB at hok
  rw [Bool.and_eq_true] at hok
  exact nameB_size hok.2
 have hg := len_ge hd
 have hpos : 1 ≤ (encN nm.size).length := by rw [encN_len]; exact Wire.enc_pos _
 have hnl : (namB nm).length = (encN nm.size).length + nm.size := by unfold namB; rw [lA, strN_len]
 have hd2 := hd
 unfold namB at hd2
 rw [List.append_assoc] at hd2
 have hr : Wire.rd 0 (l.drop r.s.p) = .ok nm.size (Wire.enc nm.size).length := by rw [hd2, up_append, up_encN]; exact Wire.rd_enc _ (by omega)
 have hte : (l.drop (r.s.p + (Wire.enc nm.size).length)).take nm.size = up (strN nm) := by
  rw [← encN_len]
  have := adv_drop hd2
  have e : l.drop (r.s.p + (encN nm.size).length) = up (strN nm ++ Y) := this
  rw [e, up_append, List.take_append_of_le_length (by rw [up_len, strN_len]; exact Nat.le_refl _), List.take_of_length_le (by rw [up_len, strN_len]; exact Nat.le_refl _)]
 have hu : Wi.textS l r.s 255 = (up (strN nm), ⟨r.s.p + (namB nm).length, r.s.fa, r.s.fe⟩) := by
  unfold Wi.textS
  rw [if_neg (by rw [h0.1]; simp), hr]
  simp only
  rw [if_neg (by omega), if_neg (by rw [← encN_len]; omega), hte, hnl, encN_len, Nat.add_assoc]
 have hmk : Wi.mkStr (up (strN nm)) = nm := by
  unfold Wi.mkStr up strN
  rw [List.map_map, List.map_map]
  have : (nm.data.toList.map (((fun c : Int => UInt8.ofNat c.toNat) ∘ Int.ofNat) ∘ fun c : UInt8 => c.toNat)) = nm.data.toList := by
   conv => rhs; rw [← List.map_id nm.data.toList]
   exact List.map_congr_left fun x _ => by simp [Function.comp]
  rw [this]
 unfold nameR
 rw [hu]
 simp only
 rw [hmk, hok]
 have hb : boundR { r with s := ⟨r.s.p + (namB nm).length, r.s.fa, r.s.fe⟩ } = adv r (namB nm).length := by
  unfold boundR
  rw [if_neg (by show ¬ r.s.fe = 12; rw [h0.1]; decide)]
  rfl
 rw [hb, must_ok (h0.adv _).1]
theorem own_cases {v : Vd} {m : Md} {b : Bool} (h : ownE v m b = 0) :
  (v.kind = 1 ∧ (0 ≤ v.mode ∧ v.mode ≤ 8) ∧ v.size = 0 ∧ v.sum = zeros ∧ m = Md.zero) ∨ (v.kind = 2 ∧ b = false ∧ (0 ≤ v.mode ∧ v.mode ≤ 8) ∧ (0 ≤ v.size ∧ v.size ≤ 1099511627775) ∧ rightMB m.n0 m.s0 = true ∧ rightMB m.n1 m.s1 = true) ∨
  (v.kind = 3 ∧ b = false ∧ v.mode = 0 ∧ (1 ≤ v.size ∧ v.size ≤ 4095) ∧ m = Md.zero) := by
 unfold ownE at h
 split at h
 ·omega
 ·split at h
  ·omega
  ·split at h
   ·omega
   ·split at h
    ·omega
    ·split at h
     ·omega
     ·rename_i c1 c2 c3 c4 c5
      have c3 : rightVB v = true := by simpa using c3
      unfold rightVB at c3
      by_cases e1 : v.kind = 1
      ·rw [if_pos e1] at c3
       have := of_decide_eq_true c3
       exact .inl ⟨e1, this.1, this.2.1, this.2.2, Classical.byContradiction fun q => c5 ⟨by omega, q⟩⟩
      ·have hb : b = false := by
        cases b with
        | false => rfl
        | true => exact absurd ⟨rfl, e1⟩ c2
       rw [if_neg e1] at c3
       by_cases e2 : v.kind = 2
       ·rw [if_pos e2] at c3
        have := of_decide_eq_true c3
        refine .inr (.inl ⟨e2, hb, this.1, this.2, ?_, ?_⟩)
        ·cases q : rightMB m.n0 m.s0 with
         | true => rfl
         | false => exact absurd ⟨e2, .inl q⟩ c4
        ·cases q : rightMB m.n1 m.s1 with
         | true => rfl
         | false => exact absurd ⟨e2, .inr q⟩ c4
       ·rw [if_neg e2] at c3
        by_cases e3 : v.kind = 3
        ·rw [if_pos e3] at c3
         have := of_decide_eq_true c3
         exact .inr (.inr ⟨e3, hb, this.1, this.2, Classical.byContradiction fun q => c5 ⟨e2, q⟩⟩)
        ·rw [if_neg e3] at c3; cases c3
def fwd (r : Rv) (k d : Nat) (S : List Stp) : Rv := ⟨⟨r.s.p + k, r.s.fa, r.s.fe⟩, r.left - (d : Int), r.flt, r.st ++ S⟩
theorem Okr.fwd {r : Rv} (h : Okr r) (k d : Nat) (S : List Stp) : Okr (fwd r k d S) := h
theorem fwd_adv (r : Rv) (k d j : Nat) (S : List Stp) : adv (fwd r k d S) j = fwd r (k + j) d S := by unfold adv fwd; simp only [Nat.add_assoc]
theorem fwd_fwd (r : Rv) (k d j e : Nat) (S T : List Stp) : fwd (fwd r k d S) j e T = fwd r (k + j) (d + e) (S ++ T) := by
 unfold fwd
 simp only [Nat.add_assoc, List.append_assoc, Rv.mk.injEq, true_and, and_true]
 omega
theorem head_at {l : List Int} {u : Option (List ByteArray)} {last nm : ByteArray} {r : Rv} {c : Nat} {Y : List Nat} (h0 : Okr r) (hl : r.left ≠ 0) (hdp : deepO u ≤ 64) (hk : kOk (deepO u) (c : Int) = true) (hn : ∀ x, u = some x → nOkB last nm = true) (hn0 : u = none → nm = ⟨#[]⟩) (hd : l.drop r.s.p = up ([c] ++ (nbO u nm ++ Y))) :
  (kindR l (deepO u) r).1 = (c : Int) ∧ headR l u last r = (nm, fwd r (1 + (nbO u nm).length) 1 []) := by
 have e1 := kind_at h0 hl hdp hk hd
 have hd2 : l.drop (fwd r 1 1 []).s.p = up (nbO u nm ++ Y) := adv_drop hd
 have e2 : ({ adv r 1 with left := r.left - 1 } : Rv) = fwd r 1 1 [] := by unfold adv fwd; simp
 rw [e2] at e1
 refine ⟨by rw [e1], ?_⟩
 unfold headR
 rw [e1]
 cases u with
 | none =>
  show (_, _) = _
  rw [hn0 rfl]
  simp [nbO]
 | some x =>
  show nameR l last (fwd r 1 1 []) = _
  rw [name_at (h0.fwd 1 1 []) (hn x rfl) hd2, fwd_adv]
  rfl
theorem len0 : ∀ {f : F}, decide (0 < f.len) = false → f = .nil
 | .nil, _ => rfl
 | .cons _ _ _ _ _, h => by simp [F.len] at h
theorem node_step {l : List Int} {ver : Int} {n : Nat} {u : Option (List ByteArray)} {last nm : ByteArray} {r : Rv} {v : Vd} {m : Md} {ks : F} {Y : List Nat} (h0 : Okr r) (hlo : ((1 + ks.size : Nat) : Int) ≤ r.left) (hhi : r.left < 9223372036854775808) (hdp : deepO u ≤ 64) (hku : u = none → v.kind = 1 ∧ nm = ⟨#[]⟩)
  (hn : ∀ x, u = some x → nOkB last nm = true) (hown : ownE v m (decide (0 < ks.len)) = 0) (h8 : ver < 2 → v.kind ≠ 3 → v.mode = 8) (hd : l.drop r.s.p = up (encT ver (nbO u nm) v m ks ++ Y))
  (hkids : ∀ (r' : Rv) (Y' : List Nat), Okr r' → (ks.size : Int) ≤ r'.left → r'.left < 9223372036854775808 → l.drop r'.s.p = up (encF ver ks ++ Y') → ∃ S, kidL (nodeR l ver n (some (hereO u nm))) ks.len .nil ⟨#[]⟩ r' = (some (ks.mp id (mz ver)), fwd r' (encF ver ks).length ks.size S) ∧ S.map (·.hash) = dirF ks) :
  ∃ S, nodeR l ver (n + 1) u last r = (⟨nm, v, mz ver m, ks.mp id (mz ver)⟩, fwd r (encT ver (nbO u nm) v m ks).length (1 + ks.size) S) ∧ S.map (·.hash) = dirT v ks := by
 have hkOk : ∀ c : Nat, v.kind = (c : Int) → (c = 1 ∨ c = 2 ∨ c = 3) → kOk (deepO u) (c : Int) = true := fun c hc h3 => by
  unfold kOk
  cases u with
  | none => have := (hku rfl).1; rw [← hc, this]; rfl
  | some x =>
   rcases h3 with e | e | e <;> subst e <;> simp [deepO]
 unfold nodeR
 rcases own_cases hown with ⟨k1, k2, k3, k4, k5⟩ | ⟨k1, k2, k3, k4, k5, k6⟩ | ⟨k1, k2, k3, k4, k5⟩
 ·have hB : encT ver (nbO u nm) v m ks = [1] ++ (nbO u nm ++ (modB ver v ++ (encN ks.len ++ ((hashT v ks).1 ++ encF ver ks)))) := by unfold encT oneB; rw [if_pos k1]
  rw [hB] at hd ⊢
  simp only [List.append_assoc] at hd
  obtain ⟨e1, e2⟩ := head_at h0 (by omega) hdp (hkOk 1 k1 (.inl rfl)) hn (fun q => (hku q).2) hd
  rw [e1, e2, show ((1 : Nat) : Int) = 1 from rfl]
  have hd2 : l.drop (fwd r (1 + (nbO u nm).length) 1 []).s.p = up (modB ver v ++ (encN ks.len ++ ((hashT v ks).1 ++ (encF ver ks ++ Y)))) := by
   have := adv_drop (adv_drop hd)
   rw [adv_adv] at this
   exact this
  generalize hr2 : fwd r (1 + (nbO u nm).length) 1 [] = r2 at *
  have o2 : Okr r2 := by rw [← hr2]; exact h0
  have l2 : r2.left = r.left - 1 := by rw [← hr2]; rfl
  unfold bodyR
  rw [if_neg (by simp [o2.2]), if_pos rfl]
  simp only
  have e3 := mod_at (ver := ver) o2 k2 (fun q => h8 q (by omega)) hd2
  have hd3 := adv_drop hd2
  rw [e3]
  unfold kidsR cntR
  have hls := ks.len_le_size
  have e4 := num_at (least := 0) (most := (adv r2 (modB ver v).length).left.toNat) (o2.adv _) hd3 (by omega) (by show _ ≤ r2.left.toNat; omega) (by omega)
  have hd4 := adv_drop hd3
  rw [e4]
  simp only
  have e5 := sum_at ((o2.adv (modB ver v).length).adv (encN ks.len).length) (hashT_len v ks) hd4
  have hd5 := adv_drop hd4
  rw [e5]
  simp only
  obtain ⟨S, e6, e7⟩ := hkids _ Y (((o2.adv (modB ver v).length).adv (encN ks.len).length).adv (hashT v ks).1.length) (by show _ ≤ r2.left; omega) (by show r2.left < _; omega) hd5
  rw [e6, kidE_some rfl]
  refine ⟨S ++ [⟨hereO u nm, (adv (adv r2 (modB ver v).length) (encN ks.len).length).s.p, (hashT v ks).1⟩], ?_, by rw [dirT_dir k1, List.map_append, e7]; rfl⟩
  have hv : (⟨1, v.mode, 0, zeros, by simp [zeros]⟩ : Vd) = v := by
   cases v
   simp only at k1 k3 k4
   subst k1 k3 k4
   rfl
  have hm : Md.zero = mz ver m := by rw [k5]; unfold mz; split <;> rfl
  rw [hv, hm]
  refine Prod.ext rfl ?_
  subst hr2
  unfold fwd adv
  simp only [lA, lC, lN, List.append_assoc, List.append_nil, Rv.mk.injEq, Wi.St.mk.injEq, and_true]
  omega
 ·have hks := len0 k2
  subst hks
  have hB : encT ver (nbO u nm) v m .nil = [2] ++ (nbO u nm ++ (conB v ++ (modB ver v ++ marB ver m))) := by unfold encT oneB; rw [if_neg (by omega), if_pos k1]
  rw [hB] at hd ⊢
  simp only [List.append_assoc] at hd
  obtain ⟨e1, e2⟩ := head_at h0 (by omega) hdp (hkOk 2 k1 (.inr (.inl rfl))) hn (fun q => (hku q).2) hd
  rw [e1, e2, show ((2 : Nat) : Int) = 2 from rfl]
  have hd2 : l.drop (fwd r (1 + (nbO u nm).length) 1 []).s.p = up (conB v ++ (modB ver v ++ (marB ver m ++ Y))) := by
   have := adv_drop (adv_drop hd)
   rw [adv_adv] at this
   exact this
  generalize hr2 : fwd r (1 + (nbO u nm).length) 1 [] = r2 at *
  have o2 : Okr r2 := by rw [← hr2]; exact h0
  unfold bodyR
  rw [if_neg (by simp [o2.2]), if_neg (by decide), if_pos rfl]
  have e3 := con_at (least := 0) (most := 1099511627775) o2 k4.1 k4.1 (by omega) (by omega) hd2
  have hd3 := adv_drop hd2
  have e4 := mod_at (ver := ver) (o2.adv (conB v).length) k3 (fun q => h8 q (by omega)) hd3
  have hd4 := adv_drop hd3
  have e5 := marks_at ((o2.adv (conB v).length).adv (modB ver v).length) k5 k6 hd4
  simp only [e3, e4, e5]
  refine ⟨[], ?_, by rw [dirT_else (by omega) _ (.inl k1)]; rfl⟩
  have hv : (⟨2, v.mode, (v.size.toNat : Int), v.sum, v.len⟩ : Vd) = v := by
   have : ((v.size.toNat : Nat) : Int) = v.size := by omega
   cases v
   simp only at k1 this
   subst k1
   rw [this]
  rw [hv]
  refine Prod.ext rfl ?_
  subst hr2
  unfold fwd adv
  simp only [lA, lC, lN, List.append_nil, Rv.mk.injEq, Wi.St.mk.injEq, F.size, and_true]
  omega
 ·have hks := len0 k2
  subst hks
  have hB : encT ver (nbO u nm) v m .nil = [3] ++ (nbO u nm ++ conB v) := by unfold encT oneB; rw [if_neg (by omega), if_neg (by omega)]
  rw [hB] at hd ⊢
  simp only [List.append_assoc] at hd
  obtain ⟨e1, e2⟩ := head_at h0 (by omega) hdp (hkOk 3 k1 (.inr (.inr rfl))) hn (fun q => (hku q).2) hd
  rw [e1, e2, show ((3 : Nat) : Int) = 3 from rfl]
  have hd2 : l.drop (fwd r (1 + (nbO u nm).length) 1 []).s.p = up (conB v ++ Y) := by
   have := adv_drop (adv_drop hd)
   rw [adv_adv] at this
   exact this
  generalize hr2 : fwd r (1 + (nbO u nm).length) 1 [] = r2 at *
  have o2 : Okr r2 := by rw [← hr2]; exact h0
  unfold bodyR
  rw [if_neg (by simp [o2.2]), if_neg (by decide), if_neg (by decide), if_pos rfl]
  have e3 := con_at (least := 1) (most := 4095) o2 k4.1 (by omega) (by omega) (by omega) hd2
  simp only [e3]
  refine ⟨[], ?_, by rw [dirT_else (by omega) _ (.inr k1)]; rfl⟩
  have hv : (⟨3, 0, (v.size.toNat : Int), v.sum, v.len⟩ : Vd) = v := by
   have : ((v.size.toNat : Nat) : Int) = v.size := by omega
   cases v
   simp only at k1 k3 this
   subst k1 k3
   rw [this]
  have hm : Md.zero = mz ver m := by rw [k5]; unfold mz; split <;> rfl
  rw [hv, hm]
  refine Prod.ext rfl ?_
  subst hr2
  unfold fwd adv
  simp only [lA, lC, lN, List.append_nil, Rv.mk.injEq, Wi.St.mk.injEq, F.size, and_true]
  omega
theorem own_unk {v : Vd} {m : Md} {b : Bool} (h : ownE v m b = 0) : ownE (unkV v) m b = 0 := by
 rcases own_cases h with ⟨k1, k2, k3, k4, k5⟩ | ⟨k1, k2, k3, k4, k5, k6⟩ | ⟨k1, _⟩
 ·unfold unkV
  rw [if_neg (by omega)]
  simp [ownE, rightVB, k1, k3, k4, k5]
 ·unfold unkV
  rw [if_neg (by omega)]
  simp [ownE, rightVB, k1, k2, k4.1, k4.2, k5, k6]
 ·unfold unkV
  rw [if_pos k1]
  exact h
theorem fault_unk : ∀ {f : F} {prev : Option ByteArray} {L : List ByteArray}, faultF f prev L = none → faultF (f.mp unkV id) prev L = none
 | .nil, _, _, h => h
 | .cons nm v m ks r, prev, L, h => by
  obtain ⟨a, b, c, d⟩ := faultF_cons_none h
  rw [F.mp]
  unfold faultF
  rw [F.mp_len, if_neg (by rw [a]; simp), if_neg (by rw [show id m = m from rfl, own_unk b]; simp), fault_unk c]
  exact fault_unk d
theorem check_unk {v : Vd} {m : Md} {ks : F} (h : checkE v m ks = 0) : checkE (unkV v) m (ks.mp unkV id) = 0 := by
 obtain ⟨a, b⟩ := checkE_zero h
 exact checkE_of (by rw [F.mp_len]; exact own_unk a) (fault_unk b)
theorem unk_same {v : Vd} (h : v.kind ≠ 3 → v.mode = 8) : unkV v = v := by
 unfold unkV
 split
 ·rfl
 ·rename_i q
  have := h q
  cases v
  simp only at this
  rw [this]
theorem wrV_same {ver : Int} {v : Vd} {m : Md} (h : nrmV ver v m) : wrV ver v = v := by
 unfold wrV
 split
 ·rename_i q
  exact unk_same (h.1 q)
 ·rfl
theorem mp_same {ver : Int} (q : ver < 2) : ∀ {f : F}, nrmF ver f → f.mp unkV id = f
 | .nil, _ => rfl
 | .cons nm v m ks r, h => by rw [F.mp, mp_same q h.2.1, mp_same q h.2.2, unk_same (h.1.1 q)]; rfl
theorem wrF_same {ver : Int} {f : F} (h : nrmF ver f) : wrF ver f = f := by
 unfold wrF
 split
 ·rename_i q
  exact mp_same q h
 ·rfl
theorem size2 : ∀ {f : F} {prev : Option ByteArray} {L : List ByteArray}, faultF f prev L = none → 2 * f.size ≤ f.weight
 | .nil, _, _, _ => by simp [F.size, F.weight]
 | .cons nm v m ks r, prev, L, h => by
  obtain ⟨a, b, c, d⟩ := faultF_cons_none h
  have h1 := (of_decide_eq_true (placeE_zero a).2.1).1
  rw [tl_len] at h1
  have h2 := size2 c
  have h3 := size2 d
  simp only [F.size, F.weight]
  omega
structure Took (b : List Nat) (most : Int) : Prop where
 ver : 1 ≤ (opU b).1 ∧ (opU b).1 ≤ 3
 ok : DecOk (decN b most).1 (decN b most).2
 cnt : 1 + (decN b most).1.ks.size ≤ bnd most
 kind : (decN b most).1.v.kind = 1
 sz : (decN b most).1.ks.size ≤ 40000
 c : cOk (decN b most).1.v (decN b most).1.m
 g : gOk (decN b most).1.ks
 n : nOk (decN b most).1.ks
 unk : checkE (unkV (decN b most).1.v) (decN b most).1.m ((decN b most).1.ks.mp unkV id) = 0
 again : (decN b most).2.st.map (·.hash) = dirT (decN b most).1.v (decN b most).1.ks → arcW (opU b).1 (wrV (opU b).1 (decN b most).1.v) (decN b most).1.m (wrF (opU b).1 (decN b most).1.ks) = b
theorem took {b : List Nat} {most : Int} (hB : Su.Bytes b) (hl : b.length ≤ 65536) (hF : opF b = none) (hf : (decN b most).2.flt = none) : Took b most := by
 obtain ⟨⟨rA, r', h1, h2, h3⟩, h4, h5, h6, h7⟩ := dec_sound hB hF hf
 obtain ⟨hv, _⟩ := open_none hB hF
 have hst : (decN b most).2.st.length ≤ 200000 := by
  obtain ⟨X, S, _, _, x3, x4, _, _⟩ := h1.ex
  rw [h3, x3, h2, List.nil_append, x4]
  have : (dirT (decN b most).1.v (decN b most).1.ks).length ≤ 3 * (decN b most).1.ks.size + 1 := by
   unfold dirT dirs
   rw [List.length_map]
   exact Nat.le_trans (List.length_filter_le _ _) (hashT_few _ _)
  have := size2 (h1.kid [] rfl)
  omega
 have hD := decOk_of h1 h2 (by omega) (by rw [← h3]; omega)
 have hD2 : DecOk (decN b most).1 (decN b most).2 := ⟨hD.chk, hD.wt, hD.v, hD.f, by rw [h3]; exact hD.st, by omega, hD.sz⟩
 have hg := fault_gOk (h1.kid [] rfl) h1.byt.2
 have hs := size2 (h1.kid [] rfl)
 exact ⟨hv, hD2, h4, h5, by omega, own_cOk h1.own h1.byt.1, hg.1, hg.2, check_unk hD.chk, fun e => by rw [wrV_same h1.nrm.1, wrF_same h1.nrm.2]; exact (h7 e).symm⟩
attribute [local go_sem] Oper.semAt_some
theorem same_bytes (va vb : Value) (a b : List Nat) (w : World) (ha : Su.Has w va a) (hb : Su.Has w vb b) (hal : a.length ≤ 16777216) (hbl : b.length ≤ 16777216) :
  Calls Tryz.prog 20 #[va, vb] w fun x w' => x = .returned (.bool (decide (a = b))) ∧ ∃ n, w' = w.drewN n :=
 (Wi.same_any va vb (up a) (up b) w (has_up.2 ha) (has_up.2 hb) (by rw [up_len]; exact hal) (by rw [up_len]; exact hbl)).mono fun e w' ⟨h1, h2⟩ => ⟨by rw [h1, show decide (up a = up b) = decide (a = b) from decide_eq_decide.2 ⟨fun q => up_inj q, fun q => by rw [q]⟩], h2⟩
theorem assert72 (x : Value) (w : World) : (Instr.typeAssert (.iface 72 x) 41 72 true).run Tryz.prog w = .ok (.tuple #[x, .bool true]) w := by kernel_rfl
def fc (p : Int) (s : ByteArray) (e : Int) : Array Value := #[.int .i64 p, .string s, .int .i64 e]
theorem siz49 : (Tryz.prog.info? 49).map (·.size) = some 3 := by kernel_rfl
theorem results_told (tmps : Array Value) (w : World) (g : Nat) (cs : Array Value) (hp : tmps.getD 2 undef = .pointer (some ⟨g, 0, none⟩)) (hg : w.heap[g]? = some (.cells cs 49 (0, 0))) (hi : cs.size = 3) :
  (results Tryz.f17 tmps).run Tryz.prog w = .ok (.tuple #[.agg cs, tmps.getD 3 undef]) w := by
 have hp' : tmps[2]?.getD undef = .pointer (some ⟨g, 0, none⟩) := by simpa using hp
 have hr : Tryz.f17.results = #[.cell 2 49, .tmp 3] := rfl
 simp [results, hp', asAddr, run_loadVar_row w g 49 49 cs (0, 0) _ hg Tryz.underlying49 rfl (by rw [siz49, hi])]
theorem told_nil (w : World) : Calls Tryz.prog 17 #[.nilIface] w fun e w' => e = .returned (.tuple #[.agg (fc 0 ⟨#[]⟩ 0), .bool true]) ∧ G w w' := by
 go_enter Tryz.func17, Tryz.ntmps17
 go_wp2
 refine bodyPost_ret (results_told _ _ w.heap.size (fc 0 ⟨#[]⟩ 0) rfl (World.alloc_heap_new w _) rfl) rfl ⟨rfl, G.alloc _ _⟩
theorem told_some (fb : Nat) (p e : Int) (s : ByteArray) (w : World) (h : w.heap[fb]? = some (.cells (fc p s e) 93 (0, 0))) (he : e ≠ 0) :
  Calls Tryz.prog 17 #[.iface 72 (.pointer (some ⟨fb, 0, none⟩))] w fun x w' => x = .returned (.tuple #[.agg (fc p s e), .bool true]) ∧ G w w' := by
 have hta := assert72
 have heb : (e == 0) = false := by simpa using he
 have hlt : fb < w.heap.size := (gS h)
 have hne : fb ≠ w.heap.size := by omega
 have h' : ∀ o : Obj, (w.alloc o).heap[fb]? = some (.cells (fc p s e) 93 (0, 0)) := fun o => (Below.heap_alloc _ _ _ hlt).trans h
 have h0 : (w.alloc (.cells #[.int .i64 0, .string ⟨#[]⟩, .int .i64 0] 49)).cell? ⟨fb, 0, none⟩ = some (.int .i64 p) := by simp [World.cell?, h', fc]
 have h1 : (w.alloc (.cells #[.int .i64 0, .string ⟨#[]⟩, .int .i64 0] 49)).cell? ⟨fb, 1, none⟩ = some (.string s) := by simp [World.cell?, h', fc]
 have h2 : (w.alloc (.cells #[.int .i64 0, .string ⟨#[]⟩, .int .i64 0] 49)).cell? ⟨fb, 2, none⟩ = some (.int .i64 e) := by simp [World.cell?, h', fc]
 clear h h' he
 go_enter Tryz.func17, Tryz.ntmps17
 go_wp2
 refine wp_region_still_tail 13 Wi.Tryz.mixed (by kernel_rfl) ?_
 change wpStill _ _ (World.drew _) (fun a' => wpList _ _ _ _ a' (World.drew _)) _ _
 simp only [List.take_succ_cons, List.take_zero, List.drop_succ_cons, List.drop_zero]
 repeat still_step
 refine wpStill_nil ?_
 go_wp2
 refine bodyPost_ret (results_told _ _ w.heap.size (fc p s e) rfl (World.alloc_heap_new w _) rfl) rfl ⟨rfl, (G.alloc _ _).trans (G.drew _)⟩
end Go.Proofs.YtjikkhbcbfpocaaGreatDoor
namespace Go.Proofs.YtjikkhbcbfpocaaGreatDoor
open Go.RowKit Go.Shelf
def md8 (ver : Int) : F → Prop
 | .nil => True
 | .cons _ v _ ks r => (ver < 2 → v.kind ≠ 3 → v.mode = 8) ∧ md8 ver ks ∧ md8 ver r
def laO (prev : Option ByteArray) : ByteArray := prev.getD ⟨#[]⟩
theorem nOkB_of {prev : Option ByteArray} {nm : ByteArray} {lev : Nat} (h : placeE prev nm lev = 0) : nOkB (laO prev) nm = true := by
 obtain ⟨_, h2, h3⟩ := placeE_zero h
 unfold nOkB
 rw [h2, Bool.and_true]
 cases prev with
 | none =>
  have hne : nm.toList ≠ [] := fun e => by
   have h1 := (of_decide_eq_true h2).1
   rw [tl_len] at h1
   have h4 := tl_len nm
   unfold tl at h4
   rw [e] at h4
   simp only [lN] at h4
   omega
  show (!(Op.bytesLess nm.toList (⟨#[]⟩ : ByteArray).toList || nm.toList == (⟨#[]⟩ : ByteArray).toList)) = true
  have e0 : (⟨#[]⟩ : ByteArray).toList = [] := by rw [ByteArray.toList_eq]
  rw [e0, bytesLess_nil, Bool.false_or]
  simp [hne]
 | some p =>
  show (!leB nm p) = true
  have : leB nm p = false := h3
  rw [this]; rfl
theorem kids_at {l : List Int} {ver : Int} : ∀ (f : F) (n : Nat) (here : List ByteArray) (prev : Option ByteArray) (L : List ByteArray) (acc : F) (r : Rv) (Y : List Nat), faultF f prev L = none → here.length = L.length → L.length + 1 + n = 66 → md8 ver f → Okr r → (f.size : Int) ≤ r.left → r.left < 9223372036854775808 → l.drop r.s.p = up (encF ver f ++ Y) →
  ∃ S, kidL (nodeR l ver n (some here)) f.len acc (laO prev) r = (some (acc.app (f.mp id (mz ver))), fwd r (encF ver f).length f.size S) ∧ S.map (·.hash) = dirF f
 | .nil, n, here, prev, L, acc, r, Y, _, _, _, _, _, _, _, _ => by
  refine ⟨[], ?_, by unfold dirF; simp [hashF, dirs]⟩
  show (some acc, r) = _
  rw [F.mp, F.app_nil]
  unfold fwd
  simp [encF, F.size]
 | .cons nm v m ks rest, n, here, prev, L, acc, r, Y, hf, hhl, hn, h8, h0, hlo, hhi, hd => by
  obtain ⟨f1, f2, f3, f4⟩ := faultF_cons_none hf
  have hdp := (placeE_zero f1).1
  obtain ⟨n', rfl⟩ : ∃ n', n = n' + 1 := ⟨n - 1, by omega⟩
  rw [encF_cons, List.append_assoc] at hd
  have hsz : (F.cons nm v m ks rest).size = 1 + ks.size + rest.size := by simp only [F.size]; omega
  rw [hsz] at hlo
  obtain ⟨S1, e1, e2⟩ := node_step (l := l) (ver := ver) (n := n') (u := some here) (last := laO prev) (nm := nm) (r := r) (v := v) (m := m) (ks := ks) h0 (by omega) hhi (by show here.length + 1 ≤ 64; omega) (fun q => by cases q) (fun _ _ => nOkB_of f1) f2 h8.1 hd (fun r' Y' o lo hi hd' => by
   obtain ⟨S, q1, q2⟩ := kids_at ks n' (nm :: here) none (L ++ [nm]) .nil r' Y' f3 (by simp [hhl]) (by rw [lA]; simp only [lC, lN]; omega) h8.2.1 o lo hi hd'
   exact ⟨S, q1, q2⟩)
  have hd2 : l.drop (fwd r (encT ver (namB nm) v m ks).length (1 + ks.size) S1).s.p = up (encF ver rest ++ Y) := adv_drop hd
  obtain ⟨S2, e3, e4⟩ := kids_at rest (n' + 1) here (some nm) L (acc.app (.cons nm v (mz ver m) (ks.mp id (mz ver)) .nil)) (fwd r (encT ver (namB nm) v m ks).length (1 + ks.size) S1) Y f4 hhl hn h8.2.2 h0 (by show _ ≤ r.left - _; omega) (by show r.left - _ < _; omega) hd2
  refine ⟨S1 ++ S2, ?_, by rw [List.map_append, e2, e4, dirF_cons]⟩
  have hk : kidL (nodeR l ver (n' + 1) (some here)) (F.cons nm v m ks rest).len acc (laO prev) r = kidL (nodeR l ver (n' + 1) (some here)) rest.len (acc.app (.cons nm v (mz ver m) (ks.mp id (mz ver)) .nil)) nm (fwd r (encT ver (namB nm) v m ks).length (1 + ks.size) S1) := by
   rw [show (F.cons nm v m ks rest).len = rest.len + 1 from by simp only [F.len]]
   rw [kidL, if_neg (by simp [h0.2]), e1]
   rfl
  rw [hk]
  have e3 : kidL (nodeR l ver (n' + 1) (some here)) rest.len (acc.app (.cons nm v (mz ver m) (ks.mp id (mz ver)) .nil)) nm (fwd r (encT ver (namB nm) v m ks).length (1 + ks.size) S1) = _ := e3
  rw [e3, fwd_fwd, F.app_assoc, encF_cons, lA, hsz]
  rfl
theorem root_at {l : List Int} {ver : Int} {r : Rv} {v : Vd} {m : Md} {ks : F} {Y : List Nat} (h0 : Okr r) (hlo : ((1 + ks.size : Nat) : Int) ≤ r.left) (hhi : r.left < 9223372036854775808) (hk : v.kind = 1) (hc : checkE v m ks = 0) (h8 : (ver < 2 → v.mode = 8) ∧ md8 ver ks) (hd : l.drop r.s.p = up (encT ver [] v m ks ++ Y)) :
  ∃ S, nodeR l ver 66 none ⟨#[]⟩ r = (⟨⟨#[]⟩, v, mz ver m, ks.mp id (mz ver)⟩, fwd r (encT ver [] v m ks).length (1 + ks.size) S) ∧ S.map (·.hash) = dirT v ks := by
 obtain ⟨c1, c2⟩ := checkE_zero hc
 exact node_step (n := 65) (u := none) h0 hlo hhi (by decide) (fun _ => ⟨hk, rfl⟩) (fun _ q => by cases q) c1 (fun q _ => h8.1 q) hd fun r' Y' o lo hi hd' => kids_at ks 65 [] none [] .nil r' Y' c2 rfl rfl h8.2 o lo hi hd'
theorem le4_len (n : Nat) : (le4 n).length = 4 := rfl
theorem arcW_take (ver : Nat) (v : Vd) (m : Md) (ks : F) : (arcW ver v m ks).take ((arcW ver v m ks).length - 4) = arcB ver v m ks := by
 unfold arcW
 rw [lA, le4_len, Nat.add_sub_cancel, List.take_append_of_le_length (Nat.le_refl _), List.take_of_length_le (Nat.le_refl _)]
theorem arcW_drop (ver : Nat) (v : Vd) (m : Md) (ks : F) : (arcW ver v m ks).drop ((arcW ver v m ks).length - 4) = le4 (Su.Crc.crc (arcB ver v m ks)) := by
 unfold arcW
 rw [lA, le4_len, Nat.add_sub_cancel, List.drop_append, List.drop_of_length_le (Nat.le_refl _)]
 simp
theorem arcB_head (ver : Nat) (hv : ver < 128) (v : Vd) (m : Md) (ks : F) : arcB ver v m ks = [116, 119, 110, 101, ver] ++ (encN (1 + ks.size) ++ encT ver [] v m ks) := by
 unfold arcB
 rw [encN_small hv]
 rfl
theorem open_at {ver : Nat} (h1 : 1 ≤ ver) (h3 : ver ≤ 3) (v : Vd) (m : Md) (ks : F) : opU (arcW ver v m ks) = (ver, ⟨5, 0, 0⟩) ∧ opF (arcW ver v m ks) = none ∧ decL (arcW ver v m ks) = up (arcB ver v m ks) := by
 have hb : arcW ver v m ks = [116, 119, 110, 101] ++ (encN ver ++ (encN (1 + ks.size) ++ encT ver [] v m ks ++ le4 (Su.Crc.crc (arcB ver v m ks)))) := by
  unfold arcW
  rw [arcB_head ver (by omega), encN_small (n := ver) (by omega)]
  simp
 have hU : opU (arcW ver v m ks) = (ver, ⟨5, 0, 0⟩) := by
  have hd : (up (arcW ver v m ks)).drop 4 = up (encN ver ++ (encN (1 + ks.size) ++ encT ver [] v m ks ++ le4 (Su.Crc.crc (arcB ver v m ks)))) := by
   rw [hb, ← up_drop]
   rfl
  have hr : Wire.rd 0 ((up (arcW ver v m ks)).drop 4) = .ok ver (Wire.enc ver).length := by rw [hd, up_append, up_encN]; exact Wire.rd_enc _ (by omega)
  unfold opU Wi.uintS
  rw [if_neg (by simp), hr]
  simp only
  rw [if_pos h3, Wire.enc_lt (by omega)]
  rfl
 refine ⟨hU, ?_, ?_⟩
 ·have hm : opM (arcW ver v m ks) = true := by
   unfold opM
   rw [hb]
   rfl
  have hl : 9 ≤ (arcW ver v m ks).length := by
   rw [hb, encN_small (n := ver) (by omega)]
   simp only [lA, lC, lN, le4_len]
   omega
  unfold opF
  rw [hm, hU, if_neg (by simp), if_neg (by simp only; omega), if_neg (by simp only; omega), arcW_drop, arcW_take, if_pos rfl]
 ·unfold decL
  rw [arcW_take]
theorem decL_drop {ver : Nat} (h1 : 1 ≤ ver) (h3 : ver ≤ 3) (v : Vd) (m : Md) (ks : F) : (decL (arcW ver v m ks)).drop 5 = up (encN (1 + ks.size) ++ encT ver [] v m ks) := by
 rw [(open_at h1 h3 v m ks).2.2, ← up_drop, arcB_head ver (by omega)]
 rfl
theorem dec_at {ver : Nat} (h1 : 1 ≤ ver) (h3 : ver ≤ 3) {v : Vd} {m : Md} {ks : F} {most : Int} (hb : 1 + ks.size ≤ bnd most) (hk : v.kind = 1) (hc : checkE v m ks = 0) (h8 : ((ver : Int) < 2 → v.mode = 8) ∧ md8 ver ks) :
  (decN (arcW ver v m ks) most).1 = ⟨⟨#[]⟩, v, mz ver m, ks.mp id (mz ver)⟩ ∧ (decN (arcW ver v m ks) most).2.flt = none ∧ (decN (arcW ver v m ks) most).2.st.map (·.hash) = dirT v ks := by
 have hbl := bnd_le most
 obtain ⟨hU, _, hL⟩ := open_at h1 h3 v m ks
 have hd := decL_drop h1 h3 v m ks
 have hR : decR (arcW ver v m ks) = ⟨⟨5, 0, 0⟩, 0, none, []⟩ := by unfold decR; rw [hU]
 unfold decN
 rw [hR, hU]
 generalize hl : decL (arcW ver v m ks) = l at *
 have hr : Wire.rd 0 (l.drop 5) = .ok (1 + ks.size) (Wire.enc (1 + ks.size)).length := by rw [hd, up_append, up_encN]; exact Wire.rd_enc _ (by omega)
 have hu : Wi.uintS l ⟨5, 0, 0⟩ (bnd most) = (1 + ks.size, ⟨5 + (encN (1 + ks.size)).length, 0, 0⟩) := by
  unfold Wi.uintS
  rw [if_neg (by simp), hr]
  simp only
  rw [if_pos hb, encN_len]
 have hA : nodesA l (bnd most) ⟨⟨5, 0, 0⟩, 0, none, []⟩ = ⟨⟨5 + (encN (1 + ks.size)).length, 0, 0⟩, ((1 + ks.size : Nat) : Int), none, []⟩ := by
  unfold nodesA
  simp only [hu]
  rw [decide_eq_true (by omega : 0 < 1 + ks.size)]
  unfold boundR
  rw [if_neg (by simp), must_ok rfl]
 have hd2 : l.drop (5 + (encN (1 + ks.size)).length) = up (encT ver [] v m ks ++ []) := by
  rw [List.append_nil]
  exact adv_drop (r := ⟨⟨5, 0, 0⟩, 0, none, []⟩) hd
 obtain ⟨S, e1, e2⟩ := root_at (l := l) (ver := ver) (r := ⟨⟨5 + (encN (1 + ks.size)).length, 0, 0⟩, ((1 + ks.size : Nat) : Int), none, []⟩) (v := v) (m := m) (ks := ks) ⟨rfl, rfl⟩ (Int.le_refl _) (by show ((1 + ks.size : Nat) : Int) < _; omega) hk hc h8 hd2
 have hend : 5 + (encN (1 + ks.size)).length + (encT ver [] v m ks).length = l.length := by
  have hx := congrArg List.length hd
  rw [List.length_drop, up_len, lA] at hx
  have : 1 ≤ (encN (1 + ks.size)).length := by rw [encN_len]; exact Wire.enc_pos _
  omega
 unfold nodesR
 simp only
 rw [hA, e1]
 simp only
 have hE : nodesB l (fwd ⟨⟨5 + (encN (1 + ks.size)).length, 0, 0⟩, ((1 + ks.size : Nat) : Int), none, []⟩ (encT ver [] v m ks).length (1 + ks.size) S) = fwd ⟨⟨5 + (encN (1 + ks.size)).length, 0, 0⟩, ((1 + ks.size : Nat) : Int), none, []⟩ (encT ver [] v m ks).length (1 + ks.size) S := by
  have hs : Wi.endS l (fwd ⟨⟨5 + (encN (1 + ks.size)).length, 0, 0⟩, ((1 + ks.size : Nat) : Int), none, []⟩ (encT ver [] v m ks).length (1 + ks.size) S).s = (fwd ⟨⟨5 + (encN (1 + ks.size)).length, 0, 0⟩, ((1 + ks.size : Nat) : Int), none, []⟩ (encT ver [] v m ks).length (1 + ks.size) S).s := by
   unfold Wi.endS fwd
   simp only
   rw [if_neg (by simp), if_neg (by omega)]
  unfold nodesB
  rw [hs, must_ok (by rfl)]
 rw [hE]
 have hN : nodesE 5 (fwd ⟨⟨5 + (encN (1 + ks.size)).length, 0, 0⟩, ((1 + ks.size : Nat) : Int), none, []⟩ (encT ver [] v m ks).length (1 + ks.size) S) = fwd ⟨⟨5 + (encN (1 + ks.size)).length, 0, 0⟩, ((1 + ks.size : Nat) : Int), none, []⟩ (encT ver [] v m ks).length (1 + ks.size) S := by
  unfold nodesE fwd
  rw [if_neg (by simp only; omega)]
 refine ⟨trivial, ?_, ?_⟩
 ·show (nodesE 5 _).flt = none
  rw [hN]; rfl
 ·show (nodesE 5 _).st.map _ = _
  rw [hN]; exact e2
attribute [local go_sem] Oper.semAt_some
def kv7 : Vd := ⟨1, 7, 0, zeros, by simp [zeros]⟩
def kA : List Nat := arcW 3 kv7 Md.zero .nil
theorem kA_check : checkE kv7 Md.zero .nil = 0 := by decide
theorem kA_form : ∃ h c : List Nat, kA = [116, 119, 110, 101, 3, 1, 1, 7, 0] ++ (h ++ c) ∧ h.length = 32 ∧ c.length = 4 := by
 refine ⟨(hashT kv7 .nil).1, le4 (Su.Crc.crc (arcB 3 kv7 Md.zero .nil)), ?_, hashT_len _ _, rfl⟩
 unfold kA arcW
 generalize le4 (Su.Crc.crc (arcB 3 kv7 Md.zero .nil)) = c
 rw [arcB_head 3 (by decide)]
 unfold encT oneB
 rw [if_pos (show kv7.kind = 1 from rfl), show F.nil.size = 0 from rfl, show F.nil.len = 0 from rfl, encN_small (n := 0) (by decide), encN_small (n := 1 + 0) (by decide)]
 generalize (hashT kv7 .nil).1 = h
 simp [modB, encF, kv7]
theorem kA_len : kA.length = 45 := by
 obtain ⟨h, c, e, h1, h2⟩ := kA_form
 rw [e]
 simp [h1, h2]
theorem kA_take : kA.take 9 = [116, 119, 110, 101, 3, 1, 1, 7, 0] := by
 obtain ⟨h, c, e, h1, h2⟩ := kA_form
 rw [e]
 rfl
theorem kA_bytes : Su.Bytes kA := by
 have hc : cOk kv7 Md.zero := own_cOk (checkE_zero kA_check).1 zeros_bytes
 unfold kA arcW
 intro x hx
 rcases List.mem_append.1 hx with q | q
 ·exact arcB_bytes 3 hc (by trivial : gOk .nil) x q
 ·exact le4_bytes _ x q
theorem ErrT.up {w w' : World} (h : ErrT w) (hg : G w w') : ErrT w' := hg.cell h
theorem kA_dec : opF kA = none ∧ (opU kA).1 = 3 ∧ (decN kA 9).1 = ⟨⟨#[]⟩, kv7, Md.zero, .nil⟩ ∧ (decN kA 9).2.flt = none ∧ (decN kA 9).2.st.map (·.hash) = dirT kv7 .nil := by
 have h := open_at (ver := 3) (by decide) (by decide) kv7 Md.zero .nil
 have h2 := dec_at (ver := 3) (by decide) (by decide) (v := kv7) (m := Md.zero) (ks := .nil) (most := 9) (by decide) rfl kA_check ⟨fun q => absurd q (by decide), trivial⟩
 refine ⟨h.2.1, by unfold kA; rw [h.1], ?_, h2.2.1, h2.2.2⟩
 exact h2.1.trans (by simp [mz, F.mp])
theorem k_decode (v : Value) (W : World) (hv : Su.Has W v kA) (hTb : Su.Tabs W) (hTh : Su.Half W) (hE : ErrT W) (h1 : 1 < W.heap.size) :
  Calls Tryz.prog 13 #[v, .int .i64 9] W fun e w' => ∃ p k, e = .returned (.tuple #[.pointer (some ⟨p, 0, none⟩), .int .i64 3, .nilIface]) ∧ G W w' ∧ AtT w' p kv7 Md.zero k ∧ k.flat = .nil := by
 obtain ⟨d1, d2, d3, d4, d5⟩ := kA_dec
 refine (decode_any v kA 9 W hv kA_bytes hTh hTb hE h1 (by rw [kA_len]; decide) (fun _ => .inr (by rw [kA_len]; decide)) fun a b => (took kA_bytes (by rw [kA_len]; decide) a b).ok).mono ?_
 rintro e w' ⟨hg, hp⟩
 rcases hp with ⟨x, q, _⟩ | ⟨_, ⟨x, q, _⟩ | ⟨_, ⟨q, _⟩ | ⟨_, p, k, q1, q2, q3, _, _⟩⟩⟩
 ·rw [d1] at q; cases q
 ·rw [d4] at q; cases q
 ·exact absurd (by rw [d3]; exact d5) q
 ·rw [d2] at q1
  rw [d3] at q2 q3
  exact ⟨p, k, q1, hg, q2, q3⟩
theorem k_empty (W : World) (hTb : Su.Tabs W) (hTh : Su.Half W) (hE : ErrT W) (h1 : 1 < W.heap.size) :
  Calls Tryz.prog 13 #[.slice none 0 0, .int .i64 9] W fun e w' => ∃ fb, e = .returned (.tuple #[.pointer none, .int .i64 0, .iface 72 (.pointer (some ⟨fb, 0, none⟩))]) ∧ G W w' ∧ w'.heap[fb]? = some (.cells (fc 0 ⟨#[]⟩ 60) 93 (0, 0)) := by
 have hF : opF [] = some (0, 60) := by unfold opF opM; rfl
 refine (decode_any (.slice none 0 0) [] 9 W (Su.Has.nil W) (fun x hx => by cases hx) hTh hTb hE h1 (by decide) (fun q => by rw [hF] at q; cases q) fun q => by rw [hF] at q; cases q).mono ?_
 rintro e w' ⟨hg, hp⟩
 rcases hp with ⟨x, q, fb, q1, q2⟩ | ⟨q, _⟩
 ·rw [hF] at q
  cases q
  exact ⟨fb, q1, hg, q2⟩
 ·rw [hF] at q; cases q
theorem k_encode (p : Nat) (k : K) (W : World) (hT : AtT W p kv7 Md.zero k) (hk : k.flat = .nil) (hTb : Su.Tabs W) (hTh : Su.Half W) :
  Calls Tryz.prog 11 #[.pointer (some ⟨p, 0, none⟩), .int .i64 3, .int .i64 9] W fun e w' => ∃ a cap, e = .returned (.tuple #[.slice (some a) 45 cap, .int .i64 0]) ∧ G W w' ∧ Su.Has w' (.slice (some a) 45 cap) kA ∧ 45 ≤ cap := by
 have hc : cOk kv7 Md.zero := own_cOk (checkE_zero kA_check).1 zeros_bytes
 refine (encode_whole p kv7 Md.zero k W 3 9 hT hc (by rw [hk]; trivial) (by rw [hk]; trivial) (by rw [hk]; decide) (by rw [hk]; decide) (by rw [hk]; exact check_unk kA_check) hTb hTh).mono ?_
 rintro e w' h
 have h0 : encE 3 kv7.kind (1 + k.flat.size : Nat) 9 = 0 := by rw [hk]; decide
 rcases h with ⟨q, _⟩ | ⟨_, u, q1, q2, q3⟩
 ·exact absurd h0 q
 ·have e1 : arcW (3 : Int).toNat (wrV 3 kv7) Md.zero (wrF 3 k.flat) = kA := by rw [hk]; rfl
  rw [e1] at q2
  rcases q2.has with ⟨_, q⟩ | ⟨a, cap, rfl, h5, h6⟩
  ·have := kA_len; rw [q] at this; cases this
  ·have h7 : Su.Has w' (.slice (some a) kA.length cap) kA := .inr ⟨a, cap, rfl, h5, h6⟩
   rw [kA_len] at h5 h7 q1
   exact ⟨a, cap, q1, q3, h7, h5⟩
theorem has_take9 {w : World} {a : Addr} {cap : Nat} (h : Su.Has w (.slice (some a) 45 cap) kA) (hc : 45 ≤ cap) : Su.Has w (.slice (some a) 9 cap) [116, 119, 110, 101, 3, 1, 1, 7, 0] := by
 rcases h with ⟨q, _⟩ | ⟨a', cap', q, _, h6⟩
 ·cases q
 ·rw [Value.slice.injEq, Option.some.injEq] at q
  obtain ⟨rfl, _, rfl⟩ := q
  refine .inr ⟨a, cap, rfl, by show 9 ≤ cap; omega, fun i hi => ?_⟩
  have hi : i < 9 := hi
  rw [h6 i (by rw [kA_len]; omega), ← kA_take]
  congr 2
  rw [List.getD_eq_getElem?_getD, List.getD_eq_getElem?_getD, List.getElem?_take_of_lt hi]
end Go.Proofs.YtjikkhbcbfpocaaGreatDoor
