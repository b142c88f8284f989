import Derived.Test.YtjikkhbcbfpocaaGreatDoorBA
import Derived.Test.YtjikkhbcbfpocaaGreatDoorNB
namespace Go.Proofs.YtjikkhbcbfpocaaGreatDoor
open Go.RowKit Go.Shelf
theorem UO.setCells {b g:Nat}:∀ (vs:List Value) (o:Nat) (W:World),UO W b→UO (W.setCells g o vs) b
 | [],_,_,h=>h
 | v::r,o,_,h=>UO.setCells r (o+1) _ (h.set g o v)
theorem wI {w:World} {g o:Nat} {c d:Array Value} (h:Lies w g o c) (hs:c.size=41) (hd:d.size=41):Lies (w.setCells g o d.toList) g o d:=fun j u hj=>by
 have hlt:=(gS hj)
 have:=World.cell?_setCells_in g d.toList o w (fun i hi=>by rw [h i (c[i]'(by simp at hi;omega)) (by simp)];rfl) j (by simpa using hlt)
 rw [this,← hj]
 simp
theorem a0Q (nm:ByteArray) (v:Vd) (m:Md) (kv:Value) (j:Nat) (hj:¬ (j=2∧v.kind≠3)):(nc nm (unkV v) m kv)[j]?=(nc nm v m kv)[j]?:=by
 by_cases h3:v.kind=3
 ·unfold unkV;rw [if_pos h3]
 ·unfold unkV;rw [if_neg h3];exact ec _ _ _ _ _ (fun e=>hj ⟨e,h3⟩) _
theorem LeW.put {W:World} {g o:Nat} {nm:ByteArray} {v:Vd} {m:Md} {kv:Value} (hl:Lies W g o (nc nm v m kv)):LeW W (W.setCells g o (nc nm (unkV v) m kv).toList):=by
 obtain ⟨h1,h2,h3,h4,h5⟩:=OB.setCells g (nc nm (unkV v) m kv).toList o W
 refine ⟨h3,h4,h5,Nat.le_of_eq h1.symm,fun b i hb=>?_⟩
 have hin:=wI hl (jO ..) (jO nm (unkV v) m kv)
 by_cases hi:b=g∧o≤i∧i<o+41
 ·obtain ⟨rfl,hi1,hi2⟩:=hi
  obtain ⟨j,rfl⟩:∃ j,i=o+j:=⟨i-o,by omega⟩
  obtain ⟨u,hu⟩:∃ u,(nc nm v m kv)[j]?=some u:=⟨_,Array.getElem?_eq_getElem (by rw [jO];omega)⟩
  by_cases hj:j=2∧v.kind≠3
  ·obtain ⟨rfl,h3⟩:=hj
   refine .inr ⟨by omega,⟨nm,by have:=hl 0 _ (kY nm v m kv);simpa using this⟩,⟨v.kind,hl 1 _ (cf nm v m kv),h3⟩,⟨v.mode,hl 2 _ (zF nm v m kv)⟩,hin 2 _ ?_⟩
   unfold unkV;rw [if_neg h3];exact zF ..
  ·exact .inl ((hin j u ((a0Q nm v m kv j hj).trans hu)).trans (hl j u hu).symm)
 ·refine .inl (World.cell?_setCells_out g _ o W ⟨b,i,none⟩ fun e _=>?_)
  have e':b=g:=e
  have:¬ (o≤i∧i<o+41):=fun h=>hi ⟨e',h⟩
  show i<o∨o+(nc nm (unkV v) m kv).toList.length≤i
  rw [Array.length_toList,jO]
  omega
theorem Fg.put {W:World} {g o:Nat} {nm:ByteArray} {v:Vd} {m:Md} {kv:Value} (hl:Lies W g o (nc nm v m kv)) (P:Nat→Prop):Fg P g W (W.setCells g o (nc nm (unkV v) m kv).toList):=
 ⟨LeW.put hl,fun b _ _ h=>jV g _ _ _ b h,fun _ h=>UO.setCells _ _ _ h⟩
section
variable {ops:Array Oper} {Q:Exit→Act→World→Prop} {md:Region.Mode} {S:World→Prop}
end
theorem F.mp_mp (a c:Vd→Vd) (b d:Md→Md):∀ f:F,(f.mp a b).mp c d=f.mp (fun v=>c (a v)) (fun m=>d (b m))
 | .nil=>rfl
 | .cons _ _ _ ks r=>by simp only [F.mp,F.mp_mp a c b d ks,F.mp_mp a c b d r]
theorem a0U {a b:Int} (h:a≤b) (m:Md):mz b (mz a m)=mz a m:=by
 unfold mz
 by_cases h1:a<3
 ·rw [if_pos h1];split<;>rfl
 ·rw [if_neg h1,if_neg (by omega)]
theorem F.mp_id_mz {a b:Int} (h:a≤b) (f:F):(f.mp id (mz a)).mp id (mz b)=f.mp id (mz a):=by
 rw [F.mp_mp]
 have e:(fun m=>mz b (mz a m))=mz a:=funext fun m=>a0U h m
 rw [e]
 rfl
theorem fQ {ver:Int} (q:ver<2):∀ {f:F},md8 ver f→f.mp unkV id=f
 | .nil,_=>rfl
 | .cons nm v m ks r,h=>by rw [F.mp,fQ q h.2.1,fQ q h.2.2,eR (h.1 q)];rfl
theorem Ar.wv {ver:Nat} {v:Vd} {m:Md} {ks:F} (h:Ar ver v m ks) (tv:Int) (ht:(ver:Int)≤tv):wrV tv v=v:=by
 unfold wrV
 split
 ·exact eR fun _=>h.h8.1 (by omega)
 ·rfl
theorem mv (ver:Int) (g:Md→Md):∀ {f:F},md8 ver f→md8 ver (f.mp id g)
 | .nil,_=>trivial
 | .cons _ _ _ _ _,h=>⟨h.1,mv ver g h.2.1,mv ver g h.2.2⟩
theorem Ar.wf {ver:Nat} {v:Vd} {m:Md} {ks:F} (h:Ar ver v m ks) (tv:Int) (ht:(ver:Int)≤tv) (g:Md→Md):wrF tv (ks.mp id g)=ks.mp id g:=by
 unfold wrF
 split
 ·exact fQ (ver:=ver) (by omega) (mv _ g h.h8.2)
 ·rfl
theorem fR {a b:Int} (h:a≤b):∀ {f:F},md8 a f→md8 b f
 | .nil,_=>trivial
 | .cons _ _ _ _ _,k=>⟨fun q=>k.1 (by omega),fR h k.2.1,fR h k.2.2⟩
theorem Ar.later {ver tv:Nat} {v:Vd} {m:Md} {ks:F} (h:Ar ver v m ks) (ht:ver≤tv) (h3:tv≤3):Ar tv v (mz ver m) (ks.mp id (mz ver)):=by
 have hT:(ver:Int)≤tv:=by omega
 refine ⟨by have:=h.h1;omega,h3,h.hk,?_,⟨fun q=>h.h8.1 (by omega),fR hT (mv _ _ h.h8.2)⟩,h.hB,fi (fun _=>rfl) h.hb,by rw [F.mp_weight];exact h.hw⟩
 refine xd ?_ (xf ver (jn h.hc).2)
 rw [F.mp_len]
 exact ou ver (jn h.hc).1
theorem Ar.back {ver tv:Nat} {v:Vd} {m:Md} {ks:F} (_h:Ar ver v m ks) (ht:ver≤tv):mz tv (mz ver m)=mz ver m∧(ks.mp id (mz ver)).mp id (mz tv)=ks.mp id (mz ver):=⟨a0U (by omega) m,F.mp_id_mz (by omega) ks⟩
theorem Ar.enc {ver:Nat} {v:Vd} {m:Md} {ks:F} (h:Ar ver v m ks) {tv most:Int} (ht:(ver:Int)≤tv) (h3:tv≤3) (hb:1+ks.size≤bnd most):encE tv v.kind (1+(ks.mp id (mz ver)).size:Nat) most=0:=by
 have:=h.h1
 have:=iN most
 unfold encE
 rw [if_neg (by omega),if_neg (by rw [h.hk];decide),F.mp_size,if_neg (by omega)]
end Go.Proofs.YtjikkhbcbfpocaaGreatDoor
