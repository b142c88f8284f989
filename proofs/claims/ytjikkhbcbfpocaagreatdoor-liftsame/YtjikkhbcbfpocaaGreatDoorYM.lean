import Derived.Test.YtjikkhbcbfpocaaGreatDoorBA
import Derived.Test.YtjikkhbcbfpocaaGreatDoorNB
namespace Go.Proofs.YtjikkhbcbfpocaaGreatDoor
open Go.RowKit Go.Shelf
theorem LeW.ofG {W w':World} (h:G W w'):LeW W w':=⟨h.os,h.tape,h.output,h.size,fun _ _ hb=>.inl (Below.cell (B:=W.heap.size) h hb)⟩
theorem UO.ofG {W w':World} (h:G W w') {b:Nat} (hb:UO W b):UO w' b:=by
 obtain ⟨c,t,hc⟩:=hb
 exact ⟨c,t,(Below.block (B:=W.heap.size) h b (ga hc).1).trans hc⟩
theorem Fg.ofG {W w':World} (h:G W w') (P:Nat→Prop) (g:Nat):Fg P g W w':=⟨LeW.ofG h,fun b hb _ _=>Below.block (B:=W.heap.size) h b hb,fun _ hb=>hb.ofG h⟩
theorem UO.setCells {b g:Nat}:∀ (vs:List Value) (o:Nat) (W:World),UO W b→UO (W.setCells g o vs) b
 | [],_,_,h=>h
 | v::r,o,_,h=>UO.setCells r (o+1) _ (h.set g o v)
theorem pW {w:World} {g o:Nat} {c d:Array Value} (h:Lies w g o c) (hs:c.size=41) (hd:d.size=41):Lies (w.setCells g o d.toList) g o d:=fun j u hj=>by
 have hlt:=(ga hj).1
 have:=World.cell?_setCells_in g d.toList o w (fun i hi=>by rw [h i (c[i]'(by simp at hi;omega)) (by simp)];rfl) j (by simpa using hlt)
 rw [this,← hj]
 simp
theorem wH (nm:ByteArray) (v:Vd) (m:Md) (kv:Value) (j:Nat) (hj:¬ (j=2∧v.kind≠3)):(nc nm (unkV v) m kv)[j]?=(nc nm v m kv)[j]?:=by
 by_cases h3:v.kind=3
 ·unfold unkV;rw [if_pos h3]
 ·unfold unkV;rw [if_neg h3];exact eC _ _ _ _ _ (fun e=>hj ⟨e,h3⟩) _
theorem LeW.put {W:World} {g o:Nat} {nm:ByteArray} {v:Vd} {m:Md} {kv:Value} (hl:Lies W g o (nc nm v m kv)):LeW W (W.setCells g o (nc nm (unkV v) m kv).toList):=by
 obtain ⟨h1,h2,h3,h4,h5⟩:=OB.setCells g (nc nm (unkV v) m kv).toList o W
 refine ⟨h3,h4,h5,Nat.le_of_eq h1.symm,fun b i hb=>?_⟩
 have hin:=pW hl (jO ..) (jO nm (unkV v) m kv)
 by_cases hi:b=g∧o≤i∧i<o+41
 ·obtain ⟨rfl,hi1,hi2⟩:=hi
  obtain ⟨j,rfl⟩:∃ j,i=o+j:=⟨i-o,by omega⟩
  obtain ⟨u,hu⟩:∃ u,(nc nm v m kv)[j]?=some u:=⟨_,Array.getElem?_eq_getElem (by rw [jO];omega)⟩
  by_cases hj:j=2∧v.kind≠3
  ·obtain ⟨rfl,h3⟩:=hj
   refine .inr ⟨by omega,⟨nm,by have:=hl 0 _ (kO nm v m kv);simpa using this⟩,⟨v.kind,hl 1 _ (aO nm v m kv),h3⟩,⟨v.mode,hl 2 _ (yv nm v m kv)⟩,hin 2 _ ?_⟩
   unfold unkV;rw [if_neg h3];exact yv ..
  ·exact .inl ((hin j u ((wH nm v m kv j hj).trans hu)).trans (hl j u hu).symm)
 ·refine .inl (World.cell?_setCells_out g _ o W ⟨b,i,none⟩ fun e _=>?_)
  have e':b=g:=e
  have:¬ (o≤i∧i<o+41):=fun h=>hi ⟨e',h⟩
  show i<o∨o+(nc nm (unkV v) m kv).toList.length≤i
  rw [Array.length_toList,jO]
  omega
theorem Fg.put {W:World} {g o:Nat} {nm:ByteArray} {v:Vd} {m:Md} {kv:Value} (hl:Lies W g o (nc nm v m kv)) (P:Nat→Prop):Fg P g W (W.setCells g o (nc nm (unkV v) m kv).toList):=
 ⟨LeW.put hl,fun b _ _ h=>jU g _ _ _ b h,fun _ h=>UO.setCells _ _ _ h⟩
theorem Fg.into {P:Nat→Prop} {g g':Nat} {A B C:World} (h:Fg P g A B) (k:Fg P g' B C) (hg:A.heap.size≤g'∨P g'):Fg P g A C:=
 ⟨h.le.trans k.le,fun b hb h1 h2=>(k.oth b (Nat.lt_of_lt_of_le hb h.le.size) h1 (fun e=>by rcases hg with x | x;omega;exact h1 (e ▸ x))).trans (h.oth b hb h1 h2),fun b hb=>k.uo b (h.uo b hb)⟩
section
variable {ops:Array Oper} {Q:Exit→Act→World→Prop} {md:Region.Mode} {S:World→Prop}
end
def RowP (W:World) (P:Nat→Prop) (a:Option Addr) (ks:F):Prop:=ks=.nil∨∃ g o,a=some ⟨g,o,none⟩∧P g∧kG W P ks g o
def UI (P:Nat→Prop) (B:Nat) (cm:Array Value) (W:World) (ks:F) (a:Option Addr) (wr:World) (k:Nat):Prop:=
 (Var wr B cm∧Var wr (B+1) z30∧Fg P B W wr∧B+2≤wr.heap.size)∧(ks=.nil∨∃ g o,a=some ⟨g,o,none⟩∧P g∧FI P B W ks g o wr k)
theorem UI.start {P:Nat→Prop} {B:Nat} {cm:Array Value} {W:World} {ks:F} {a:Option Addr} {wr:World} (h1:Var wr B cm) (h2:Var wr (B+1) z30) (hF:Fg P B W wr) (hs:B+2≤wr.heap.size) (hr:RowP W P a ks):UI P B cm W ks a wr 0:=by
 refine ⟨⟨h1,h2,hF,hs⟩,hr.imp id ?_⟩
 rintro ⟨g,o,ha,hP,h⟩
 obtain ⟨f',e1,_,h1⟩:=hF.le.row h
 exact ⟨g,o,ha,hP,hF,by rw [F.take_zero];trivial,f',by rw [F.drop_zero];exact e1,by simpa using h1⟩
theorem UI.step {P:Nat→Prop} {B:Nat} {cm:Array Value} {W:World} {ks:F} {g o:Nat} {wr wd w5:World} {k:Nat} (h:Var wr B cm∧Var wr (B+1) z30∧Fg P B W wr∧B+2≤wr.heap.size) (hFI:FI P B W ks g o wr k) (hP:P g) (hPB:∀ b,P b→b<B∧UO wr b) (hD:G wr wd)
  {nm:ByteArray} {v:Vd} {m:Md} {k1 r:F} {a:Option Addr} {cap:Nat} (hd:((ks.mp unkV id).drop k)=.cons nm (unkV v) m (k1.mp unkV id) r) (hl:Lies wr g (o+k*41) (nc nm v m (.slice a k1.len cap))) (hcap:k1.len≤cap) (hF:Fg P wd.heap.size wd w5) (hr:RowP w5 P a (k1.mp unkV id)):
  (Var w5 B cm∧w5.there g (o+k*41) 41)∧UI P B cm W ks (some ⟨g,o,none⟩) (w5.setCells g (o+k*41) (nc nm (unkV v) m (.slice a k1.len cap)).toList) (k+1):=by
 obtain ⟨h1,h2,h3,h4⟩:=h
 have hsd:=hD.size
 have hgB:=(hPB g hP).1
 have nB:∀ x,B≤x→¬ P x:=fun x hx hp=>by have:=(hPB x hp).1;omega
 have v1:Var w5 B cm:=(hF.oth B (by omega) (nB B (Nat.le_refl _)) (by omega)).trans (h1.grow hD)
 have v2:Var w5 (B+1) z30:=(hF.oth (B+1) (by omega) (nB _ (by omega)) (by omega)).trans (h2.grow hD)
 obtain ⟨v',hv',hl5⟩:=hF.le.node (Lies.below hl hD)
 have eu:unkV v'=unkV v:=by rcases hv' with e | e;rw [e];rw [e,xX]
 have hu5:UO w5 g:=hF.uo g ((hPB g hP).2.ofG hD)
 have hput:=Fg.put hl5 P
 have hin:=pW hl5 (jO ..) (jO nm (unkV v) m (.slice a k1.len cap))
 rw [eu] at hput
 have hFw:Fg P g wr (w5.setCells g (o+k*41) (nc nm (unkV v) m (.slice a k1.len cap)).toList):=((Fg.ofG hD P g).into hF (.inl hsd)).into hput (.inr hP)
 refine ⟨⟨v1,fun j hj=>⟨by rw [hl5 j _ (Array.getElem?_eq_getElem (by rw [jO];exact hj))];rfl,by obtain ⟨c,t,e⟩:=hu5;simp [World.frozen?,e]⟩⟩,⟨?_,?_,h3.into hFw (.inr hP),?_⟩,.inr ⟨g,o,rfl,hP,?_⟩⟩
 ·exact (jU g _ _ _ B (by omega)).trans v1
 ·exact (jU g _ _ _ (B+1) (by omega)).trans v2
 ·rw [qo];have:=hF.le.size;omega
 ·refine hFI.step hP hd hFw hin hcap ?_
  rcases hr with e | ⟨g2,o2,ha,hp2,h⟩
  ·left
   cases k1 with
   | nil=>rfl
   | cons _ _ _ _ _=>cases e
  ·exact .inr ⟨g2,o2,ha,hp2,hput.le.done h⟩
theorem UI.fin {P:Nat→Prop} {B:Nat} {cm:Array Value} {W:World} {ks:F} {a:Option Addr} {wr:World} (h:UI P B cm W ks a wr ks.len) (hPB:∀ b,P b→b<B) (hwB:W.heap.size=B) (c:Array Value):Fg P B W (wr.setRow (B+1) c)∧RowP (wr.setRow (B+1) c) P a (ks.mp unkV id):=by
 obtain ⟨⟨h1,h2,h3,h4⟩,hr⟩:=h
 have hb:Below W.heap.size wr (wr.setRow (B+1) c):=⟨rfl,rfl,rfl,by simp,fun b hb=>setRow_other _ (B+1) b _ (by omega)⟩
 refine ⟨⟨⟨h3.le.os,h3.le.tape,h3.le.output,by simpa using h3.le.size,fun b i hlt=>?_⟩,fun b hlt x y=>(hb.block b hlt).trans (h3.oth b hlt x y),fun b hu=>?_⟩,?_⟩
 ·have e:(wr.setRow (B+1) c).cell? ⟨b,i,none⟩=wr.cell? ⟨b,i,none⟩:=Below.cell hb hlt
  rw [e]
  exact h3.le.cell b i hlt
 ·obtain ⟨c',t,e⟩:=h3.uo b hu
  exact ⟨c',t,(hb.block b hu.lt).trans e⟩
 ·rcases hr with e | ⟨g,o,ha,hp,hf⟩
  ·subst e;exact .inl rfl
  ·refine .inr ⟨g,o,ha,hp,?_⟩
   have h5:=hf.2.1
   rw [F.xP _ _ (by rw [F.mp_len];exact Nat.le_refl _)] at h5
   exact h5.keep (fun b hb'=>⟨hb.block b (by have:=hPB b hb';omega),hb'⟩) (hb.block g (by have:=hPB g hp;omega))
theorem F.mp_mp (a c:Vd→Vd) (b d:Md→Md):∀ f:F,(f.mp a b).mp c d=f.mp (fun v=>c (a v)) (fun m=>d (b m))
 | .nil=>rfl
 | .cons _ _ _ ks r=>by simp only [F.mp,F.mp_mp a c b d ks,F.mp_mp a c b d r]
def Dst (w W:World) (B:Nat) (c:Array Value):Prop:=Var W B c∧Var W (B+1) z30∧G w W∧B+2≤W.heap.size
theorem Dst.put {w W W':World} {B:Nat} {c c':Array Value} {P:Nat→Prop} {nm:ByteArray} {v:Vd} {m:Md} {ks:F} (h:Dst w W B c) (hB:w.heap.size=B) (hg:Below (B+2) W W') (hn:xr W' P c' nm v m ks) (hP:∀ b,P b→B+2≤b):
  Dst w (W'.setRow B c') B c'∧xr (W'.setRow B c') P c' nm v m ks:=by
 obtain ⟨h1,h2,h3,h4⟩:=h
 have v1:Var W' B c:=(hg.block B (by omega)).trans h1
 have hs:=hg.size
 refine ⟨⟨v1.set,(setRow_other _ B (B+1) _ (by omega)).trans ((hg.block _ (by omega)).trans h2),?_,by simpa using (by omega:B+2≤W'.heap.size)⟩,?_⟩
 ·exact Below.trans (B:=w.heap.size) h3 ⟨hg.os,hg.tape,hg.output,by simpa using hs,fun b hb=>(setRow_other _ B b _ (by omega)).trans (hg.block b (by omega))⟩
 ·obtain ⟨kv,e,hk⟩:=hn
  exact ⟨kv,e,hk.keep fun b hb=>⟨setRow_other _ B b _ (by have:=hP b hb;omega),hb⟩⟩
theorem lm (g:Md→Md) (v:Vd) (f:F):jk v (f.mp id g)=jk v f:=by
 unfold jk
 rw [bA]
theorem wM {a b:Int} (h:a≤b) (m:Md):mz b (mz a m)=mz a m:=by
 unfold mz
 by_cases h1:a<3
 ·rw [if_pos h1];split<;>rfl
 ·rw [if_neg h1,if_neg (by omega)]
theorem pu (ver:Int) (m:Md):marB ver (mz ver m)=marB ver m:=by
 unfold marB mz
 split
 ·rfl
 ·rfl
theorem ic (ver:Int):∀ f:F,encF ver (f.mp id (mz ver))=encF ver f
 | .nil=>rfl
 | .cons nm v m ks r=>by
  rw [F.mp,encF,encF,ic ver ks,ic ver r,F.mp_len,lm]
  unfold oneB
  rw [show id v=v from rfl,pu]
theorem uz (ver:Int) (nm:List Nat) (v:Vd) (m:Md) (f:F):encT ver nm v (mz ver m) (f.mp id (mz ver))=encT ver nm v m f:=by
 unfold encT oneB
 rw [ic,F.mp_len,lm,pu]
theorem vA (ver:Nat) (v:Vd) (m:Md) (ks:F):arcW ver v (mz ver m) (ks.mp id (mz ver))=arcW ver v m ks:=by
 unfold arcW arcB
 rw [uz,F.mp_size]
theorem F.mp_id_mz {a b:Int} (h:a≤b) (f:F):(f.mp id (mz a)).mp id (mz b)=f.mp id (mz a):=by
 rw [F.mp_mp]
 have e:(fun m=>mz b (mz a m))=mz a:=funext fun m=>wM h m
 rw [e]
 rfl
theorem em {ver:Int} (q:ver<2):∀ {f:F},md8 ver f→f.mp unkV id=f
 | .nil,_=>rfl
 | .cons nm v m ks r,h=>by rw [F.mp,em q h.2.1,em q h.2.2,io (h.1 q)];rfl
theorem Ar.wv {ver:Nat} {v:Vd} {m:Md} {ks:F} (h:Ar ver v m ks) (tv:Int) (ht:(ver:Int)≤tv):wrV tv v=v:=by
 unfold wrV
 split
 ·exact io fun _=>h.h8.1 (by omega)
 ·rfl
theorem ln (ver:Int) (g:Md→Md):∀ {f:F},md8 ver f→md8 ver (f.mp id g)
 | .nil,_=>trivial
 | .cons _ _ _ _ _,h=>⟨h.1,ln ver g h.2.1,ln ver g h.2.2⟩
theorem Ar.wf {ver:Nat} {v:Vd} {m:Md} {ks:F} (h:Ar ver v m ks) (tv:Int) (ht:(ver:Int)≤tv) (g:Md→Md):wrF tv (ks.mp id g)=ks.mp id g:=by
 unfold wrF
 split
 ·exact em (ver:=ver) (by omega) (ln _ g h.h8.2)
 ·rfl
theorem ep {a b:Int} (h:a≤b):∀ {f:F},md8 a f→md8 b f
 | .nil,_=>trivial
 | .cons _ _ _ _ _,k=>⟨fun q=>k.1 (by omega),ep h k.2.1,ep h k.2.2⟩
theorem Ar.later {ver tv:Nat} {v:Vd} {m:Md} {ks:F} (h:Ar ver v m ks) (ht:ver≤tv) (h3:tv≤3):Ar tv v (mz ver m) (ks.mp id (mz ver)):=by
 have hT:(ver:Int)≤tv:=by omega
 refine ⟨by have:=h.h1;omega,h3,h.hk,?_,⟨fun q=>h.h8.1 (by omega),ep hT (ln _ _ h.h8.2)⟩,h.hB,fI (fun _=>rfl) h.hb,by rw [F.mp_weight];exact h.hw⟩
 refine xL ?_ (xN ver (jl h.hc).2)
 rw [F.mp_len]
 exact nk ver (jl h.hc).1
theorem Ar.back {ver tv:Nat} {v:Vd} {m:Md} {ks:F} (_h:Ar ver v m ks) (ht:ver≤tv):mz tv (mz ver m)=mz ver m∧(ks.mp id (mz ver)).mp id (mz tv)=ks.mp id (mz ver):=⟨wM (by omega) m,F.mp_id_mz (by omega) ks⟩
theorem Ar.enc {ver:Nat} {v:Vd} {m:Md} {ks:F} (h:Ar ver v m ks) {tv most:Int} (ht:(ver:Int)≤tv) (h3:tv≤3) (hb:1+ks.size≤bnd most):encE tv v.kind (1+(ks.mp id (mz ver)).size:Nat) most=0:=by
 have:=h.h1
 have:=dr most
 unfold encE
 rw [if_neg (by omega),if_neg (by rw [h.hk];decide),F.mp_size,if_neg (by omega)]
end Go.Proofs.YtjikkhbcbfpocaaGreatDoor
