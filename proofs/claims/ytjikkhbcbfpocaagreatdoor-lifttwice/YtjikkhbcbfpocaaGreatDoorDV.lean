import Derived.Test.YtjikkhbcbfpocaaGreatDoorKL
set_option maxRecDepth 100000
set_option maxHeartbeats 4000000
namespace Go.Proofs.YtjikkhbcbfpocaaGreatDoor
open Go.RowKit Go.Shelf
attribute [local go_sem] Oper.semAt_some
theorem UO.set {W:World} {b:Nat} (h:UO W b) (g i:Nat) (x:Value):UO (W.setCell ⟨g,i,none⟩ x) b:=by
 obtain ⟨c,t,h⟩:=h
 by_cases e:b=g
 ·subst e
  refine ⟨c.setIfInBounds i x,t,?_⟩
  unfold World.setCell
  simp only []
  rw [Array.getElem?_modify]
  simp [h]
 ·exact ⟨c,t,(Below.heap_setCell _ _ _ _ e).trans h⟩
theorem LeW.store {W:World} {g o:Nat} {nm:ByteArray} {v:Vd} {m:Md} {kv:Value} (hl:Lies W g o (nc nm v m kv)) (hk:v.kind≠3):LeW W (W.setCell ⟨g,o+2,none⟩ (.int .i64 8)):=by
 refine ⟨rfl,rfl,rfl,Nat.le_of_eq (World.size_setCell ..).symm,fun b i _=>?_⟩
 have c2:=hl 2 _ (zF nm v m kv)
 by_cases e:(⟨g,o+2,none⟩:Addr)=⟨b,i,none⟩
 ·cases e
  exact .inr ⟨by omega,⟨nm,by have:=hl 0 _ (kY nm v m kv);simpa using this⟩,⟨v.kind,hl 1 _ (cf nm v m kv),hk⟩,⟨v.mode,c2⟩,World.cell?_setCell_same (h:=c2) ..⟩
 ·exact .inl (World.cell?_setCell_other (h:=e) ..)
structure Fg (P:Nat→Prop) (g:Nat) (W w':World):Prop where
 le:LeW W w'
 oth:∀ b,b<W.heap.size→¬ P b→b≠g→w'.heap[b]?=W.heap[b]?
 uo:∀ b,UO W b→UO w' b
theorem Fg.refl (P:Nat→Prop) (g:Nat) (W:World):Fg P g W W:=⟨LeW.refl W,fun _ _ _ _=>rfl,fun _ h=>h⟩
theorem Fg.trans {P:Nat→Prop} {g g':Nat} {A B C:World} (h:Fg P g A B) (k:Fg P g' B C) (hg:P g'):Fg P g A C:=
 ⟨h.le.trans k.le,fun b hb h1 h2=>(k.oth b (Nat.lt_of_lt_of_le hb h.le.size) h1 fun e=>h1 (e ▸ hg)).trans (h.oth b hb h1 h2),fun b hb=>k.uo b (h.uo b hb)⟩
theorem Fg.store {P:Nat→Prop} {W:World} {g o:Nat} {nm:ByteArray} {v:Vd} {m:Md} {kv:Value} (hl:Lies W g o (nc nm v m kv)) (hk:v.kind≠3):Fg P g W (W.setCell ⟨g,o+2,none⟩ (.int .i64 8)):=
 ⟨LeW.store hl hk,fun _ _ _ h=>Below.heap_setCell _ _ _ _ h,fun _ h=>h.set _ _ _⟩
theorem tF {W:World} {g o:Nat} {nm:ByteArray} {v:Vd} {m:Md} {kv:Value} (hl:Lies W g o (nc nm v m kv)) (hk:v.kind≠3):Lies (W.setCell ⟨g,o+2,none⟩ (.int .i64 8)) g o (nc nm (unkV v) m kv):=by
 intro j u hu
 unfold unkV at hu
 rw [if_neg hk] at hu
 have c2:=hl 2 _ (zF nm v m kv)
 by_cases hj:j=2
 ·subst hj
  have:u=.int .i64 8:=by rw [zF] at hu;cases hu;rfl
  rw [this];exact World.cell?_setCell_same (h:=c2) ..
 ·rw [ec _ _ _ _ _ hj] at hu
  rw [World.cell?_setCell_other (h:=fun e=>hj (by simp only [Addr.mk.injEq,true_and,and_true] at e;omega)) ..]
  exact hl j u hu
theorem LeW.unk {W W':World} {g o:Nat} {nm:ByteArray} {v:Vd} {m:Md} {a:Option Addr} {n c:Nat} (h:LeW W W') (hl:Lies W g o (nc nm (unkV v) m (.slice a n c))):Lies W' g o (nc nm (unkV v) m (.slice a n c)):=by
 obtain ⟨v',hv,hc'⟩:=h.node hl
 rcases hv with e | e
 ·rw [e] at hc';exact hc'
 ·rw [e,xu] at hc';exact hc'
theorem F.mp_size (fv:Vd→Vd) (fm:Md→Md):∀ f:F,(f.mp fv fm).size=f.size
 | .nil=>rfl
 | .cons _ _ _ ks r=>by simp only [F.mp,F.size,F.mp_size fv fm ks,F.mp_size fv fm r]
theorem kR.snoc {W:World} {P:Nat→Prop} {nm:ByteArray} {v:Vd} {m:Md} {ks:F}:∀ {f:F} {g o:Nat},kR W P f g o→kR W P (.cons nm v m ks .nil) g (o+f.len*41)→kR W P (f.app (.cons nm v m ks .nil)) g o
 | .nil,g,o,_,h=>by simpa [F.len,F.app] using h
 | .cons _ _ _ _ r,g,o,⟨h1,h2⟩,h=>⟨h1,kR.snoc (f:=r) h2 (by rw [show o+41+r.len*41=o+(r.len+1)*41 from by omega];exact h)⟩
theorem F.mp_take (fv:Vd→Vd) (fm:Md→Md):∀ (f:F) (k:Nat),(f.mp fv fm).take k=(f.take k).mp fv fm
 | f,0=>by rw [F.take_zero,F.take_zero];rfl
 | .nil,k+1=>rfl
 | .cons _ _ _ _ r,k+1=>by show F.cons _ _ _ _ ((r.mp fv fm).take k)=_;rw [F.mp_take fv fm r k];rfl
def FI (P:Nat→Prop) (g:Nat) (W:World) (ks:F) (g' o':Nat) (wr:World) (k:Nat):Prop:=Fg P g W wr∧kR wr P ((ks.mp unkV id).take k) g' o'∧∃ fr:F,fr.mp unkV id=(ks.mp unkV id).drop k∧kR wr P fr g' (o'+k*41)
theorem FI.at {P:Nat→Prop} {g:Nat} {W:World} {ks:F} {g' o':Nat} {wr:World} {k:Nat} (h:FI P g W ks g' o' wr k) (hk:k<ks.len):∃ nm v m k1 r a cap,((ks.mp unkV id).drop k)=.cons nm (unkV v) m (k1.mp unkV id) r∧Lies wr g' (o'+k*41) (nc nm v m (.slice a k1.len cap))∧k1.len≤cap∧(k1=.nil∨∃ g2 o2,a=some ⟨g2,o2,none⟩∧P g2∧kR wr P k1 g2 o2)∧k1.size<ks.size:=by
 obtain ⟨_,_,fr,e,hr⟩:=h
 cases fr with
 | nil=>
  exfalso
  have h1:((ks.mp unkV id).drop k).len=0:=by rw [← e];rfl
  rw [F.xg,F.mp_len] at h1
  omega
 | cons nm v m k1 r=>
  obtain ⟨⟨a,cap,hc,hl,hk1⟩,_⟩:=hr
  refine ⟨nm,v,m,k1,r.mp unkV id,a,cap,e.symm,hc,hl,hk1,?_⟩
  have h1:((ks.mp unkV id).drop k).size≤(ks.mp unkV id).size:=F.br _ _
  rw [← e,F.mp_size,F.mp_size] at h1
  simp only [F.size] at h1
  omega
theorem FI.step {P:Nat→Prop} {g:Nat} {W:World} {ks:F} {g' o':Nat} {wr w2:World} {k:Nat} (h:FI P g W ks g' o' wr k) (hP:P g') {nm:ByteArray} {v:Vd} {m:Md} {k1 r:F} {a:Option Addr} {cap:Nat} (hd:((ks.mp unkV id).drop k)=.cons nm (unkV v) m (k1.mp unkV id) r)
  (hF:Fg P g' wr w2) (hl:Lies w2 g' (o'+k*41) (nc nm (unkV v) m (.slice a k1.len cap))) (hcap:k1.len≤cap) (hk:k1=.nil∨∃ g2 o2,a=some ⟨g2,o2,none⟩∧P g2∧kR w2 P (k1.mp unkV id) g2 o2):FI P g W ks g' o' w2 (k+1):=by
 obtain ⟨h1,h2,fr,e,hr⟩:=h
 have hk2:k<(ks.mp unkV id).len:=by
  have h1:=F.xg (ks.mp unkV id) k
  rw [hd] at h1
  simp only [F.len] at h1
  omega
 have ht1:=F.xh _ k _ _ _ _ _ hd
 have ht2:=F.bP (ks.mp unkV id) k (by omega)
 have hts:(ks.mp unkV id).take k=(ks.take k).mp unkV id:=F.mp_take unkV id ks k
 have hds:(ks.mp unkV id).drop (k+1)=r:=by
  obtain ⟨_,_,_,_,h1⟩:=F.bt _ k hk2
  rw [hd] at h1
  cases h1
  rfl
 refine ⟨h1.trans hF hP,?_,?_⟩
 ·rw [ht1]
  refine kR.snoc (by rw [hts] at h2 ⊢;exact hF.le.done h2) ?_
  rw [ht2]
  refine ⟨⟨a,cap,by rw [F.mp_len];exact hl,by rw [F.mp_len];exact hcap,?_⟩,trivial⟩
  rcases hk with e | h
  ·subst e;exact .inl rfl
  ·exact .inr h
 ·cases fr with
  | nil=>rw [hd] at e;cases e
  | cons n1 v1 m1 q1 r1=>
   obtain ⟨_,hr1⟩:=hr
   obtain ⟨r',e1,_,hr'⟩:=hF.le.row hr1
   refine ⟨r',?_,by rw [show o'+(k+1)*41=o'+k*41+41 from by omega];exact hr'⟩
   rw [hd] at e
   rw [e1,hds]
   simp only [F.mp,F.cons.injEq] at e
   exact e.2.2.2.2
def FgOk (ks:F):Prop:=∀ (P:Nat→Prop) (g o cap:Nat) (nm:ByteArray) (v:Vd) (m:Md) (a:Option Addr) (W:World),Lies W g o (nc nm v m (.slice a ks.len cap))→ks.len≤cap→(ks=.nil∨∃ g' o',a=some ⟨g',o',none⟩∧P g'∧kR W P ks g' o')→UO W g→(∀ b,P b→UO W b)→ks.len≤100000→
  Calls Tryz.prog 59 #[.pointer (some ⟨g,o,none⟩)] W fun e w'=>e=.returned (.tuple #[])∧Fg P g W w'∧Lies w' g o (nc nm (unkV v) m (.slice a ks.len cap))∧(ks=.nil∨∃ g' o',a=some ⟨g',o',none⟩∧P g'∧kR w' P (ks.mp unkV id) g' o')
theorem iY (ks:F) (ih:∀ k':F,k'.size<ks.size→FgOk k') (hsz:ks.size≤100000):FgOk ks:=by
 intro P g o cap nm v m a W hl hcap hk hu hP hlen
 have c1:=hl 1 _ (cf nm v m _)
 have HL:=hid (⟨hl,hcap,hu,hP,hk,hsz,hlen⟩:_∧_∧_∧_∧_∧_∧_)
 have fz:W.frozen? ⟨g,o+1+1,none⟩=false:=by obtain ⟨c,t,h⟩:=hu;simp [World.frozen?,h]
 have c2:W.cell? ⟨g,o+1+1,none⟩=some (.int .i64 v.mode):=hl 2 _ (zF nm v m _)
 obtain ⟨n,hn⟩:∃ n,ks.len=n:=⟨_,rfl⟩
 have HIH:=hid ih
 have HN:=hid hn
 clear hl hcap hu hP ih hk hsz hlen
 by_cases h3:v.kind=3
 ·have HW1:Hid (Fg P g W W∧Lies W g o (nc nm (unkV v) m (.slice a ks.len cap))):=⟨Fg.refl ..,by unfold unkV;rw [if_pos h3];exact HL.o.1⟩
  rw [h3] at c1
  have l40:=HW1.o.2 40 _ (yJ ..)
  rw [hn] at l40
  clear hn
  go_enter Tryz.func59,Tryz.ntmps59
  go_upto_region 2 with fail
  go_wp2_with fail
  rcases HL.o.2.2.2.2.1 with e | ⟨g',o',ha,hPg,hr⟩
  ·obtain rfl:n=0:=by rw [← HN.o,e];rfl
   go_loopw [18] (fun i wr=>i=.int .i64 0∧wr=W) (fun _ _=>0)
   case atStart=>exact ⟨rfl,rfl⟩
   case round=>
    obtain ⟨rfl,rfl⟩:=hrel
    go_wp2_with fail
    go_end0
    exact ⟨rfl,HW1.o.1,HW1.o.2,.inl e⟩
  ·subst ha
   have hn9:n≤100000:=by rw [← HN.o];exact HL.o.2.2.2.2.2.2
   have HG:=hid (⟨hPg,hr⟩:_∧_)
   clear hPg hr
   go_loopw [18] (fun i wr=>∃ k:Nat,i=.int .i64 k∧k≤n∧Hid (FI P g W ks g' o' wr k∧Lies wr g o (nc nm (unkV v) m (.slice (some ⟨g',o',none⟩) ks.len cap)))) (fun i _=>n-iOf i)
   case atStart=>
    obtain ⟨f',e1,_,h1⟩:=HW1.o.1.le.row HG.o.2
    exact ⟨0,rfl,by omega,⟨HW1.o.1,by rw [F.take_zero];trivial,f',by rw [F.drop_zero];exact e1,by simpa using h1⟩,HW1.o.2⟩
   case round=>
    obtain ⟨k,rfl,hk,HR⟩:=hrel
    by_cases hk2:k<n
    ·have hkI:(k:Int)<n:=by omega
     obtain ⟨nm1,v1,m1,k1,r1,a1,cap1,hd,hl1,hcap1,hkk,hs1⟩:=HR.o.1.at (by rw [HN.o];exact hk2)
     have CF:=HIH.o k1 hs1 P g' (o'+k*41) cap1 nm1 v1 m1 a1 wr hl1 hcap1 hkk (HR.o.1.1.uo _ (HL.o.2.2.2.1 g' HG.o.1)) (fun b hb=>HR.o.1.1.uo _ (HL.o.2.2.2.1 b hb)) (by have:=k1.len_le_size;have:=HL.o.2.2.2.2.2.1;omega)
     have j40:=HR.o.2 40 _ (yJ ..)
     rw [HN.o] at j40
     have HD:=hid (⟨hd,hcap1⟩:_∧_)
     clear hd hl1 hcap1 hkk hs1
     go_wp2_with (go_at_call 59;refine CF.mono ?_;rintro e w2 ⟨rfl,hF,hl2,hk3⟩;have HQ:=hid (⟨hF,hl2,hk3⟩:_∧_∧_);clear hF hl2 hk3 CF)
     go_roundw
     case rel=>
      refine ⟨k+1,by go_num,by omega,?_⟩
      exact ⟨HR.o.1.step HG.o.1 HD.o.1 HQ.o.1 HQ.o.2.1 HD.o.2 HQ.o.2.2,HQ.o.1.le.unk HR.o.2⟩
     case measure=>simp;omega
    ·have hkI:¬ (k:Int)<n:=by omega
     obtain rfl:k=n:=by omega
     go_wp2_with fail
     go_end0
     refine ⟨rfl,HR.o.1.1,HR.o.2,.inr ⟨g',o',by simp,HG.o.1,?_⟩⟩
     have h1:=HR.o.1.2.1
     rwa [F.eU _ _ (by rw [F.mp_len,HN.o];exact Nat.le_refl _)] at h1
 ·have HW1:Hid (Fg P g W (W.setCell ⟨g,o+1+1,none⟩ (.int .i64 8))∧Lies (W.setCell ⟨g,o+1+1,none⟩ (.int .i64 8)) g o (nc nm (unkV v) m (.slice a ks.len cap))):=⟨Fg.store HL.o.1 h3,tF HL.o.1 h3⟩
  have l40:=HW1.o.2 40 _ (yJ ..)
  rw [hn] at l40
  clear hn
  have hb:(v.kind !=3)=true:=by simpa using h3
  go_enter Tryz.func59,Tryz.ntmps59
  go_upto_region 2 with fail
  generalize W.setCell ⟨g,o+1+1,none⟩ (.int .i64 8)=W1 at *
  go_wp2_with fail
  rcases HL.o.2.2.2.2.1 with e | ⟨g',o',ha,hPg,hr⟩
  ·obtain rfl:n=0:=by rw [← HN.o,e];rfl
   go_loopw [18] (fun i wr=>i=.int .i64 0∧wr=W1) (fun _ _=>0)
   case atStart=>exact ⟨rfl,rfl⟩
   case round=>
    obtain ⟨rfl,rfl⟩:=hrel
    go_wp2_with fail
    go_end0
    exact ⟨rfl,HW1.o.1,HW1.o.2,.inl e⟩
  ·subst ha
   have hn9:n≤100000:=by rw [← HN.o];exact HL.o.2.2.2.2.2.2
   have HG:=hid (⟨hPg,hr⟩:_∧_)
   clear hPg hr
   go_loopw [18] (fun i wr=>∃ k:Nat,i=.int .i64 k∧k≤n∧Hid (FI P g W ks g' o' wr k∧Lies wr g o (nc nm (unkV v) m (.slice (some ⟨g',o',none⟩) ks.len cap)))) (fun i _=>n-iOf i)
   case atStart=>
    obtain ⟨f',e1,_,h1⟩:=HW1.o.1.le.row HG.o.2
    exact ⟨0,rfl,by omega,⟨HW1.o.1,by rw [F.take_zero];trivial,f',by rw [F.drop_zero];exact e1,by simpa using h1⟩,HW1.o.2⟩
   case round=>
    obtain ⟨k,rfl,hk,HR⟩:=hrel
    by_cases hk2:k<n
    ·have hkI:(k:Int)<n:=by omega
     obtain ⟨nm1,v1,m1,k1,r1,a1,cap1,hd,hl1,hcap1,hkk,hs1⟩:=HR.o.1.at (by rw [HN.o];exact hk2)
     have CF:=HIH.o k1 hs1 P g' (o'+k*41) cap1 nm1 v1 m1 a1 wr hl1 hcap1 hkk (HR.o.1.1.uo _ (HL.o.2.2.2.1 g' HG.o.1)) (fun b hb=>HR.o.1.1.uo _ (HL.o.2.2.2.1 b hb)) (by have:=k1.len_le_size;have:=HL.o.2.2.2.2.2.1;omega)
     have j40:=HR.o.2 40 _ (yJ ..)
     rw [HN.o] at j40
     have HD:=hid (⟨hd,hcap1⟩:_∧_)
     clear hd hl1 hcap1 hkk hs1
     go_wp2_with (go_at_call 59;refine CF.mono ?_;rintro e w2 ⟨rfl,hF,hl2,hk3⟩;have HQ:=hid (⟨hF,hl2,hk3⟩:_∧_∧_);clear hF hl2 hk3 CF)
     go_roundw
     case rel=>
      refine ⟨k+1,by go_num,by omega,?_⟩
      exact ⟨HR.o.1.step HG.o.1 HD.o.1 HQ.o.1 HQ.o.2.1 HD.o.2 HQ.o.2.2,HQ.o.1.le.unk HR.o.2⟩
     case measure=>simp;omega
    ·have hkI:¬ (k:Int)<n:=by omega
     obtain rfl:k=n:=by omega
     go_wp2_with fail
     go_end0
     refine ⟨rfl,HR.o.1.1,HR.o.2,.inr ⟨g',o',by simp,HG.o.1,?_⟩⟩
     have h1:=HR.o.1.2.1
     rwa [F.eU _ _ (by rw [F.mp_len,HN.o];exact Nat.le_refl _)] at h1
theorem dh:∀ (n:Nat) (ks:F),ks.size<n→ks.size≤100000→FgOk ks
 | 0,_,h,_=>absurd h (Nat.not_lt_zero _)
 | n+1,ks,h,hs=>iY ks (fun k' hk=>dh n k' (by omega) (by omega)) hs
theorem ig (p:Nat) (v:Vd) (m:Md) (k:K) (w:World) (ver:Int) (hv:ver<2) (hT:AtT w p v m k) (hsz:k.flat.size≤100000) (hw:k.flat.weight≤100000) (hE:qL (unkV v) m (k.flat.mp unkV id)=0):
  Calls Tryz.prog 34 #[.pointer (some ⟨p,0,none⟩),.int .i64 ver] w fun e w'=>∃ p2 k2,e=.returned (.pointer (some ⟨p2,0,none⟩))∧AtT w' p2 (unkV v) m k2∧k2.flat=k.flat.mp unkV id∧G w w':=by
 have CN:=zb (k.flat.size+1) k (Nat.lt_succ_self _) p v m w hT hsz
 have HH:=hid (⟨hsz,hw,hE⟩:_∧_∧_)
 have hv2:¬ (2≤ver):=by omega
 clear hT hsz hw hE hv
 go_enter Tryz.func34,Tryz.ntmps34
 go_upto_region 4 with (first
  | (go_at_call 15;refine CN.mono ?_;rintro e w2 ⟨c',rfl,hN,hg2⟩;have HF:=hid hN.facts;have HN:=hid (⟨hN,hg2⟩:_∧_);clear hN hg2 CN;obtain ⟨B,hB⟩:∃ B,w2.heap.size=B:=⟨_,rfl⟩)
  | ((with_reducible refine jF (.pointer (some ⟨B,0,none⟩)) (w2.alloc (.cells z30 30)) ?_ ?_);exact qH rfl w2 B hB)
  | ((with_reducible refine jC ((w2.alloc (.cells z30 30)).setRow B c') ?_ ?_);exact jL 30 _ _ rfl B c' z30 rfl rfl _ (by rw [← hB];exact World.alloc_heap_new w2 _) (by rw [HF.o.1];kernel_rfl) (by rw [jN,HF.o.1]) HF.o.2))
 try simp only [Act.put,List.setIfInBounds_toArray,List.set_cons_zero,List.set_cons_succ]
 have N4:=qX w2 30 z30 c'
 rw [hB] at N4
 generalize (w2.alloc (.cells z30 30)).setRow B c'=w4 at *
 obtain ⟨kv,hc,ka,kcap,hkv,hcap,hks⟩:=HN.o.1
 subst hkv
 have hlB:Lies w4 B 0 (nc ⟨#[]⟩ v m (.slice ka k.flat.len kcap)):=by rw [← hc];exact jD N4.2.1
 have hB2:w.heap.size≤B:=by have:=HN.o.2.size;omega
 have CF:=dh (k.flat.size+1) k.flat (Nat.lt_succ_self _) HH.o.1 (NewC w w2) B 0 kcap _ v m ka w4 hlB hcap (hks.imp id fun ⟨g',o',h1,h2,h3⟩=>⟨g',o',h1,h2,h3.keep (fun b hb=>⟨by obtain ⟨_,o,ho,_⟩:=hb;exact N4.1.block b (gS ho),hb⟩) (by obtain ⟨_,o,ho,_⟩:=h2;exact N4.1.block g' (gS ho))⟩) ⟨_,_,N4.2.1⟩ (fun b hb=>by
  obtain ⟨_,o,ho,hp⟩:=hb
  have h1:=(N4.1.block b (gS ho)).trans ho
  cases o with
  | cells c t fr=>
   have:fr=(0,0):=by simpa [zI] using hp
   subst this
   exact ⟨c,t,h1⟩
  | _=>cases hp) (by have:=k.flat.len_le_size;have:=HH.o.1;omega)
 have H4:=hid (⟨N4,hB2,hcap⟩:_∧_∧_)
 clear hlB N4 hks hcap hc HF
 go_upto_region 5 with (go_at_call 59;refine CF.mono ?_;rintro e w5 ⟨rfl,hF,hl5,hk5⟩;have H5:=hid (⟨hF,hl5,hk5⟩:_∧_∧_);clear hF hl5 hk5 CF)
 have hN5:HasN w5 (nc ⟨#[]⟩ (unkV v) m (.slice ka k.flat.len kcap)) ⟨#[]⟩ (unkV v) m (k.flat.mp unkV id):=by
  refine ⟨_,rfl,ka,kcap,by rw [F.mp_len],by rw [F.mp_len];exact H4.o.2.2,?_⟩
  rcases H5.o.2.2 with e | ⟨g',o',h1,_,h3⟩
  ·rw [e];exact .inl rfl
  ·exact .inr ⟨g',o',h1,h3.has⟩
 have CO:=cY _ _ _ _ _ w5 hN5 (by rw [F.mp_weight];exact HH.o.2.1)
 rw [HH.o.2.2] at CO
 have HL5:=hid (H5.o.2.1)
 clear hN5
 have hsz5:(nc ⟨#[]⟩ (unkV v) m (.slice ka k.flat.len kcap)).size=41:=jO ..
 generalize nc ⟨#[]⟩ (unkV v) m (.slice ka k.flat.len kcap)=C5 at *
 go_upto_region 6 with (first
  | ((with_reducible refine jA (.agg C5) ?_ ?_);exact jK _ rfl B 0 rfl C5 hsz5 HL5.o)
  | (go_at_call 29;refine CO.mono ?_;rintro e w6 ⟨u,rfl,hg6,hr⟩;obtain ⟨h0,_⟩ | ⟨_,p2,k2,rfl,hA,hfl,_,_⟩:=hr;exact absurd rfl h0;have H6:=hid (⟨hg6,hA,hfl⟩:_∧_∧_);clear hg6 hA hfl CO))
 go_wp2
 refine bodyPost_ret (results_tmp rfl _ _ _) rfl ⟨p2,k2,rfl,H6.o.2.1,H6.o.2.2,?_⟩
 have g5:G w w5:=by
  have hg4:G w w4:=HN.o.2.trans H4.o.1.1
  have hF:=H5.o.1
  exact Below.trans (B:=w.heap.size) hg4 ⟨hF.le.os,hF.le.tape,hF.le.output,hF.le.size,fun b hb=>hF.oth b (by have:=hg4.size;omega) (fun h=>by have:=h.1;omega) (fun e=>by have:=H4.o.2.1;omega)⟩
 exact g5.trans H6.o.1
end Go.Proofs.YtjikkhbcbfpocaaGreatDoor
namespace Go.Proofs.YtjikkhbcbfpocaaGreatDoor
open Go.RowKit Go.Shelf
def wrV (ver:Int) (v:Vd):Vd:=if ver<2 then unkV v else v
def wrF (ver:Int) (f:F):F:=if ver<2 then f.mp unkV id else f
theorem cOk.unk {v:Vd} {m:Md} (h:cOk v m):cOk (unkV v) m:=by
 unfold unkV
 split
 ·exact h
 ·exact ⟨h.1,⟨⟨by show (0:Int)≤8;omega,by show (8:Int)<_;omega⟩,h.2.1.2⟩,⟨by show (0:Int)≤8;omega,by show (8:Int)<_;omega⟩,h.2.2.2⟩
theorem gOk.unk:∀ {f:F},gOk f→gOk (f.mp unkV id)
 | .nil,_=>trivial
 | .cons _ _ _ _ _,h=>⟨h.1,h.2.1.unk,gOk.unk h.2.2.1,gOk.unk h.2.2.2⟩
theorem nOk.unk:∀ {f:F},nOk f→nOk (f.mp unkV id)
 | .nil,_=>trivial
 | .cons _ _ _ _ _,h=>⟨h.1,nOk.unk h.2.1,nOk.unk h.2.2⟩
theorem pT {w:World} {lo lo':Nat} {u:Value} {l:List Nat} (h:Su.Owns w lo u l) (hl:lo'≤lo):Su.Owns w lo' u l:=by
 obtain ⟨h1,h | ⟨g,cap,cur,h2,h3,h4⟩⟩:=h
 ·exact ⟨h1,.inl h⟩
 ·exact ⟨h1,.inr ⟨g,cap,cur,h2,Nat.le_trans hl h3,h4⟩⟩
theorem pU {ver kind count most:Int} (h:encE ver kind count most=0):1≤ver∧ver≤3∧kind=1∧count≤min (max most 1) 1048576:=by
 unfold encE at h
 split at h
 ·omega
 ·split at h
  ·omega
  ·split at h
   ·omega
   ·omega
theorem zW (p:Nat) (v:Vd) (m:Md) (k:K) (w:World) (ver most:Int) (hT:AtT w p v m k) (hc:cOk v m) (hg:gOk k.flat) (hn:nOk k.flat) (hsz:k.flat.size≤40000) (hw:k.flat.weight≤100000) (hE:qL (unkV v) m (k.flat.mp unkV id)=0) (hTb:Su.Tabs w) (hTh:Su.Half w):
  Calls Tryz.prog 11 #[.pointer (some ⟨p,0,none⟩),.int .i64 ver,.int .i64 most] w fun e w'=>(encE ver v.kind (1+k.flat.size:Nat) most≠0∧e=.returned (.tuple #[.slice none 0 0,.int .i64 (encE ver v.kind (1+k.flat.size:Nat) most)])∧G w w')∨
   (encE ver v.kind (1+k.flat.size:Nat) most=0∧∃ u,e=.returned (.tuple #[u,.int .i64 0])∧Su.Owns w' w.heap.size u (arcW ver.toNat (wrV ver v) m (wrF ver k.flat))∧G w w'):=by
 refine nN p v m k w ver most hT (by omega) (fun u w'=>Su.Owns w' w.heap.size u (arcW ver.toNat (wrV ver v) m (wrF ver k.flat))∧G w w') fun h0 W hG=>?_
 obtain ⟨h1,h2,hk,_⟩:=pU h0
 obtain ⟨n,rfl⟩:∃ n:Nat,ver=n:=⟨ver.toNat,by omega⟩
 have key:∀ (p2:Nat) (v2:Vd) (k2:K) (w2:World),AtT w2 p2 v2 m k2→v2.kind=1→cOk v2 m→gOk k2.flat→nOk k2.flat→k2.flat.size≤40000→G w w2→Calls Tryz.prog 33 #[.pointer (some ⟨p2,0,none⟩),.int .i64 (n:Int)] w2 fun e w''=>∃ u,e=.returned u∧Su.Owns w'' w.heap.size u (arcW n v2 m k2.flat)∧G w w'':=by
  intro p2 v2 k2 w2 hA hk2 hc2 hg2 hn2 hs2 hG2
  have hl:=mB n (by omega) hc2 hg2 hn2 (by omega)
  refine (iZ p2 v2 m k2 w2 n (by omega) hA hk2 hc2 hg2 (by omega) (hTb.up hG2) (hTh.below hG2 hTh.size) (by omega) (dl n hc2 hg2)).mono ?_
  rintro e w3 ⟨u,rfl,ho,hG3⟩
  exact ⟨u,rfl,pT ho hG2.size,hG2.trans hG3⟩
 by_cases hv:(n:Int)<2
 ·refine (ig p v m k W n hv (hT.grow hG) (by omega) hw hE).mono ?_
  rintro e w2 ⟨p2,k2,rfl,hA,hf,hG2⟩
  refine ⟨p2,rfl,?_⟩
  have:=key p2 (unkV v) k2 w2 hA (by rw [dB];exact hk) hc.unk (by rw [hf];exact hg.unk) (by rw [hf];exact hn.unk) (by rw [hf,F.mp_size];exact hsz) (hG.trans hG2)
  unfold wrV wrF
  rw [if_pos hv,if_pos hv,← hf]
  exact this
 ·refine (gC p n (by omega) W).mono ?_
  rintro e w2 ⟨rfl,rfl⟩
  refine ⟨p,rfl,?_⟩
  have:=key p v k w2 (hT.grow hG) hk hc hg hn hsz hG
  unfold wrV wrF
  rw [if_neg hv,if_neg hv]
  exact this
theorem yD {n s:Int} (h:qD n s=true):(0≤n∧n<9223372036854775808)∧(0≤s∧s<9223372036854775808):=by
 unfold qD at h
 have:=of_decide_eq_true h
 omega
theorem bi {v:Vd} {m:Md} {b:Bool} (h:ownE v m b=0) (hB:Su.Bytes v.sum):cOk v m:=by
 unfold ownE at h
 by_cases c1:v.kind≠1∧v.kind≠2∧v.kind≠3
 ·rw [if_pos c1] at h;omega
 ·rw [if_neg c1] at h
  by_cases c2:b=true∧v.kind≠1
  ·rw [if_pos c2] at h;omega
  ·rw [if_neg c2] at h
   by_cases c3:jm v=false
   ·rw [if_pos c3] at h;omega
   ·rw [if_neg c3] at h
    have c3:jm v=true:=by simpa using c3
    have hkind:v.kind=1∨v.kind=2∨v.kind=3:=by omega
    have hv:(0≤v.mode∧v.mode≤8)∧(0≤v.size∧v.size≤1099511627775):=by
     unfold jm at c3
     rcases hkind with e | e | e
     ·rw [if_pos e] at c3;have:=of_decide_eq_true c3;omega
     ·rw [if_neg (by omega),if_pos e] at c3;have:=of_decide_eq_true c3;omega
     ·rw [if_neg (by omega),if_neg (by omega),if_pos e] at c3;have:=of_decide_eq_true c3;omega
    have hm:mOk m:=by
     by_cases e:v.kind=2
     ·by_cases c4:v.kind=2∧(qD m.n0 m.s0=false∨qD m.n1 m.s1=false)
      ·rw [if_pos c4] at h;omega
      ·have a1:qD m.n0 m.s0=true:=by
        cases q:qD m.n0 m.s0 with
        | true=>rfl
        | false=>exact absurd ⟨e,.inl q⟩ c4
       have a2:qD m.n1 m.s1=true:=by
        cases q:qD m.n1 m.s1 with
        | true=>rfl
        | false=>exact absurd ⟨e,.inr q⟩ c4
       exact ⟨(yD a1).1,(yD a1).2,(yD a2).1,(yD a2).2⟩
     ·rw [if_neg (fun q=>e q.1)] at h
      by_cases c5:v.kind≠2∧m≠Md.zero
      ·rw [if_pos c5] at h;omega
      ·have:m=Md.zero:=Classical.byContradiction fun q=>c5 ⟨e,q⟩
       rw [this]
       unfold mOk Md.zero
       simp
    exact ⟨hkind,⟨⟨hv.1.1,by omega⟩,⟨hv.2.1,by omega⟩,hB⟩,⟨hv.1.1,by omega⟩,hm⟩
theorem xL {prev:Option ByteArray} {nm:ByteArray} {lev:Nat} (h:qo prev nm lev=0):lev≤64∧kz (tl nm)=true∧leP nm prev=false:=by
 unfold qo at h
 split at h
 ·omega
 ·split at h
  ·omega
  ·split at h
   ·omega
   ·rename_i q1 q2 q3
    exact ⟨by omega,by simpa using q2,by simpa using q3⟩
theorem dc {nm:ByteArray} (h:kz (tl nm)=true):nm.size≤255:=by
 have:=(of_decide_eq_true h).2.1
 rwa [qp] at this
theorem kC {nm:ByteArray} {v:Vd} {m:Md} {ks r:F} {prev:Option ByteArray} {L:List ByteArray} (h:jc (.cons nm v m ks r) prev L=none):qo prev nm (L.length+1)=0∧ownE v m (decide (0<ks.len))=0∧jc ks none (L++[nm])=none∧jc r (some nm) L=none:=by
 unfold jc at h
 split at h
 ·cases h
 ·split at h
  ·cases h
  ·rename_i q1 q2
   cases hk:jc ks none (L++[nm]) with
   | some x=>rw [hk] at h;cases h
   | none=>
    rw [hk] at h
    exact ⟨by omega,by omega,rfl,h⟩
theorem yk:∀ {f:F} {prev:Option ByteArray} {L:List ByteArray},jc f prev L=none→bytF f→gOk f∧nOk f
 | .nil,_,_,_,_=>⟨trivial,trivial⟩
 | .cons nm v m ks r,prev,L,h,hb=>by
  obtain ⟨a,b,c,d⟩:=kC h
  have hs:=dc (xL a).2.1
  have h1:=yk c hb.2.1
  have h2:=yk d hb.2.2
  exact ⟨⟨by omega,bi b hb.1,h1.1,h2.1⟩,⟨hs,h1.2,h2.2⟩⟩
theorem bj:∀ {f:F} {prev:Option ByteArray} {L:List ByteArray} {x:List ByteArray × Int},jc f prev L=some x→x.2≠0
 | .nil,_,_,_,h=>by cases h
 | .cons nm v m ks r,prev,L,x,h=>by
  unfold jc at h
  split at h
  ·rename_i q
   cases h
   exact q
  ·split at h
   ·rename_i q1 q
    cases h
    exact q
   ·cases hk:jc ks none (L++[nm]) with
    | some y=>
     rw [hk] at h
     cases h
     exact bj hk
    | none=>
     rw [hk] at h
     exact bj h
theorem jn {v:Vd} {m:Md} {ks:F} (h:qL v m ks=0):ownE v m (decide (0<ks.len))=0∧jc ks none []=none:=by
 unfold qL qR at h
 split at h
 ·rename_i q
  exact absurd h q
 ·rename_i q
  refine ⟨by omega,?_⟩
  cases hk:jc ks none [] with
  | none=>rfl
  | some x=>
   rw [hk] at h
   exact absurd h (bj hk)
theorem xd {v:Vd} {m:Md} {ks:F} (h1:ownE v m (decide (0<ks.len))=0) (h2:jc ks none []=none):qL v m ks=0:=by
 unfold qL qR
 rw [if_neg (by omega),h2]
 rfl
theorem aU {n:Nat} (h:n<128):encN n=[n]:=by
 unfold encN
 rw [Wire.dE h]
 rfl
def Okr (r:Rv):Prop:=r.s.fe=0∧r.flt=none
def adv (r:Rv) (k:Nat):Rv:={ r with s:=⟨r.s.p+k,r.s.fa,r.s.fe⟩ }
theorem Okr.adv {r:Rv} (h:Okr r) (k:Nat):Okr (adv r k):=h
theorem zP (r:Rv) (a b:Nat):adv (adv r a) b=adv r (a+b):=by unfold adv;simp only [Nat.add_assoc]
theorem qG {l:List Int} {r:Rv} {X Y:List Nat} (h:l.drop r.s.p=up (X++Y)):l.drop (adv r X.length).s.p=up Y:=by
 show l.drop (r.s.p+X.length)=_
 rw [← List.drop_drop,h,qb,List.drop_append,kK]
 simp [up]
theorem xM {a:Int} {r:Rv} (h:r.s.fe=0):kT a true r=r:=by unfold kT;rw [if_neg (by simp [h])]
theorem fd {l:List Int} {least:Int} {most n:Nat} {r:Rv} {Y:List Nat} (h0:Okr r) (hd:l.drop r.s.p=up (encN n++Y)) (h1:least≤(n:Int)) (h2:n≤most) (h3:n<18446744073709551616):numR l least most r=(n,adv r (encN n).length):=by
 have hr:Wire.rd 0 (l.drop r.s.p)=.ok n (Wire.enc n).length:=by rw [hd,qb,xP];exact Wire.gz _ h3
 have hu:Wi.uintS l r.s most=(n,⟨r.s.p+(encN n).length,r.s.fa,r.s.fe⟩):=by
  unfold Wi.uintS
  rw [if_neg (by rw [h0.1];simp),hr]
  simp only
  rw [if_pos h2,yY]
 unfold numR
 rw [hu]
 simp only
 rw [decide_eq_true h1,xM (r:=⟨⟨r.s.p+(encN n).length,r.s.fa,r.s.fe⟩,r.left,r.flt,r.st⟩) h0.1]
 rfl
theorem wn {h:List Nat} (hl:h.length=32):b32 (up h)=h:=by
 unfold b32
 rw [if_pos (by rw [kK];exact hl)]
 unfold up
 rw [List.map_map]
 conv=>rhs;rw [← List.map_id h]
 exact List.map_congr_left fun x _=>by simp [Function.comp]
theorem uU {l:List Int} {p:Nat} {X Y:List Nat} (h:l.drop p=up (X++Y)):X.length≤l.length-p:=by
 have:=congrArg List.length h
 rw [List.length_drop,kK,lA] at this
 omega
theorem uV {l:List Int} {h Y:List Nat} {r:Rv} (h0:Okr r) (hl:h.length=32) (hd:l.drop r.s.p=up (h++Y)):sumR l r=(h,adv r h.length):=by
 have hg:=uU hd
 have e32:(32:Int).toNat=32:=rfl
 have hraw:Wi.rawB l r.s 32=up h:=by
  unfold Wi.rawB
  rw [e32,if_neg (by rw [h0.1];simp),if_neg (by omega),hd,qb,List.take_append_of_le_length (by rw [kK];omega),List.take_of_length_le (by rw [kK];omega)]
 have hrs:Wi.rawS l r.s 32=⟨r.s.p+32,r.s.fa,r.s.fe⟩:=by
  unfold Wi.rawS
  rw [e32,if_neg (by rw [h0.1];simp),if_neg (by omega)]
 unfold sumR
 rw [hraw,hrs,wn hl,xM (r:=⟨⟨r.s.p+32,r.s.fa,r.s.fe⟩,r.left,r.flt,r.st⟩) h0.1,hl]
 rfl
theorem oe {l:List Int} {c:Nat} {Y:List Nat} {r:Rv} (h0:Okr r) (hd:l.drop r.s.p=up (c::Y)):Wi.byteS l r.s=((c:Int),⟨r.s.p+1,r.s.fa,r.s.fe⟩):=by
 have hlt:r.s.p<l.length:=by
  have:=congrArg List.length hd
  rw [List.length_drop,kK,lC] at this
  omega
 have hc:l[r.s.p]?.getD 0=(c:Int):=by
  rw [gl hlt]
  rw [List.drop_eq_getElem_cons hlt] at hd
  injection hd
 unfold Wi.byteS
 rw [if_neg (by rw [h0.1];simp),if_pos hlt,hc]
theorem uW {l:List Int} {ver:Int} {v:Vd} {Y:List Nat} {r:Rv} (h0:Okr r) (hm:0≤v.mode∧v.mode≤8) (h8:ver<2→v.mode=8) (hd:l.drop r.s.p=up (modB ver v++Y)):modR l ver r=(v.mode,adv r (modB ver v).length):=by
 unfold modR modB at *
 by_cases hv:ver<2
 ·rw [if_pos hv,if_neg (by omega),h8 hv]
  rfl
 ·rw [if_neg hv,if_pos (by omega)]
  rw [if_pos (by omega)] at hd
  rw [oe h0 hd]
  have e:((v.mode.toNat:Nat):Int)=v.mode:=by omega
  simp only [e]
  rw [decide_eq_true hm.2,xM (r:=⟨⟨r.s.p+1,r.s.fa,r.s.fe⟩,r.left,r.flt,r.st⟩) h0.1]
  rfl
theorem og {l:List Int} {a b:Nat} {Y:List Nat} {r:Rv} (h0:Okr r) (hm:qD a b=true) (hd:l.drop r.s.p=up (encN a++(encN b++Y))):yb l r=((a,b),adv r ((encN a).length+(encN b).length)):=by
 have hm:=of_decide_eq_true hm
 have e1:=fd (least:=0) (most:=kI) h0 hd (by omega) (by unfold kI;omega) (by omega)
 have hd2:=qG hd
 unfold yb
 rw [e1]
 simp only
 by_cases ha:a=0
 ·rw [if_pos ha]
  have e2:=fd (least:=0) (most:=0) (h0.adv (encN a).length) hd2 (by omega) (by omega) (by omega)
  rw [e2,zP,ha]
 ·rw [if_neg ha]
  have e2:=fd (least:=1) (most:=kI) (h0.adv (encN a).length) hd2 (by omega) (by unfold kI;omega) (by omega)
  rw [e2,zP]
def mz (ver:Int) (m:Md):Md:=if ver<3 then Md.zero else m
theorem sf {l:List Int} {ver:Int} {m:Md} {Y:List Nat} {r:Rv} (h0:Okr r) (h1:qD m.n0 m.s0=true) (h2:qD m.n1 m.s1=true) (hd:l.drop r.s.p=up (marB ver m++Y)):yV l ver r=(mz ver m,adv r (marB ver m).length):=by
 unfold yV marB mz at *
 by_cases hv:ver<3
 ·rw [if_pos hv,if_pos hv,if_pos hv]
  rfl
 ·rw [if_neg hv] at hd
  rw [if_neg hv,if_neg hv,if_neg hv]
  have p1:=(yD h1)
  have p2:=(yD h2)
  have c0:((m.n0.toNat:Nat):Int)=m.n0:=by omega
  have c1:((m.s0.toNat:Nat):Int)=m.s0:=by omega
  have c2:((m.n1.toNat:Nat):Int)=m.n1:=by omega
  have c3:((m.s1.toNat:Nat):Int)=m.s1:=by omega
  have hb:mkB m 2=encN m.n0.toNat++(encN m.s0.toNat++(encN m.n1.toNat++encN m.s1.toNat)):=by
   simp [mkB,mN,mS]
  rw [hb] at hd ⊢
  simp only [List.append_assoc] at hd
  have e1:=og h0 (by rw [c0,c1];exact h1) hd
  have hd2:l.drop (adv r ((encN m.n0.toNat).length+(encN m.s0.toNat).length)).s.p=up (encN m.n1.toNat++(encN m.s1.toNat++Y)):=by
   rw [← zP]
   exact qG (qG hd)
  have e2:=og (h0.adv _) (by rw [c2,c3];exact h2) hd2
  rw [e1]
  simp only
  rw [e2,zP]
  simp only [c0,c1,c2,c3,lA,Nat.add_assoc]
theorem uX {l:List Int} {least:Int} {most:Nat} {v:Vd} {Y:List Nat} {r:Rv} (h0:Okr r) (h1:least≤v.size) (hp:0≤v.size) (h2:v.size≤(most:Int)) (h3:v.size<9223372036854775808) (hd:l.drop r.s.p=up (conB v++Y)):conR l least most r=((v.size.toNat,v.sum),adv r (conB v).length):=by
 unfold conB at hd ⊢
 rw [List.append_assoc] at hd
 have e1:=fd (least:=least) (most:=most) h0 hd (by omega) (by omega) (by omega)
 have e2:=uV (h0.adv (encN v.size.toNat).length) v.len (qG hd)
 unfold conR
 rw [e1]
 simp only
 rw [e2,zP,lA]
theorem vF {l:List Int} {deep c:Nat} {Y:List Nat} {r:Rv} (h0:Okr r) (hl:r.left≠0) (hdp:deep≤64) (hk:kOk deep (c:Int)=true) (hd:l.drop r.s.p=up (c::Y)):kD l deep r=((c:Int),{ adv r 1 with left:=r.left-1 }):=by
 unfold kD
 rw [oe h0 hd]
 simp only
 have hp:preR deep r=r:=by unfold preR;rw [if_neg hl,if_neg (by omega)]
 rw [hk,hp,xM (r:=⟨⟨r.s.p+1,r.s.fa,r.s.fe⟩,r.left,r.flt,r.st⟩) h0.1]
 rfl
theorem eO (x:List UInt8):Op.bytesLess x []=false:=by cases x<;>rfl
theorem vG {l:List Int} {last nm:ByteArray} {Y:List Nat} {r:Rv} (h0:Okr r) (hok:nOkB last nm=true) (hd:l.drop r.s.p=up (namB nm++Y)):dH l last r=(nm,adv r (namB nm).length):=by
 have hs:nm.size≤255:=by
  unfold nOkB at hok
  rw [Bool.and_eq_true] at hok
  exact dc hok.2
 have hg:=uU hd
 have hpos:1≤(encN nm.size).length:=by rw [yY];exact Wire.lQ _
 have hnl:(namB nm).length=(encN nm.size).length+nm.size:=by unfold namB;rw [lA,xq]
 have hd2:=hd
 unfold namB at hd2
 rw [List.append_assoc] at hd2
 have hr:Wire.rd 0 (l.drop r.s.p)=.ok nm.size (Wire.enc nm.size).length:=by rw [hd2,qb,xP];exact Wire.gz _ (by omega)
 have hte:(l.drop (r.s.p+(Wire.enc nm.size).length)).take nm.size=up (strN nm):=by
  rw [← yY]
  have:=qG hd2
  have e:l.drop (r.s.p+(encN nm.size).length)=up (strN nm++Y):=this
  rw [e,qb,List.take_append_of_le_length (by rw [kK,xq];exact Nat.le_refl _),List.take_of_length_le (by rw [kK,xq];exact Nat.le_refl _)]
 have hu:Wi.textS l r.s 255=(up (strN nm),⟨r.s.p+(namB nm).length,r.s.fa,r.s.fe⟩):=by
  unfold Wi.textS
  rw [if_neg (by rw [h0.1];simp),hr]
  simp only
  rw [if_neg (by omega),if_neg (by rw [← yY];omega),hte,hnl,yY,Nat.add_assoc]
 have hmk:Wi.mkStr (up (strN nm))=nm:=by
  unfold Wi.mkStr up strN
  rw [List.map_map,List.map_map]
  have:(nm.data.toList.map (((fun c:Int=>UInt8.ofNat c.toNat) ∘ Int.ofNat) ∘ fun c:UInt8=>c.toNat))=nm.data.toList:=by
   conv=>rhs;rw [← List.map_id nm.data.toList]
   exact List.map_congr_left fun x _=>by simp [Function.comp]
  rw [this]
 unfold dH
 rw [hu]
 simp only
 rw [hmk,hok]
 have hb:yU { r with s:=⟨r.s.p+(namB nm).length,r.s.fa,r.s.fe⟩ }=adv r (namB nm).length:=by
  unfold yU
  rw [if_neg (by show ¬ r.s.fe=12;rw [h0.1];decide)]
  rfl
 rw [hb,xM (h0.adv _).1]
theorem bm {v:Vd} {m:Md} {b:Bool} (h:ownE v m b=0):
  (v.kind=1∧(0≤v.mode∧v.mode≤8)∧v.size=0∧v.sum=jw∧m=Md.zero)∨(v.kind=2∧b=false∧(0≤v.mode∧v.mode≤8)∧(0≤v.size∧v.size≤1099511627775)∧qD m.n0 m.s0=true∧qD m.n1 m.s1=true)∨
  (v.kind=3∧b=false∧v.mode=0∧(1≤v.size∧v.size≤4095)∧m=Md.zero):=by
 unfold ownE at h
 split at h
 ·omega
 ·split at h
  ·omega
  ·split at h
   ·omega
   ·split at h
    ·omega
    ·split at h
     ·omega
     ·rename_i c1 c2 c3 c4 c5
      have c3:jm v=true:=by simpa using c3
      unfold jm at c3
      by_cases e1:v.kind=1
      ·rw [if_pos e1] at c3
       have:=of_decide_eq_true c3
       exact .inl ⟨e1,this.1,this.2.1,this.2.2,Classical.byContradiction fun q=>c5 ⟨by omega,q⟩⟩
      ·have hb:b=false:=by
        cases b with
        | false=>rfl
        | true=>exact absurd ⟨rfl,e1⟩ c2
       rw [if_neg e1] at c3
       by_cases e2:v.kind=2
       ·rw [if_pos e2] at c3
        have:=of_decide_eq_true c3
        refine .inr (.inl ⟨e2,hb,this.1,this.2,?_,?_⟩)
        ·cases q:qD m.n0 m.s0 with
         | true=>rfl
         | false=>exact absurd ⟨e2,.inl q⟩ c4
        ·cases q:qD m.n1 m.s1 with
         | true=>rfl
         | false=>exact absurd ⟨e2,.inr q⟩ c4
       ·rw [if_neg e2] at c3
        by_cases e3:v.kind=3
        ·rw [if_pos e3] at c3
         have:=of_decide_eq_true c3
         exact .inr (.inr ⟨e3,hb,this.1,this.2,Classical.byContradiction fun q=>c5 ⟨e2,q⟩⟩)
        ·rw [if_neg e3] at c3;cases c3
def fwd (r:Rv) (k d:Nat) (S:List Stp):Rv:=⟨⟨r.s.p+k,r.s.fa,r.s.fe⟩,r.left-(d:Int),r.flt,r.st++S⟩
theorem Okr.fwd {r:Rv} (h:Okr r) (k d:Nat) (S:List Stp):Okr (fwd r k d S):=h
theorem vH (r:Rv) (k d j:Nat) (S:List Stp):adv (fwd r k d S) j=fwd r (k+j) d S:=by unfold adv fwd;simp only [Nat.add_assoc]
theorem vI (r:Rv) (k d j e:Nat) (S T:List Stp):fwd (fwd r k d S) j e T=fwd r (k+j) (d+e) (S++T):=by
 unfold fwd
 simp only [Nat.add_assoc,List.append_assoc,Rv.mk.injEq,true_and,and_true]
 omega
theorem iO {l:List Int} {u:Option (List ByteArray)} {last nm:ByteArray} {r:Rv} {c:Nat} {Y:List Nat} (h0:Okr r) (hl:r.left≠0) (hdp:kW u≤64) (hk:kOk (kW u) (c:Int)=true) (hn:∀ x,u=some x→nOkB last nm=true) (hn0:u=none→nm=⟨#[]⟩) (hd:l.drop r.s.p=up ([c]++(nbO u nm++Y))):
  (kD l (kW u) r).1=(c:Int)∧qV l u last r=(nm,fwd r (1+(nbO u nm).length) 1 []):=by
 have e1:=vF h0 hl hdp hk hd
 have hd2:l.drop (fwd r 1 1 []).s.p=up (nbO u nm++Y):=qG hd
 have e2:({ adv r 1 with left:=r.left-1 }:Rv)=fwd r 1 1 []:=by unfold adv fwd;simp
 rw [e2] at e1
 refine ⟨by rw [e1],?_⟩
 unfold qV
 rw [e1]
 cases u with
 | none=>
  show (_,_)=_
  rw [hn0 rfl]
  simp [nbO]
 | some x=>
  show dH l last (fwd r 1 1 [])=_
  rw [vG (h0.fwd 1 1 []) (hn x rfl) hd2,vH]
  rfl
theorem len0:∀ {f:F},decide (0<f.len)=false→f=.nil
 | .nil,_=>rfl
 | .cons _ _ _ _ _,h=>by simp [F.len] at h
theorem ff {l:List Int} {ver:Int} {n:Nat} {u:Option (List ByteArray)} {last nm:ByteArray} {r:Rv} {v:Vd} {m:Md} {ks:F} {Y:List Nat} (h0:Okr r) (hlo:((1+ks.size:Nat):Int)≤r.left) (hhi:r.left<9223372036854775808) (hdp:kW u≤64) (hku:u=none→v.kind=1∧nm=⟨#[]⟩)
  (hn:∀ x,u=some x→nOkB last nm=true) (hown:ownE v m (decide (0<ks.len))=0) (h8:ver<2→v.kind≠3→v.mode=8) (hd:l.drop r.s.p=up (encT ver (nbO u nm) v m ks++Y))
  (hkids:∀ (r':Rv) (Y':List Nat),Okr r'→(ks.size:Int)≤r'.left→r'.left<9223372036854775808→l.drop r'.s.p=up (encF ver ks++Y')→∃ S,kidL (qF l ver n (some (dJ u nm))) ks.len .nil ⟨#[]⟩ r'=(some (ks.mp id (mz ver)),fwd r' (encF ver ks).length ks.size S)∧S.map (·.hash)=dirF ks):
  ∃ S,qF l ver (n+1) u last r=(⟨nm,v,mz ver m,ks.mp id (mz ver)⟩,fwd r (encT ver (nbO u nm) v m ks).length (1+ks.size) S)∧S.map (·.hash)=dirT v ks:=by
 have hkOk:∀ c:Nat,v.kind=(c:Int)→(c=1∨c=2∨c=3)→kOk (kW u) (c:Int)=true:=fun c hc h3=>by
  unfold kOk
  cases u with
  | none=>have:=(hku rfl).1;rw [← hc,this];rfl
  | some x=>
   rcases h3 with e | e | e<;>subst e<;>simp [kW]
 unfold qF
 rcases bm hown with ⟨k1,k2,k3,k4,k5⟩ | ⟨k1,k2,k3,k4,k5,k6⟩ | ⟨k1,k2,k3,k4,k5⟩
 ·have hB:encT ver (nbO u nm) v m ks=[1]++(nbO u nm++(modB ver v++(encN ks.len++((jt v ks).1++encF ver ks)))):=by unfold encT oneB;rw [if_pos k1]
  rw [hB] at hd ⊢
  simp only [List.append_assoc] at hd
  obtain ⟨e1,e2⟩:=iO h0 (by omega) hdp (hkOk 1 k1 (.inl rfl)) hn (fun q=>(hku q).2) hd
  rw [e1,e2,show ((1:Nat):Int)=1 from rfl]
  have hd2:l.drop (fwd r (1+(nbO u nm).length) 1 []).s.p=up (modB ver v++(encN ks.len++((jt v ks).1++(encF ver ks++Y)))):=by
   have:=qG (qG hd)
   rw [zP] at this
   exact this
  generalize hr2:fwd r (1+(nbO u nm).length) 1 []=r2 at *
  have o2:Okr r2:=by rw [← hr2];exact h0
  have l2:r2.left=r.left-1:=by rw [← hr2];rfl
  unfold zJ
  rw [if_neg (by simp [o2.2]),if_pos rfl]
  simp only
  have e3:=uW (ver:=ver) o2 k2 (fun q=>h8 q (by omega)) hd2
  have hd3:=qG hd2
  rw [e3]
  unfold bK cntR
  have hls:=ks.len_le_size
  have e4:=fd (least:=0) (most:=(adv r2 (modB ver v).length).left.toNat) (o2.adv _) hd3 (by omega) (by show _≤r2.left.toNat;omega) (by omega)
  have hd4:=qG hd3
  rw [e4]
  simp only
  have e5:=uV ((o2.adv (modB ver v).length).adv (encN ks.len).length) (yN v ks) hd4
  have hd5:=qG hd4
  rw [e5]
  simp only
  obtain ⟨S,e6,e7⟩:=hkids _ Y (((o2.adv (modB ver v).length).adv (encN ks.len).length).adv (jt v ks).1.length) (by show _≤r2.left;omega) (by show r2.left<_;omega) hd5
  rw [e6,od rfl]
  refine ⟨S++[⟨dJ u nm,(adv (adv r2 (modB ver v).length) (encN ks.len).length).s.p,(jt v ks).1⟩],?_,by rw [mD k1,List.map_append,e7];rfl⟩
  have hv:(⟨1,v.mode,0,jw,by simp [jw]⟩:Vd)=v:=by
   cases v
   simp only at k1 k3 k4
   subst k1 k3 k4
   rfl
  have hm:Md.zero=mz ver m:=by rw [k5];unfold mz;split<;>rfl
  rw [hv,hm]
  refine Prod.ext rfl ?_
  subst hr2
  unfold fwd adv
  simp only [lA,lC,lN,List.append_assoc,List.append_nil,Rv.mk.injEq,Wi.St.mk.injEq,and_true]
  omega
 ·have hks:=len0 k2
  subst hks
  have hB:encT ver (nbO u nm) v m .nil=[2]++(nbO u nm++(conB v++(modB ver v++marB ver m))):=by unfold encT oneB;rw [if_neg (by omega),if_pos k1]
  rw [hB] at hd ⊢
  simp only [List.append_assoc] at hd
  obtain ⟨e1,e2⟩:=iO h0 (by omega) hdp (hkOk 2 k1 (.inr (.inl rfl))) hn (fun q=>(hku q).2) hd
  rw [e1,e2,show ((2:Nat):Int)=2 from rfl]
  have hd2:l.drop (fwd r (1+(nbO u nm).length) 1 []).s.p=up (conB v++(modB ver v++(marB ver m++Y))):=by
   have:=qG (qG hd)
   rw [zP] at this
   exact this
  generalize hr2:fwd r (1+(nbO u nm).length) 1 []=r2 at *
  have o2:Okr r2:=by rw [← hr2];exact h0
  unfold zJ
  rw [if_neg (by simp [o2.2]),if_neg (by decide),if_pos rfl]
  have e3:=uX (least:=0) (most:=1099511627775) o2 k4.1 k4.1 (by omega) (by omega) hd2
  have hd3:=qG hd2
  have e4:=uW (ver:=ver) (o2.adv (conB v).length) k3 (fun q=>h8 q (by omega)) hd3
  have hd4:=qG hd3
  have e5:=sf ((o2.adv (conB v).length).adv (modB ver v).length) k5 k6 hd4
  simp only [e3,e4,e5]
  refine ⟨[],?_,by rw [xw (by omega) _ (.inl k1)];rfl⟩
  have hv:(⟨2,v.mode,(v.size.toNat:Int),v.sum,v.len⟩:Vd)=v:=by
   have:((v.size.toNat:Nat):Int)=v.size:=by omega
   cases v
   simp only at k1 this
   subst k1
   rw [this]
  rw [hv]
  refine Prod.ext rfl ?_
  subst hr2
  unfold fwd adv
  simp only [lA,lC,lN,List.append_nil,Rv.mk.injEq,Wi.St.mk.injEq,F.size,and_true]
  omega
 ·have hks:=len0 k2
  subst hks
  have hB:encT ver (nbO u nm) v m .nil=[3]++(nbO u nm++conB v):=by unfold encT oneB;rw [if_neg (by omega),if_neg (by omega)]
  rw [hB] at hd ⊢
  simp only [List.append_assoc] at hd
  obtain ⟨e1,e2⟩:=iO h0 (by omega) hdp (hkOk 3 k1 (.inr (.inr rfl))) hn (fun q=>(hku q).2) hd
  rw [e1,e2,show ((3:Nat):Int)=3 from rfl]
  have hd2:l.drop (fwd r (1+(nbO u nm).length) 1 []).s.p=up (conB v++Y):=by
   have:=qG (qG hd)
   rw [zP] at this
   exact this
  generalize hr2:fwd r (1+(nbO u nm).length) 1 []=r2 at *
  have o2:Okr r2:=by rw [← hr2];exact h0
  unfold zJ
  rw [if_neg (by simp [o2.2]),if_neg (by decide),if_neg (by decide),if_pos rfl]
  have e3:=uX (least:=1) (most:=4095) o2 k4.1 (by omega) (by omega) (by omega) hd2
  simp only [e3]
  refine ⟨[],?_,by rw [xw (by omega) _ (.inr k1)];rfl⟩
  have hv:(⟨3,0,(v.size.toNat:Int),v.sum,v.len⟩:Vd)=v:=by
   have:((v.size.toNat:Nat):Int)=v.size:=by omega
   cases v
   simp only at k1 k3 this
   subst k1 k3
   rw [this]
  have hm:Md.zero=mz ver m:=by rw [k5];unfold mz;split<;>rfl
  rw [hv,hm]
  refine Prod.ext rfl ?_
  subst hr2
  unfold fwd adv
  simp only [lA,lC,lN,List.append_nil,Rv.mk.injEq,Wi.St.mk.injEq,F.size,and_true]
  omega
theorem sg (v:Vd):(unkV v).kind=v.kind:=by unfold unkV;split<;>rfl
theorem oq {v:Vd} {m:Md} {b:Bool} (h:ownE v m b=0):ownE (unkV v) m b=0:=by
 rcases bm h with ⟨k1,k2,k3,k4,k5⟩ | ⟨k1,k2,k3,k4,k5,k6⟩ | ⟨k1,_⟩
 ·unfold unkV
  rw [if_neg (by omega)]
  simp [ownE,jm,k1,k3,k4,k5]
 ·unfold unkV
  rw [if_neg (by omega)]
  simp [ownE,jm,k1,k2,k4.1,k4.2,k5,k6]
 ·unfold unkV
  rw [if_pos k1]
  exact h
theorem bp:∀ {f:F} {prev:Option ByteArray} {L:List ByteArray},jc f prev L=none→jc (f.mp unkV id) prev L=none
 | .nil,_,_,h=>h
 | .cons nm v m ks r,prev,L,h=>by
  obtain ⟨a,b,c,d⟩:=kC h
  rw [F.mp]
  unfold jc
  rw [F.mp_len,if_neg (by rw [a];simp),if_neg (by rw [show id m=m from rfl,oq b];simp),bp c]
  exact bp d
theorem xe {v:Vd} {m:Md} {ks:F} (h:qL v m ks=0):qL (unkV v) m (ks.mp unkV id)=0:=by
 obtain ⟨a,b⟩:=jn h
 exact xd (by rw [F.mp_len];exact oq a) (bp b)
theorem eR {v:Vd} (h:v.kind≠3→v.mode=8):unkV v=v:=by
 unfold unkV
 split
 ·rfl
 ·rename_i q
  have:=h q
  cases v
  simp only at this
  rw [this]
theorem yd {ver:Int} (q:ver<2):∀ {f:F},nrmF ver f→f.mp unkV id=f
 | .nil,_=>rfl
 | .cons nm v m ks r,h=>by rw [F.mp,yd q h.2.1,yd q h.2.2,eR (h.1.1 q)];rfl
attribute [local go_sem] Oper.semAt_some
theorem assert72 (x:Value) (w:World):(Instr.typeAssert (.iface 72 x) 41 72 true).run Tryz.prog w=.ok (.tuple #[x,.bool true]) w:=by kernel_rfl
def fc (p:Int) (s:ByteArray) (e:Int):Array Value:=#[.int .i64 p,.string s,.int .i64 e]
theorem siz49:(Tryz.prog.info? 49).map (·.size)=some 3:=by kernel_rfl
end Go.Proofs.YtjikkhbcbfpocaaGreatDoor
namespace Go.Proofs.YtjikkhbcbfpocaaGreatDoor
open Go.RowKit Go.Shelf
def md8 (ver:Int):F→Prop
 | .nil=>True
 | .cons _ v _ ks r=>(ver<2→v.kind≠3→v.mode=8)∧md8 ver ks∧md8 ver r
def laO (prev:Option ByteArray):ByteArray:=prev.getD ⟨#[]⟩
theorem vJ {prev:Option ByteArray} {nm:ByteArray} {lev:Nat} (h:qo prev nm lev=0):nOkB (laO prev) nm=true:=by
 obtain ⟨_,h2,h3⟩:=xL h
 unfold nOkB
 rw [h2,Bool.and_true]
 cases prev with
 | none=>
  have hne:nm.toList≠[]:=fun e=>by
   have h1:=(of_decide_eq_true h2).1
   rw [qp] at h1
   have h4:=qp nm
   unfold tl at h4
   rw [e] at h4
   simp only [lN] at h4
   omega
  show (!(Op.bytesLess nm.toList (⟨#[]⟩:ByteArray).toList||nm.toList==(⟨#[]⟩:ByteArray).toList))=true
  have e0:(⟨#[]⟩:ByteArray).toList=[]:=by rw [ByteArray.toList_eq]
  rw [e0,eO,Bool.false_or]
  simp [hne]
 | some p=>
  show (!leB nm p)=true
  have:leB nm p=false:=h3
  rw [this];rfl
theorem iP {l:List Int} {ver:Int}:∀ (f:F) (n:Nat) (here:List ByteArray) (prev:Option ByteArray) (L:List ByteArray) (acc:F) (r:Rv) (Y:List Nat),jc f prev L=none→here.length=L.length→L.length+1+n=66→md8 ver f→Okr r→(f.size:Int)≤r.left→r.left<9223372036854775808→l.drop r.s.p=up (encF ver f++Y)→
  ∃ S,kidL (qF l ver n (some here)) f.len acc (laO prev) r=(some (acc.app (f.mp id (mz ver))),fwd r (encF ver f).length f.size S)∧S.map (·.hash)=dirF f
 | .nil,n,here,prev,L,acc,r,Y,_,_,_,_,_,_,_,_=>by
  refine ⟨[],?_,by unfold dirF;simp [kr,dirs]⟩
  show (some acc,r)=_
  rw [F.mp,F.ox]
  unfold fwd
  simp [encF,F.size]
 | .cons nm v m ks rest,n,here,prev,L,acc,r,Y,hf,hhl,hn,h8,h0,hlo,hhi,hd=>by
  obtain ⟨f1,f2,f3,f4⟩:=kC hf
  have hdp:=(xL f1).1
  obtain ⟨n',rfl⟩:∃ n',n=n'+1:=⟨n-1,by omega⟩
  rw [zV,List.append_assoc] at hd
  have hsz:(F.cons nm v m ks rest).size=1+ks.size+rest.size:=by simp only [F.size];omega
  rw [hsz] at hlo
  obtain ⟨S1,e1,e2⟩:=ff (l:=l) (ver:=ver) (n:=n') (u:=some here) (last:=laO prev) (nm:=nm) (r:=r) (v:=v) (m:=m) (ks:=ks) h0 (by omega) hhi (by show here.length+1≤64;omega) (fun q=>by cases q) (fun _ _=>vJ f1) f2 h8.1 hd (fun r' Y' o lo hi hd'=>by
   obtain ⟨S,q1,q2⟩:=iP ks n' (nm::here) none (L++[nm]) .nil r' Y' f3 (by simp [hhl]) (by rw [lA];simp only [lC,lN];omega) h8.2.1 o lo hi hd'
   exact ⟨S,q1,q2⟩)
  have hd2:l.drop (fwd r (encT ver (namB nm) v m ks).length (1+ks.size) S1).s.p=up (encF ver rest++Y):=qG hd
  obtain ⟨S2,e3,e4⟩:=iP rest (n'+1) here (some nm) L (acc.app (.cons nm v (mz ver m) (ks.mp id (mz ver)) .nil)) (fwd r (encT ver (namB nm) v m ks).length (1+ks.size) S1) Y f4 hhl hn h8.2.2 h0 (by show _≤r.left-_;omega) (by show r.left-_<_;omega) hd2
  refine ⟨S1++S2,?_,by rw [List.map_append,e2,e4,xx]⟩
  have hk:kidL (qF l ver (n'+1) (some here)) (F.cons nm v m ks rest).len acc (laO prev) r=kidL (qF l ver (n'+1) (some here)) rest.len (acc.app (.cons nm v (mz ver m) (ks.mp id (mz ver)) .nil)) nm (fwd r (encT ver (namB nm) v m ks).length (1+ks.size) S1):=by
   rw [show (F.cons nm v m ks rest).len=rest.len+1 from by simp only [F.len]]
   rw [kidL,if_neg (by simp [h0.2]),e1]
   rfl
  rw [hk]
  have e3:kidL (qF l ver (n'+1) (some here)) rest.len (acc.app (.cons nm v (mz ver m) (ks.mp id (mz ver)) .nil)) nm (fwd r (encT ver (namB nm) v m ks).length (1+ks.size) S1)=_:=e3
  rw [e3,vI,F.fj,zV,lA,hsz]
  rfl
theorem vL {l:List Int} {ver:Int} {r:Rv} {v:Vd} {m:Md} {ks:F} {Y:List Nat} (h0:Okr r) (hlo:((1+ks.size:Nat):Int)≤r.left) (hhi:r.left<9223372036854775808) (hk:v.kind=1) (hc:qL v m ks=0) (h8:(ver<2→v.mode=8)∧md8 ver ks) (hd:l.drop r.s.p=up (encT ver [] v m ks++Y)):
  ∃ S,qF l ver 66 none ⟨#[]⟩ r=(⟨⟨#[]⟩,v,mz ver m,ks.mp id (mz ver)⟩,fwd r (encT ver [] v m ks).length (1+ks.size) S)∧S.map (·.hash)=dirT v ks:=by
 obtain ⟨c1,c2⟩:=jn hc
 exact ff (n:=65) (u:=none) h0 hlo hhi (by decide) (fun _=>⟨hk,rfl⟩) (fun _ q=>by cases q) c1 (fun q _=>h8.1 q) hd fun r' Y' o lo hi hd'=>iP ks 65 [] none [] .nil r' Y' c2 rfl rfl h8.2 o lo hi hd'
theorem iQ (n:Nat):(le4 n).length=4:=rfl
theorem fg (ver:Nat) (v:Vd) (m:Md) (ks:F):(arcW ver v m ks).take ((arcW ver v m ks).length-4)=arcB ver v m ks:=by
 unfold arcW
 rw [lA,iQ,Nat.add_sub_cancel,List.take_append_of_le_length (Nat.le_refl _),List.take_of_length_le (Nat.le_refl _)]
theorem om (ver:Nat) (v:Vd) (m:Md) (ks:F):(arcW ver v m ks).drop ((arcW ver v m ks).length-4)=le4 (Su.Crc.crc (arcB ver v m ks)):=by
 unfold arcW
 rw [lA,iQ,Nat.add_sub_cancel,List.drop_append,List.drop_of_length_le (Nat.le_refl _)]
 simp
theorem bn (ver:Nat) (hv:ver<128) (v:Vd) (m:Md) (ks:F):arcB ver v m ks=[116,119,110,101,ver]++(encN (1+ks.size)++encT ver [] v m ks):=by
 unfold arcB
 rw [aU hv]
 rfl
theorem eP {ver:Nat} (h1:1≤ver) (h3:ver≤3) (v:Vd) (m:Md) (ks:F):opU (arcW ver v m ks)=(ver,⟨5,0,0⟩)∧opF (arcW ver v m ks)=none∧decL (arcW ver v m ks)=up (arcB ver v m ks):=by
 have hb:arcW ver v m ks=[116,119,110,101]++(encN ver++(encN (1+ks.size)++encT ver [] v m ks++le4 (Su.Crc.crc (arcB ver v m ks)))):=by
  unfold arcW
  rw [bn ver (by omega),aU (n:=ver) (by omega)]
  simp
 have hU:opU (arcW ver v m ks)=(ver,⟨5,0,0⟩):=by
  have hd:(up (arcW ver v m ks)).drop 4=up (encN ver++(encN (1+ks.size)++encT ver [] v m ks++le4 (Su.Crc.crc (arcB ver v m ks)))):=by
   rw [hb,← pO]
   rfl
  have hr:Wire.rd 0 ((up (arcW ver v m ks)).drop 4)=.ok ver (Wire.enc ver).length:=by rw [hd,qb,xP];exact Wire.gz _ (by omega)
  unfold opU Wi.uintS
  rw [if_neg (by simp),hr]
  simp only
  rw [if_pos h3,Wire.dE (by omega)]
  rfl
 refine ⟨hU,?_,?_⟩
 ·have hm:opM (arcW ver v m ks)=true:=by
   unfold opM
   rw [hb]
   rfl
  have hl:9≤(arcW ver v m ks).length:=by
   rw [hb,aU (n:=ver) (by omega)]
   simp only [lA,lC,lN,iQ]
   omega
  unfold opF
  rw [hm,hU,if_neg (by simp),if_neg (by simp only;omega),if_neg (by simp only;omega),om,fg,if_pos rfl]
 ·unfold decL
  rw [fg]
theorem fh {ver:Nat} (h1:1≤ver) (h3:ver≤3) (v:Vd) (m:Md) (ks:F):(decL (arcW ver v m ks)).drop 5=up (encN (1+ks.size)++encT ver [] v m ks):=by
 rw [(eP h1 h3 v m ks).2.2,← pO,bn ver (by omega)]
 rfl
theorem uY {ver:Nat} (h1:1≤ver) (h3:ver≤3) {v:Vd} {m:Md} {ks:F} {most:Int} (hb:1+ks.size≤bnd most) (hk:v.kind=1) (hc:qL v m ks=0) (h8:((ver:Int)<2→v.mode=8)∧md8 ver ks):
  (decN (arcW ver v m ks) most).1=⟨⟨#[]⟩,v,mz ver m,ks.mp id (mz ver)⟩∧(decN (arcW ver v m ks) most).2.flt=none∧(decN (arcW ver v m ks) most).2.st.map (·.hash)=dirT v ks:=by
 have hbl:=uT most
 obtain ⟨hU,_,hL⟩:=eP h1 h3 v m ks
 have hd:=fh h1 h3 v m ks
 have hR:decR (arcW ver v m ks)=⟨⟨5,0,0⟩,0,none,[]⟩:=by unfold decR;rw [hU]
 unfold decN
 rw [hR,hU]
 generalize hl:decL (arcW ver v m ks)=l at *
 have hr:Wire.rd 0 (l.drop 5)=.ok (1+ks.size) (Wire.enc (1+ks.size)).length:=by rw [hd,qb,xP];exact Wire.gz _ (by omega)
 have hu:Wi.uintS l ⟨5,0,0⟩ (bnd most)=(1+ks.size,⟨5+(encN (1+ks.size)).length,0,0⟩):=by
  unfold Wi.uintS
  rw [if_neg (by simp),hr]
  simp only
  rw [if_pos hb,yY]
 have hA:yX l (bnd most) ⟨⟨5,0,0⟩,0,none,[]⟩=⟨⟨5+(encN (1+ks.size)).length,0,0⟩,((1+ks.size:Nat):Int),none,[]⟩:=by
  unfold yX
  simp only [hu]
  rw [decide_eq_true (by omega:0<1+ks.size)]
  unfold yU
  rw [if_neg (by simp),xM rfl]
 have hd2:l.drop (5+(encN (1+ks.size)).length)=up (encT ver [] v m ks++[]):=by
  rw [List.append_nil]
  exact qG (r:=⟨⟨5,0,0⟩,0,none,[]⟩) hd
 obtain ⟨S,e1,e2⟩:=vL (l:=l) (ver:=ver) (r:=⟨⟨5+(encN (1+ks.size)).length,0,0⟩,((1+ks.size:Nat):Int),none,[]⟩) (v:=v) (m:=m) (ks:=ks) ⟨rfl,rfl⟩ (Int.le_refl _) (by show ((1+ks.size:Nat):Int)<_;omega) hk hc h8 hd2
 have hend:5+(encN (1+ks.size)).length+(encT ver [] v m ks).length=l.length:=by
  have hx:=congrArg List.length hd
  rw [List.length_drop,kK,lA] at hx
  have:1≤(encN (1+ks.size)).length:=by rw [yY];exact Wire.lQ _
  omega
 unfold bd
 simp only
 rw [hA,e1]
 simp only
 have hE:lk l (fwd ⟨⟨5+(encN (1+ks.size)).length,0,0⟩,((1+ks.size:Nat):Int),none,[]⟩ (encT ver [] v m ks).length (1+ks.size) S)=fwd ⟨⟨5+(encN (1+ks.size)).length,0,0⟩,((1+ks.size:Nat):Int),none,[]⟩ (encT ver [] v m ks).length (1+ks.size) S:=by
  have hs:Wi.endS l (fwd ⟨⟨5+(encN (1+ks.size)).length,0,0⟩,((1+ks.size:Nat):Int),none,[]⟩ (encT ver [] v m ks).length (1+ks.size) S).s=(fwd ⟨⟨5+(encN (1+ks.size)).length,0,0⟩,((1+ks.size:Nat):Int),none,[]⟩ (encT ver [] v m ks).length (1+ks.size) S).s:=by
   unfold Wi.endS fwd
   simp only
   rw [if_neg (by simp),if_neg (by omega)]
  unfold lk
  rw [hs,xM (by rfl)]
 rw [hE]
 have hN:bb 5 (fwd ⟨⟨5+(encN (1+ks.size)).length,0,0⟩,((1+ks.size:Nat):Int),none,[]⟩ (encT ver [] v m ks).length (1+ks.size) S)=fwd ⟨⟨5+(encN (1+ks.size)).length,0,0⟩,((1+ks.size:Nat):Int),none,[]⟩ (encT ver [] v m ks).length (1+ks.size) S:=by
  unfold bb fwd
  rw [if_neg (by simp only;omega)]
 refine ⟨trivial,?_,?_⟩
 ·show (bb 5 _).flt=none
  rw [hN];rfl
 ·show (bb 5 _).st.map _=_
  rw [hN];exact e2
theorem eQ (g:Md→Md):∀ f:F,kr (f.mp id g)=kr f
 | .nil=>rfl
 | .cons nm v m ks r=>by
  rw [F.mp,yF,yF,eQ g r]
  have:jt (id v) (ks.mp id g)=jt v ks:=by
   unfold jt
   rw [eQ g ks]
   rfl
  rw [this]
theorem oo (g:Md→Md) (v:Vd) (f:F):dirT v (f.mp id g)=dirT v f:=by
 unfold dirT jt
 rw [eQ]
end Go.Proofs.YtjikkhbcbfpocaaGreatDoor
