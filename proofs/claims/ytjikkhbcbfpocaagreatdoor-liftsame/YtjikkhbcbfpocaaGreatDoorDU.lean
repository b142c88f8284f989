import Derived.Test.YtjikkhbcbfpocaaGreatDoorKL
set_option maxRecDepth 100000
set_option maxHeartbeats 4000000
namespace Go.Proofs.YtjikkhbcbfpocaaGreatDoor
open Go.RowKit Go.Shelf
attribute [local go_sem] Oper.semAt_some
theorem UO.set {W:World} {b:Nat} (h:UO W b) (g i:Nat) (x:Value):UO (W.setCell ⟨g,i,none⟩ x) b:=by
 obtain ⟨c,t,h⟩:=h
 by_cases e:b=g
 ·subst e
  refine ⟨c.setIfInBounds i x,t,?_⟩
  unfold World.setCell
  simp only []
  rw [Array.getElem?_modify]
  simp [h]
 ·exact ⟨c,t,(Below.heap_setCell _ _ _ _ e).trans h⟩
theorem LeW.store {W:World} {g o:Nat} {nm:ByteArray} {v:Vd} {m:Md} {kv:Value} (hl:Lies W g o (nc nm v m kv)) (hk:v.kind≠3):LeW W (W.setCell ⟨g,o+2,none⟩ (.int .i64 8)):=by
 refine ⟨rfl,rfl,rfl,Nat.le_of_eq (World.size_setCell ..).symm,fun b i _=>?_⟩
 have c2:=hl 2 _ (yv nm v m kv)
 by_cases e:(⟨g,o+2,none⟩:Addr)=⟨b,i,none⟩
 ·cases e
  exact .inr ⟨by omega,⟨nm,by have:=hl 0 _ (kO nm v m kv);simpa using this⟩,⟨v.kind,hl 1 _ (aO nm v m kv),hk⟩,⟨v.mode,c2⟩,World.cell?_setCell_same (h:=c2) ..⟩
 ·exact .inl (World.cell?_setCell_other (h:=e) ..)
structure Fg (P:Nat→Prop) (g:Nat) (W w':World):Prop where
 le:LeW W w'
 oth:∀ b,b<W.heap.size→¬ P b→b≠g→w'.heap[b]?=W.heap[b]?
 uo:∀ b,UO W b→UO w' b
theorem Fg.refl (P:Nat→Prop) (g:Nat) (W:World):Fg P g W W:=⟨LeW.refl W,fun _ _ _ _=>rfl,fun _ h=>h⟩
theorem Fg.trans {P:Nat→Prop} {g g':Nat} {A B C:World} (h:Fg P g A B) (k:Fg P g' B C) (hg:P g'):Fg P g A C:=
 ⟨h.le.trans k.le,fun b hb h1 h2=>(k.oth b (Nat.lt_of_lt_of_le hb h.le.size) h1 fun e=>h1 (e ▸ hg)).trans (h.oth b hb h1 h2),fun b hb=>k.uo b (h.uo b hb)⟩
theorem Fg.store {P:Nat→Prop} {W:World} {g o:Nat} {nm:ByteArray} {v:Vd} {m:Md} {kv:Value} (hl:Lies W g o (nc nm v m kv)) (hk:v.kind≠3):Fg P g W (W.setCell ⟨g,o+2,none⟩ (.int .i64 8)):=
 ⟨LeW.store hl hk,fun _ _ _ h=>Below.heap_setCell _ _ _ _ h,fun _ h=>h.set _ _ _⟩
theorem rV {W:World} {g o:Nat} {nm:ByteArray} {v:Vd} {m:Md} {kv:Value} (hl:Lies W g o (nc nm v m kv)) (hk:v.kind≠3):Lies (W.setCell ⟨g,o+2,none⟩ (.int .i64 8)) g o (nc nm (unkV v) m kv):=by
 intro j u hu
 unfold unkV at hu
 rw [if_neg hk] at hu
 have c2:=hl 2 _ (yv nm v m kv)
 by_cases hj:j=2
 ·subst hj
  have:u=.int .i64 8:=by rw [yv] at hu;cases hu;rfl
  rw [this];exact World.cell?_setCell_same (h:=c2) ..
 ·rw [eC _ _ _ _ _ hj] at hu
  rw [World.cell?_setCell_other (h:=fun e=>hj (by simp only [Addr.mk.injEq,true_and,and_true] at e;omega)) ..]
  exact hl j u hu
theorem LeW.unk {W W':World} {g o:Nat} {nm:ByteArray} {v:Vd} {m:Md} {a:Option Addr} {n c:Nat} (h:LeW W W') (hl:Lies W g o (nc nm (unkV v) m (.slice a n c))):Lies W' g o (nc nm (unkV v) m (.slice a n c)):=by
 obtain ⟨v',hv,hc'⟩:=h.node hl
 rcases hv with e | e
 ·rw [e] at hc';exact hc'
 ·rw [e,xX] at hc';exact hc'
theorem F.mp_size (fv:Vd→Vd) (fm:Md→Md):∀ f:F,(f.mp fv fm).size=f.size
 | .nil=>rfl
 | .cons _ _ _ ks r=>by simp only [F.mp,F.size,F.mp_size fv fm ks,F.mp_size fv fm r]
theorem kG.snoc {W:World} {P:Nat→Prop} {nm:ByteArray} {v:Vd} {m:Md} {ks:F}:∀ {f:F} {g o:Nat},kG W P f g o→kG W P (.cons nm v m ks .nil) g (o+f.len*41)→kG W P (f.app (.cons nm v m ks .nil)) g o
 | .nil,g,o,_,h=>by simpa [F.len,F.app] using h
 | .cons _ _ _ _ r,g,o,⟨h1,h2⟩,h=>⟨h1,kG.snoc (f:=r) h2 (by rw [show o+41+r.len*41=o+(r.len+1)*41 from by omega];exact h)⟩
theorem F.mp_take (fv:Vd→Vd) (fm:Md→Md):∀ (f:F) (k:Nat),(f.mp fv fm).take k=(f.take k).mp fv fm
 | f,0=>by rw [F.take_zero,F.take_zero];rfl
 | .nil,k+1=>rfl
 | .cons _ _ _ _ r,k+1=>by show F.cons _ _ _ _ ((r.mp fv fm).take k)=_;rw [F.mp_take fv fm r k];rfl
def FI (P:Nat→Prop) (g:Nat) (W:World) (ks:F) (g' o':Nat) (wr:World) (k:Nat):Prop:=Fg P g W wr∧kG wr P ((ks.mp unkV id).take k) g' o'∧∃ fr:F,fr.mp unkV id=(ks.mp unkV id).drop k∧kG wr P fr g' (o'+k*41)
theorem FI.at {P:Nat→Prop} {g:Nat} {W:World} {ks:F} {g' o':Nat} {wr:World} {k:Nat} (h:FI P g W ks g' o' wr k) (hk:k<ks.len):∃ nm v m k1 r a cap,((ks.mp unkV id).drop k)=.cons nm (unkV v) m (k1.mp unkV id) r∧Lies wr g' (o'+k*41) (nc nm v m (.slice a k1.len cap))∧k1.len≤cap∧(k1=.nil∨∃ g2 o2,a=some ⟨g2,o2,none⟩∧P g2∧kG wr P k1 g2 o2)∧k1.size<ks.size:=by
 obtain ⟨_,_,fr,e,hr⟩:=h
 cases fr with
 | nil=>
  exfalso
  have h1:((ks.mp unkV id).drop k).len=0:=by rw [← e];rfl
  rw [F.yk,F.mp_len] at h1
  omega
 | cons nm v m k1 r=>
  obtain ⟨⟨a,cap,hc,hl,hk1⟩,_⟩:=hr
  refine ⟨nm,v,m,k1,r.mp unkV id,a,cap,e.symm,hc,hl,hk1,?_⟩
  have h1:((ks.mp unkV id).drop k).size≤(ks.mp unkV id).size:=F.bb _ _
  rw [← e,F.mp_size,F.mp_size] at h1
  simp only [F.size] at h1
  omega
theorem FI.step {P:Nat→Prop} {g:Nat} {W:World} {ks:F} {g' o':Nat} {wr w2:World} {k:Nat} (h:FI P g W ks g' o' wr k) (hP:P g') {nm:ByteArray} {v:Vd} {m:Md} {k1 r:F} {a:Option Addr} {cap:Nat} (hd:((ks.mp unkV id).drop k)=.cons nm (unkV v) m (k1.mp unkV id) r)
  (hF:Fg P g' wr w2) (hl:Lies w2 g' (o'+k*41) (nc nm (unkV v) m (.slice a k1.len cap))) (hcap:k1.len≤cap) (hk:k1=.nil∨∃ g2 o2,a=some ⟨g2,o2,none⟩∧P g2∧kG w2 P (k1.mp unkV id) g2 o2):FI P g W ks g' o' w2 (k+1):=by
 obtain ⟨h1,h2,fr,e,hr⟩:=h
 have hk2:k<(ks.mp unkV id).len:=by
  have h1:=F.yk (ks.mp unkV id) k
  rw [hd] at h1
  simp only [F.len] at h1
  omega
 have ht1:=F.zE _ k _ _ _ _ _ hd
 have ht2:=F.bB (ks.mp unkV id) k (by omega)
 have hts:(ks.mp unkV id).take k=(ks.take k).mp unkV id:=F.mp_take unkV id ks k
 have hds:(ks.mp unkV id).drop (k+1)=r:=by
  obtain ⟨_,_,_,_,h1⟩:=F.xO _ k hk2
  rw [hd] at h1
  cases h1
  rfl
 refine ⟨h1.trans hF hP,?_,?_⟩
 ·rw [ht1]
  refine kG.snoc (by rw [hts] at h2 ⊢;exact hF.le.done h2) ?_
  rw [ht2]
  refine ⟨⟨a,cap,by rw [F.mp_len];exact hl,by rw [F.mp_len];exact hcap,?_⟩,trivial⟩
  rcases hk with e | h
  ·subst e;exact .inl rfl
  ·exact .inr h
 ·cases fr with
  | nil=>rw [hd] at e;cases e
  | cons n1 v1 m1 q1 r1=>
   obtain ⟨_,hr1⟩:=hr
   obtain ⟨r',e1,_,hr'⟩:=hF.le.row hr1
   refine ⟨r',?_,by rw [show o'+(k+1)*41=o'+k*41+41 from by omega];exact hr'⟩
   rw [hd] at e
   rw [e1,hds]
   simp only [F.mp,F.cons.injEq] at e
   exact e.2.2.2.2
def FgOk (ks:F):Prop:=∀ (P:Nat→Prop) (g o cap:Nat) (nm:ByteArray) (v:Vd) (m:Md) (a:Option Addr) (W:World),Lies W g o (nc nm v m (.slice a ks.len cap))→ks.len≤cap→(ks=.nil∨∃ g' o',a=some ⟨g',o',none⟩∧P g'∧kG W P ks g' o')→UO W g→(∀ b,P b→UO W b)→ks.len≤100000→
  Calls Tryz.prog 59 #[.pointer (some ⟨g,o,none⟩)] W fun e w'=>e=.returned (.tuple #[])∧Fg P g W w'∧Lies w' g o (nc nm (unkV v) m (.slice a ks.len cap))∧(ks=.nil∨∃ g' o',a=some ⟨g',o',none⟩∧P g'∧kG w' P (ks.mp unkV id) g' o')
theorem gq (ks:F) (ih:∀ k':F,k'.size<ks.size→FgOk k') (hsz:ks.size≤100000):FgOk ks:=by
 intro P g o cap nm v m a W hl hcap hk hu hP hlen
 have c1:=hl 1 _ (aO nm v m _)
 have HL:=hid (⟨hl,hcap,hu,hP,hk,hsz,hlen⟩:_∧_∧_∧_∧_∧_∧_)
 have fz:W.frozen? ⟨g,o+1+1,none⟩=false:=by obtain ⟨c,t,h⟩:=hu;simp [World.frozen?,h]
 have c2:W.cell? ⟨g,o+1+1,none⟩=some (.int .i64 v.mode):=hl 2 _ (yv nm v m _)
 obtain ⟨n,hn⟩:∃ n,ks.len=n:=⟨_,rfl⟩
 have HIH:=hid ih
 have HN:=hid hn
 clear hl hcap hu hP ih hk hsz hlen
 by_cases h3:v.kind=3
 ·have HW1:Hid (Fg P g W W∧Lies W g o (nc nm (unkV v) m (.slice a ks.len cap))):=⟨Fg.refl ..,by unfold unkV;rw [if_pos h3];exact HL.o.1⟩
  rw [h3] at c1
  have l40:=HW1.o.2 40 _ (yA ..)
  rw [hn] at l40
  clear hn
  go_enter Tryz.func59,Tryz.ntmps59
  go_upto_region 2 with fail
  go_wp2_with fail
  rcases HL.o.2.2.2.2.1 with e | ⟨g',o',ha,hPg,hr⟩
  ·obtain rfl:n=0:=by rw [← HN.o,e];rfl
   go_loopw [18] (fun i wr=>i=.int .i64 0∧wr=W) (fun _ _=>0)
   case atStart=>exact ⟨rfl,rfl⟩
   case round=>
    obtain ⟨rfl,rfl⟩:=hrel
    go_wp2_with fail
    go_end0
    exact ⟨rfl,HW1.o.1,HW1.o.2,.inl e⟩
  ·subst ha
   have hn9:n≤100000:=by rw [← HN.o];exact HL.o.2.2.2.2.2.2
   have HG:=hid (⟨hPg,hr⟩:_∧_)
   clear hPg hr
   go_loopw [18] (fun i wr=>∃ k:Nat,i=.int .i64 k∧k≤n∧Hid (FI P g W ks g' o' wr k∧Lies wr g o (nc nm (unkV v) m (.slice (some ⟨g',o',none⟩) ks.len cap)))) (fun i _=>n-iOf i)
   case atStart=>
    obtain ⟨f',e1,_,h1⟩:=HW1.o.1.le.row HG.o.2
    exact ⟨0,rfl,by omega,⟨HW1.o.1,by rw [F.take_zero];trivial,f',by rw [F.drop_zero];exact e1,by simpa using h1⟩,HW1.o.2⟩
   case round=>
    obtain ⟨k,rfl,hk,HR⟩:=hrel
    by_cases hk2:k<n
    ·have hkI:(k:Int)<n:=by omega
     obtain ⟨nm1,v1,m1,k1,r1,a1,cap1,hd,hl1,hcap1,hkk,hs1⟩:=HR.o.1.at (by rw [HN.o];exact hk2)
     have CF:=HIH.o k1 hs1 P g' (o'+k*41) cap1 nm1 v1 m1 a1 wr hl1 hcap1 hkk (HR.o.1.1.uo _ (HL.o.2.2.2.1 g' HG.o.1)) (fun b hb=>HR.o.1.1.uo _ (HL.o.2.2.2.1 b hb)) (by have:=k1.len_le_size;have:=HL.o.2.2.2.2.2.1;omega)
     have j40:=HR.o.2 40 _ (yA ..)
     rw [HN.o] at j40
     have HD:=hid (⟨hd,hcap1⟩:_∧_)
     clear hd hl1 hcap1 hkk hs1
     go_wp2_with (go_at_call 59;refine CF.mono ?_;rintro e w2 ⟨rfl,hF,hl2,hk3⟩;have HQ:=hid (⟨hF,hl2,hk3⟩:_∧_∧_);clear hF hl2 hk3 CF)
     go_roundw
     case rel=>
      refine ⟨k+1,by go_num,by omega,?_⟩
      exact ⟨HR.o.1.step HG.o.1 HD.o.1 HQ.o.1 HQ.o.2.1 HD.o.2 HQ.o.2.2,HQ.o.1.le.unk HR.o.2⟩
     case measure=>simp;omega
    ·have hkI:¬ (k:Int)<n:=by omega
     obtain rfl:k=n:=by omega
     go_wp2_with fail
     go_end0
     refine ⟨rfl,HR.o.1.1,HR.o.2,.inr ⟨g',o',by simp,HG.o.1,?_⟩⟩
     have h1:=HR.o.1.2.1
     rwa [F.xP _ _ (by rw [F.mp_len,HN.o];exact Nat.le_refl _)] at h1
 ·have HW1:Hid (Fg P g W (W.setCell ⟨g,o+1+1,none⟩ (.int .i64 8))∧Lies (W.setCell ⟨g,o+1+1,none⟩ (.int .i64 8)) g o (nc nm (unkV v) m (.slice a ks.len cap))):=⟨Fg.store HL.o.1 h3,rV HL.o.1 h3⟩
  have l40:=HW1.o.2 40 _ (yA ..)
  rw [hn] at l40
  clear hn
  have hb:(v.kind !=3)=true:=by simpa using h3
  go_enter Tryz.func59,Tryz.ntmps59
  go_upto_region 2 with fail
  generalize W.setCell ⟨g,o+1+1,none⟩ (.int .i64 8)=W1 at *
  go_wp2_with fail
  rcases HL.o.2.2.2.2.1 with e | ⟨g',o',ha,hPg,hr⟩
  ·obtain rfl:n=0:=by rw [← HN.o,e];rfl
   go_loopw [18] (fun i wr=>i=.int .i64 0∧wr=W1) (fun _ _=>0)
   case atStart=>exact ⟨rfl,rfl⟩
   case round=>
    obtain ⟨rfl,rfl⟩:=hrel
    go_wp2_with fail
    go_end0
    exact ⟨rfl,HW1.o.1,HW1.o.2,.inl e⟩
  ·subst ha
   have hn9:n≤100000:=by rw [← HN.o];exact HL.o.2.2.2.2.2.2
   have HG:=hid (⟨hPg,hr⟩:_∧_)
   clear hPg hr
   go_loopw [18] (fun i wr=>∃ k:Nat,i=.int .i64 k∧k≤n∧Hid (FI P g W ks g' o' wr k∧Lies wr g o (nc nm (unkV v) m (.slice (some ⟨g',o',none⟩) ks.len cap)))) (fun i _=>n-iOf i)
   case atStart=>
    obtain ⟨f',e1,_,h1⟩:=HW1.o.1.le.row HG.o.2
    exact ⟨0,rfl,by omega,⟨HW1.o.1,by rw [F.take_zero];trivial,f',by rw [F.drop_zero];exact e1,by simpa using h1⟩,HW1.o.2⟩
   case round=>
    obtain ⟨k,rfl,hk,HR⟩:=hrel
    by_cases hk2:k<n
    ·have hkI:(k:Int)<n:=by omega
     obtain ⟨nm1,v1,m1,k1,r1,a1,cap1,hd,hl1,hcap1,hkk,hs1⟩:=HR.o.1.at (by rw [HN.o];exact hk2)
     have CF:=HIH.o k1 hs1 P g' (o'+k*41) cap1 nm1 v1 m1 a1 wr hl1 hcap1 hkk (HR.o.1.1.uo _ (HL.o.2.2.2.1 g' HG.o.1)) (fun b hb=>HR.o.1.1.uo _ (HL.o.2.2.2.1 b hb)) (by have:=k1.len_le_size;have:=HL.o.2.2.2.2.2.1;omega)
     have j40:=HR.o.2 40 _ (yA ..)
     rw [HN.o] at j40
     have HD:=hid (⟨hd,hcap1⟩:_∧_)
     clear hd hl1 hcap1 hkk hs1
     go_wp2_with (go_at_call 59;refine CF.mono ?_;rintro e w2 ⟨rfl,hF,hl2,hk3⟩;have HQ:=hid (⟨hF,hl2,hk3⟩:_∧_∧_);clear hF hl2 hk3 CF)
     go_roundw
     case rel=>
      refine ⟨k+1,by go_num,by omega,?_⟩
      exact ⟨HR.o.1.step HG.o.1 HD.o.1 HQ.o.1 HQ.o.2.1 HD.o.2 HQ.o.2.2,HQ.o.1.le.unk HR.o.2⟩
     case measure=>simp;omega
    ·have hkI:¬ (k:Int)<n:=by omega
     obtain rfl:k=n:=by omega
     go_wp2_with fail
     go_end0
     refine ⟨rfl,HR.o.1.1,HR.o.2,.inr ⟨g',o',by simp,HG.o.1,?_⟩⟩
     have h1:=HR.o.1.2.1
     rwa [F.xP _ _ (by rw [F.mp_len,HN.o];exact Nat.le_refl _)] at h1
theorem dI:∀ (n:Nat) (ks:F),ks.size<n→ks.size≤100000→FgOk ks
 | 0,_,h,_=>absurd h (Nat.not_lt_zero _)
 | n+1,ks,h,hs=>gq ks (fun k' hk=>dI n k' (by omega) (by omega)) hs
theorem gx (p:Nat) (v:Vd) (m:Md) (k:K) (w:World) (ver:Int) (hv:ver<2) (hT:AtT w p v m k) (hsz:k.flat.size≤100000) (hw:k.flat.weight≤100000) (hE:qT (unkV v) m (k.flat.mp unkV id)=0):
  Calls Tryz.prog 34 #[.pointer (some ⟨p,0,none⟩),.int .i64 ver] w fun e w'=>∃ p2 k2,e=.returned (.pointer (some ⟨p2,0,none⟩))∧AtT w' p2 (unkV v) m k2∧k2.flat=k.flat.mp unkV id∧G w w':=by
 have CN:=zO (k.flat.size+1) k (Nat.lt_succ_self _) p v m w hT hsz
 have HH:=hid (⟨hsz,hw,hE⟩:_∧_∧_)
 have hv2:¬ (2≤ver):=by omega
 clear hT hsz hw hE hv
 go_enter Tryz.func34,Tryz.ntmps34
 go_upto_region 4 with (first
  | (go_at_call 15;refine CN.mono ?_;rintro e w2 ⟨c',rfl,hN,hg2⟩;have HF:=hid hN.facts;have HN:=hid (⟨hN,hg2⟩:_∧_);clear hN hg2 CN;obtain ⟨B,hB⟩:∃ B,w2.heap.size=B:=⟨_,rfl⟩)
  | ((with_reducible refine jE (.pointer (some ⟨B,0,none⟩)) (w2.alloc (.cells z30 30)) ?_ ?_ ?_);exact qY rfl w2 B hB;kernel_rfl)
  | ((with_reducible refine jD ((w2.alloc (.cells z30 30)).setRow B c') ?_ ?_ ?_);exact jK 30 _ _ rfl B c' z30 rfl rfl _ (by rw [← hB];exact World.alloc_heap_new w2 _) (by rw [HF.o.1];kernel_rfl) (by rw [jV,HF.o.1]) HF.o.2;kernel_rfl))
 try simp only [Act.put,List.setIfInBounds_toArray,List.set_cons_zero,List.set_cons_succ]
 have N4:=qW w2 30 z30 c'
 rw [hB] at N4
 generalize (w2.alloc (.cells z30 30)).setRow B c'=w4 at *
 obtain ⟨kv,hc,ka,kcap,hkv,hcap,hks⟩:=HN.o.1
 subst hkv
 have hlB:Lies w4 B 0 (nc ⟨#[]⟩ v m (.slice ka k.flat.len kcap)):=by rw [← hc];exact jC N4.2.1
 have hB2:w.heap.size≤B:=by have:=HN.o.2.size;omega
 have CF:=dI (k.flat.size+1) k.flat (Nat.lt_succ_self _) HH.o.1 (NewC w w2) B 0 kcap _ v m ka w4 hlB hcap (hks.imp id fun ⟨g',o',h1,h2,h3⟩=>⟨g',o',h1,h2,h3.keep (fun b hb=>⟨by obtain ⟨_,o,ho,_⟩:=hb;exact N4.1.block b (ga ho).1,hb⟩) (by obtain ⟨_,o,ho,_⟩:=h2;exact N4.1.block g' (ga ho).1)⟩) ⟨_,_,N4.2.1⟩ (fun b hb=>by
  obtain ⟨_,o,ho,hp⟩:=hb
  have h1:=(N4.1.block b (ga ho).1).trans ho
  cases o with
  | cells c t fr=>
   have:fr=(0,0):=by simpa [aW] using hp
   subst this
   exact ⟨c,t,h1⟩
  | _=>cases hp) (by have:=k.flat.len_le_size;have:=HH.o.1;omega)
 have H4:=hid (⟨N4,hB2,hcap⟩:_∧_∧_)
 clear hlB N4 hks hcap hc HF
 go_upto_region 5 with (go_at_call 59;refine CF.mono ?_;rintro e w5 ⟨rfl,hF,hl5,hk5⟩;have H5:=hid (⟨hF,hl5,hk5⟩:_∧_∧_);clear hF hl5 hk5 CF)
 have hN5:HasN w5 (nc ⟨#[]⟩ (unkV v) m (.slice ka k.flat.len kcap)) ⟨#[]⟩ (unkV v) m (k.flat.mp unkV id):=by
  refine ⟨_,rfl,ka,kcap,by rw [F.mp_len],by rw [F.mp_len];exact H4.o.2.2,?_⟩
  rcases H5.o.2.2 with e | ⟨g',o',h1,_,h3⟩
  ·rw [e];exact .inl rfl
  ·exact .inr ⟨g',o',h1,h3.has⟩
 have CO:=eL _ _ _ _ _ w5 hN5 (by rw [F.mp_weight];exact HH.o.2.1)
 rw [HH.o.2.2] at CO
 have HL5:=hid (H5.o.2.1)
 clear hN5
 have hsz5:(nc ⟨#[]⟩ (unkV v) m (.slice ka k.flat.len kcap)).size=41:=jO ..
 generalize nc ⟨#[]⟩ (unkV v) m (.slice ka k.flat.len kcap)=C5 at *
 go_upto_region 6 with (first
  | ((with_reducible refine jA (.agg C5) ?_ ?_ ?_);exact jH _ rfl B 0 rfl C5 hsz5 HL5.o;kernel_rfl)
  | (go_at_call 29;refine CO.mono ?_;rintro e w6 ⟨u,rfl,hg6,hr⟩;obtain ⟨h0,_⟩ | ⟨_,p2,k2,rfl,hA,hfl,_,_⟩:=hr;exact absurd rfl h0;have H6:=hid (⟨hg6,hA,hfl⟩:_∧_∧_);clear hg6 hA hfl CO))
 go_wp2
 refine bodyPost_ret (results_tmp rfl _ _ _) rfl ⟨p2,k2,rfl,H6.o.2.1,H6.o.2.2,?_⟩
 have g5:G w w5:=by
  have hg4:G w w4:=HN.o.2.trans H4.o.1.1
  have hF:=H5.o.1
  exact Below.trans (B:=w.heap.size) hg4 ⟨hF.le.os,hF.le.tape,hF.le.output,hF.le.size,fun b hb=>hF.oth b (by have:=hg4.size;omega) (fun h=>by have:=h.1;omega) (fun e=>by have:=H4.o.2.1;omega)⟩
 exact g5.trans H6.o.1
end Go.Proofs.YtjikkhbcbfpocaaGreatDoor
namespace Go.Proofs.YtjikkhbcbfpocaaGreatDoor
open Go.RowKit Go.Shelf
def wrV (ver:Int) (v:Vd):Vd:=if ver<2 then unkV v else v
def wrF (ver:Int) (f:F):F:=if ver<2 then f.mp unkV id else f
theorem cOk.unk {v:Vd} {m:Md} (h:cOk v m):cOk (unkV v) m:=by
 unfold unkV
 split
 ·exact h
 ·exact ⟨h.1,⟨⟨by show (0:Int)≤8;omega,by show (8:Int)<_;omega⟩,h.2.1.2⟩,⟨by show (0:Int)≤8;omega,by show (8:Int)<_;omega⟩,h.2.2.2⟩
theorem gOk.unk:∀ {f:F},gOk f→gOk (f.mp unkV id)
 | .nil,_=>trivial
 | .cons _ _ _ _ _,h=>⟨h.1,h.2.1.unk,gOk.unk h.2.2.1,gOk.unk h.2.2.2⟩
theorem nOk.unk:∀ {f:F},nOk f→nOk (f.mp unkV id)
 | .nil,_=>trivial
 | .cons _ _ _ _ _,h=>⟨h.1,nOk.unk h.2.1,nOk.unk h.2.2⟩
theorem oH {w:World} {lo lo':Nat} {u:Value} {l:List Nat} (h:Su.Owns w lo u l) (hl:lo'≤lo):Su.Owns w lo' u l:=by
 obtain ⟨h1,h | ⟨g,cap,cur,h2,h3,h4⟩⟩:=h
 ·exact ⟨h1,.inl h⟩
 ·exact ⟨h1,.inr ⟨g,cap,cur,h2,Nat.le_trans hl h3,h4⟩⟩
theorem oI {ver kind count most:Int} (h:encE ver kind count most=0):1≤ver∧ver≤3∧kind=1∧count≤min (max most 1) 1048576:=by
 unfold encE at h
 split at h
 ·omega
 ·split at h
  ·omega
  ·split at h
   ·omega
   ·omega
theorem zK (p:Nat) (v:Vd) (m:Md) (k:K) (w:World) (ver most:Int) (hT:AtT w p v m k) (hc:cOk v m) (hg:gOk k.flat) (hn:nOk k.flat) (hsz:k.flat.size≤40000) (hw:k.flat.weight≤100000) (hE:qT (unkV v) m (k.flat.mp unkV id)=0) (hTb:Su.Tabs w) (hTh:Su.Half w):
  Calls Tryz.prog 11 #[.pointer (some ⟨p,0,none⟩),.int .i64 ver,.int .i64 most] w fun e w'=>(encE ver v.kind (1+k.flat.size:Nat) most≠0∧e=.returned (.tuple #[.slice none 0 0,.int .i64 (encE ver v.kind (1+k.flat.size:Nat) most)])∧G w w')∨
   (encE ver v.kind (1+k.flat.size:Nat) most=0∧∃ u,e=.returned (.tuple #[u,.int .i64 0])∧Su.Owns w' w.heap.size u (arcW ver.toNat (wrV ver v) m (wrF ver k.flat))∧G w w'):=by
 refine mL p v m k w ver most hT (by omega) (fun u w'=>Su.Owns w' w.heap.size u (arcW ver.toNat (wrV ver v) m (wrF ver k.flat))∧G w w') fun h0 W hG=>?_
 obtain ⟨h1,h2,hk,_⟩:=oI h0
 obtain ⟨n,rfl⟩:∃ n:Nat,ver=n:=⟨ver.toNat,by omega⟩
 have key:∀ (p2:Nat) (v2:Vd) (k2:K) (w2:World),AtT w2 p2 v2 m k2→v2.kind=1→cOk v2 m→gOk k2.flat→nOk k2.flat→k2.flat.size≤40000→G w w2→Calls Tryz.prog 33 #[.pointer (some ⟨p2,0,none⟩),.int .i64 (n:Int)] w2 fun e w''=>∃ u,e=.returned u∧Su.Owns w'' w.heap.size u (arcW n v2 m k2.flat)∧G w w'':=by
  intro p2 v2 k2 w2 hA hk2 hc2 hg2 hn2 hs2 hG2
  have hl:=iw n (by omega) hc2 hg2 hn2 (by omega)
  refine (gr p2 v2 m k2 w2 n (by omega) hA hk2 hc2 hg2 (by omega) (hTb.up hG2) (hTh.below hG2 hTh.size) (by omega) (dL n hc2 hg2)).mono ?_
  rintro e w3 ⟨u,rfl,ho,hG3⟩
  exact ⟨u,rfl,oH ho hG2.size,hG2.trans hG3⟩
 by_cases hv:(n:Int)<2
 ·refine (gx p v m k W n hv (hT.grow hG) (by omega) hw hE).mono ?_
  rintro e w2 ⟨p2,k2,rfl,hA,hf,hG2⟩
  refine ⟨p2,rfl,?_⟩
  have:=key p2 (unkV v) k2 w2 hA (by rw [pU];exact hk) hc.unk (by rw [hf];exact hg.unk) (by rw [hf];exact hn.unk) (by rw [hf,F.mp_size];exact hsz) (hG.trans hG2)
  unfold wrV wrF
  rw [if_pos hv,if_pos hv,← hf]
  exact this
 ·refine (fR p n (by omega) W).mono ?_
  rintro e w2 ⟨rfl,rfl⟩
  refine ⟨p,rfl,?_⟩
  have:=key p v k w2 (hT.grow hG) hk hc hg hn hsz hG
  unfold wrV wrF
  rw [if_neg hv,if_neg hv]
  exact this
theorem kt {n s:Int} (h:qB n s=true):(0≤n∧n<9223372036854775808)∧(0≤s∧s<9223372036854775808):=by
 unfold qB at h
 have:=of_decide_eq_true h
 omega
theorem bW {v:Vd} {m:Md} {b:Bool} (h:ownE v m b=0) (hB:Su.Bytes v.sum):cOk v m:=by
 unfold ownE at h
 by_cases c1:v.kind≠1∧v.kind≠2∧v.kind≠3
 ·rw [if_pos c1] at h;omega
 ·rw [if_neg c1] at h
  by_cases c2:b=true∧v.kind≠1
  ·rw [if_pos c2] at h;omega
  ·rw [if_neg c2] at h
   by_cases c3:qC v=false
   ·rw [if_pos c3] at h;omega
   ·rw [if_neg c3] at h
    have c3:qC v=true:=by simpa using c3
    have hkind:v.kind=1∨v.kind=2∨v.kind=3:=by omega
    have hv:(0≤v.mode∧v.mode≤8)∧(0≤v.size∧v.size≤1099511627775):=by
     unfold qC at c3
     rcases hkind with e | e | e
     ·rw [if_pos e] at c3;have:=of_decide_eq_true c3;omega
     ·rw [if_neg (by omega),if_pos e] at c3;have:=of_decide_eq_true c3;omega
     ·rw [if_neg (by omega),if_neg (by omega),if_pos e] at c3;have:=of_decide_eq_true c3;omega
    have hm:mOk m:=by
     by_cases e:v.kind=2
     ·by_cases c4:v.kind=2∧(qB m.n0 m.s0=false∨qB m.n1 m.s1=false)
      ·rw [if_pos c4] at h;omega
      ·have a1:qB m.n0 m.s0=true:=by
        cases q:qB m.n0 m.s0 with
        | true=>rfl
        | false=>exact absurd ⟨e,.inl q⟩ c4
       have a2:qB m.n1 m.s1=true:=by
        cases q:qB m.n1 m.s1 with
        | true=>rfl
        | false=>exact absurd ⟨e,.inr q⟩ c4
       exact ⟨(kt a1).1,(kt a1).2,(kt a2).1,(kt a2).2⟩
     ·rw [if_neg (fun q=>e q.1)] at h
      by_cases c5:v.kind≠2∧m≠Md.zero
      ·rw [if_pos c5] at h;omega
      ·have:m=Md.zero:=Classical.byContradiction fun q=>c5 ⟨e,q⟩
       rw [this]
       unfold mOk Md.zero
       simp
    exact ⟨hkind,⟨⟨hv.1.1,by omega⟩,⟨hv.2.1,by omega⟩,hB⟩,⟨hv.1.1,by omega⟩,hm⟩
theorem zt {prev:Option ByteArray} {nm:ByteArray} {lev:Nat} (h:kJ prev nm lev=0):lev≤64∧yu (tl nm)=true∧leP nm prev=false:=by
 unfold kJ at h
 split at h
 ·omega
 ·split at h
  ·omega
  ·split at h
   ·omega
   ·rename_i q1 q2 q3
    exact ⟨by omega,by simpa using q2,by simpa using q3⟩
theorem dF {nm:ByteArray} (h:yu (tl nm)=true):nm.size≤255:=by
 have:=(of_decide_eq_true h).2.1
 rwa [ko] at this
theorem qx {nm:ByteArray} {v:Vd} {m:Md} {ks r:F} {prev:Option ByteArray} {L:List ByteArray} (h:jt (.cons nm v m ks r) prev L=none):kJ prev nm (L.length+1)=0∧ownE v m (decide (0<ks.len))=0∧jt ks none (L++[nm])=none∧jt r (some nm) L=none:=by
 unfold jt at h
 split at h
 ·cases h
 ·split at h
  ·cases h
  ·rename_i q1 q2
   cases hk:jt ks none (L++[nm]) with
   | some x=>rw [hk] at h;cases h
   | none=>
    rw [hk] at h
    exact ⟨by omega,by omega,rfl,h⟩
theorem yW:∀ {f:F} {prev:Option ByteArray} {L:List ByteArray},jt f prev L=none→bytF f→gOk f∧nOk f
 | .nil,_,_,_,_=>⟨trivial,trivial⟩
 | .cons nm v m ks r,prev,L,h,hb=>by
  obtain ⟨a,b,c,d⟩:=qx h
  have hs:=dF (zt a).2.1
  have h1:=yW c hb.2.1
  have h2:=yW d hb.2.2
  exact ⟨⟨by omega,bW b hb.1,h1.1,h2.1⟩,⟨hs,h1.2,h2.2⟩⟩
theorem bX:∀ {f:F} {prev:Option ByteArray} {L:List ByteArray} {x:List ByteArray × Int},jt f prev L=some x→x.2≠0
 | .nil,_,_,_,h=>by cases h
 | .cons nm v m ks r,prev,L,x,h=>by
  unfold jt at h
  split at h
  ·rename_i q
   cases h
   exact q
  ·split at h
   ·rename_i q1 q
    cases h
    exact q
   ·cases hk:jt ks none (L++[nm]) with
    | some y=>
     rw [hk] at h
     cases h
     exact bX hk
    | none=>
     rw [hk] at h
     exact bX h
theorem jl {v:Vd} {m:Md} {ks:F} (h:qT v m ks=0):ownE v m (decide (0<ks.len))=0∧jt ks none []=none:=by
 unfold qT qS at h
 split at h
 ·rename_i q
  exact absurd h q
 ·rename_i q
  refine ⟨by omega,?_⟩
  cases hk:jt ks none [] with
  | none=>rfl
  | some x=>
   rw [hk] at h
   exact absurd h (bX hk)
theorem xL {v:Vd} {m:Md} {ks:F} (h1:ownE v m (decide (0<ks.len))=0) (h2:jt ks none []=none):qT v m ks=0:=by
 unfold qT qS
 rw [if_neg (by omega),h2]
 rfl
theorem aD {n:Nat} (h:n<128):encN n=[n]:=by
 unfold encN
 rw [Wire.cZ h]
 rfl
structure PlS (l:List Int) (s:Wi.St):Prop where
 p:s.p≤l.length
 fa:s.fe=12→0≤s.fa∧s.fa≤l.length
structure Pl (l:List Int) (r:Rv):Prop where
 s:PlS l r.s
 flt:∀ x,r.flt=some x→(0≤x.1∧x.1≤l.length)∧(x.2=63∨x.2=64)
 st:∀ x∈r.st,x.pl≤l.length
theorem Pl.ref {l:List Int} {r:Rv} (h:Pl l r) {a e:Int} (ha:0≤a∧a≤l.length) (he:e=63∨e=64):Pl l (refR a e r):=by
 refine ⟨h.s,fun x hx=>?_,h.st⟩
 unfold refR at hx
 simp only [Option.some.injEq] at hx
 subst hx
 cases q:r.flt with
 | none=>exact ⟨ha,he⟩
 | some y=>exact h.flt y q
theorem Pl.must {l:List Int} {r:Rv} (h:Pl l r) {a:Int} (ok:Bool) (ha:0≤a∧a≤l.length):Pl l (qy a ok r):=by
 unfold qy
 split
 ·exact h.ref ha (.inl rfl)
 ·exact h
theorem Pl.bound {l:List Int} {r:Rv} (h:Pl l r):Pl l (km r):=by
 unfold km
 split
 ·exact h.ref (h.s.fa (by assumption)) (.inr rfl)
 ·exact h
theorem Pl.wire {l:List Int} {r:Rv} (h:Pl l r) {s:Wi.St} (hs:PlS l s):Pl l { r with s:=s }:=⟨hs,h.flt,h.st⟩
theorem PlS.at {l:List Int} {s:Wi.St} (h:PlS l s):0≤(s.p:Int)∧(s.p:Int)≤l.length:=by have:=h.p;omega
theorem PlS.uint {l:List Int} {s:Wi.St} (h:PlS l s) (most:Nat):PlS l (Wi.uintS l s most).2:=by
 unfold Wi.uintS
 split
 ·exact h
 ·split
  ·rename_i n k q
   have:=(Wire.sY _ _ _ _ q).2
   rw [List.length_drop] at this
   have hp:=h.p
   split
   ·exact ⟨by simp only;omega,h.fa⟩
   ·exact ⟨h.p,fun _=>h.at⟩
  ·exact ⟨h.p,fun q=>by simp at q⟩
  ·exact ⟨h.p,fun q=>by simp at q⟩
theorem PlS.byte {l:List Int} {s:Wi.St} (h:PlS l s):PlS l (Wi.byteS l s).2:=by
 unfold Wi.byteS
 split
 ·exact h
 ·split
  ·exact ⟨by simp only;omega,h.fa⟩
  ·exact ⟨h.p,fun q=>by simp at q⟩
theorem PlS.raw {l:List Int} {s:Wi.St} (h:PlS l s) (n:Int):PlS l (Wi.rawS l s n):=by
 unfold Wi.rawS
 split
 ·exact h
 ·split
  ·exact ⟨h.p,fun q=>by simp at q⟩
  ·exact ⟨by simp only;omega,h.fa⟩
theorem PlS.text {l:List Int} {s:Wi.St} (h:PlS l s) (n:Int):PlS l (Wi.textS l s n).2:=by
 unfold Wi.textS
 split
 ·exact h
 ·split
  ·split
   ·exact ⟨h.p,fun _=>h.at⟩
   ·split
    ·exact ⟨h.p,fun q=>by simp at q⟩
    ·exact ⟨by simp only;omega,h.fa⟩
  ·exact ⟨h.p,fun q=>by simp at q⟩
  ·exact ⟨h.p,fun q=>by simp at q⟩
theorem PlS.end {l:List Int} {s:Wi.St} (h:PlS l s):PlS l (Wi.endS l s):=by
 unfold Wi.endS
 split
 ·exact h
 ·split
  ·exact ⟨h.p,fun q=>by simp at q⟩
  ·exact h
theorem Pl.num {l:List Int} {r:Rv} (h:Pl l r) (least:Int) (most:Nat):Pl l (numR l least most r).2:=(h.wire (h.s.uint most)).must _ h.s.at
theorem Pl.sum {l:List Int} {r:Rv} (h:Pl l r):Pl l (sumR l r).2:=(h.wire (h.s.raw 32)).must _ h.s.at
theorem Pl.mod {l:List Int} {r:Rv} (h:Pl l r) (ver:Int):Pl l (modR l ver r).2:=by
 unfold modR
 split
 ·exact h
 ·exact (h.wire h.s.byte).must _ h.s.at
theorem Pl.mark {l:List Int} {r:Rv} (h:Pl l r):Pl l (ky l r).2:=by
 unfold ky
 split
 ·exact (h.num _ _).num _ _
 ·exact (h.num _ _).num _ _
theorem Pl.marks {l:List Int} {r:Rv} (h:Pl l r) (ver:Int):Pl l (kn l ver r).2:=by
 unfold kn
 split
 ·exact h
 ·exact h.mark.mark
theorem Pl.con {l:List Int} {r:Rv} (h:Pl l r) (least:Int) (most:Nat):Pl l (conR l least most r).2:=(h.num _ _).sum
theorem Pl.name {l:List Int} {r:Rv} (h:Pl l r) (last:ByteArray):Pl l (bP l last r).2:=(h.wire (h.s.text 255)).bound.must _ h.s.at
theorem Pl.pre {l:List Int} {r:Rv} (h:Pl l r) (deep:Nat):Pl l (preR deep r):=by
 unfold preR
 split
 ·exact h.ref h.s.at (.inl rfl)
 ·split
  ·exact h.ref h.s.at (.inr rfl)
  ·exact h
theorem Pl.kind {l:List Int} {r:Rv} (h:Pl l r) (deep:Nat):Pl l (qs l deep r).2:=by
 have q:Pl l (qy r.s.p (kOk deep (Wi.byteS l r.s).1) { preR deep r with s:=(Wi.byteS l r.s).2 }):=((h.pre deep).wire h.s.byte).must _ h.s.at
 exact ⟨q.s,q.flt,q.st⟩
theorem Pl.head {l:List Int} {r:Rv} (h:Pl l r) (u:Option (List ByteArray)) (last:ByteArray):Pl l (qP l u last r).2:=by
 unfold qP ey
 cases u with
 | none=>exact h.kind _
 | some x=>exact (h.kind _).name _
theorem Pl.kids {l:List Int} (nd:ByteArray→Rv→Nd × Rv) (hn:∀ last r,Pl l r→Pl l (nd last r).2):∀ (n:Nat) (f:F) (last:ByteArray) (r:Rv),Pl l r→Pl l (kidL nd n f last r).2
 | 0,_,_,_,h=>h
 | n+1,f,last,r,h=>by
  unfold kidL
  split
  ·exact h
  ·exact Pl.kids nd hn n _ _ _ (hn last r h)
theorem Pl.kidE {l:List Int} {here:List ByteArray} {pl:Nat} {hs:List Nat} {x:Option F × Rv} (h:Pl l x.2) (hp:pl≤l.length):Pl l (kidE here pl hs x).2:=by
 unfold Go.Proofs.YtjikkhbcbfpocaaGreatDoor.kidE
 split
 ·exact h
 ·exact ⟨h.s,h.flt,fun y hy=>by
   rcases List.mem_append.1 hy with q | q
   ·exact h.st y q
   ·rw [List.mem_singleton.1 q];exact hp⟩
theorem Pl.node {l:List Int} {ver:Int}:∀ (n:Nat) (u:Option (List ByteArray)) (last:ByteArray) (r:Rv),Pl l r→Pl l (jz l ver n u last r).2
 | 0,_,_,_,h=>⟨h.s,h.flt,h.st⟩
 | n+1,u,last,r,h=>by
  unfold jz
  have hh:=h.head u last
  unfold yh
  split
  ·exact hh
  ·split
   ·have hc:=(hh.mod ver).num 0 ((modR l ver (qP l u last r).2).2.left.toNat)
    exact Pl.kidE (Pl.kids _ (fun la r' q=>Pl.node n _ la r' q) _ _ _ _ hc.sum) hc.s.p
   ·split
    ·exact ((hh.con _ _).mod ver).marks ver
    ·split
     ·exact hh.con _ _
     ·exact hh
def Okr (r:Rv):Prop:=r.s.fe=0∧r.flt=none
def adv (r:Rv) (k:Nat):Rv:={ r with s:=⟨r.s.p+k,r.s.fa,r.s.fe⟩ }
theorem Okr.adv {r:Rv} (h:Okr r) (k:Nat):Okr (adv r k):=h
theorem zD (r:Rv) (a b:Nat):adv (adv r a) b=adv r (a+b):=by unfold adv;simp only [Nat.add_assoc]
theorem qE {l:List Int} {r:Rv} {X Y:List Nat} (h:l.drop r.s.p=up (X++Y)):l.drop (adv r X.length).s.p=up Y:=by
 show l.drop (r.s.p+X.length)=_
 rw [← List.drop_drop,h,qQ,List.drop_append,qu]
 simp [up]
theorem zu {a:Int} {r:Rv} (h:r.s.fe=0):qy a true r=r:=by unfold qy;rw [if_neg (by simp [h])]
theorem fE {l:List Int} {least:Int} {most n:Nat} {r:Rv} {Y:List Nat} (h0:Okr r) (hd:l.drop r.s.p=up (encN n++Y)) (h1:least≤(n:Int)) (h2:n≤most) (h3:n<18446744073709551616):numR l least most r=(n,adv r (encN n).length):=by
 have hr:Wire.rd 0 (l.drop r.s.p)=.ok n (Wire.enc n).length:=by rw [hd,qQ,zx];exact Wire.gL _ h3
 have hu:Wi.uintS l r.s most=(n,⟨r.s.p+(encN n).length,r.s.fa,r.s.fe⟩):=by
  unfold Wi.uintS
  rw [if_neg (by rw [h0.1];simp),hr]
  simp only
  rw [if_pos h2,yP]
 unfold numR
 rw [hu]
 simp only
 rw [decide_eq_true h1,zu (r:=⟨⟨r.s.p+(encN n).length,r.s.fa,r.s.fe⟩,r.left,r.flt,r.st⟩) h0.1]
 rfl
theorem vL {h:List Nat} (hl:h.length=32):b32 (up h)=h:=by
 unfold b32
 rw [if_pos (by rw [qu];exact hl)]
 unfold up
 rw [List.map_map]
 conv=>rhs;rw [← List.map_id h]
 exact List.map_congr_left fun x _=>by simp [Function.comp]
theorem tI {l:List Int} {p:Nat} {X Y:List Nat} (h:l.drop p=up (X++Y)):X.length≤l.length-p:=by
 have:=congrArg List.length h
 rw [List.length_drop,qu,List.length_append] at this
 omega
theorem tK {l:List Int} {h Y:List Nat} {r:Rv} (h0:Okr r) (hl:h.length=32) (hd:l.drop r.s.p=up (h++Y)):sumR l r=(h,adv r h.length):=by
 have hg:=tI hd
 have e32:(32:Int).toNat=32:=rfl
 have hraw:Wi.rawB l r.s 32=up h:=by
  unfold Wi.rawB
  rw [e32,if_neg (by rw [h0.1];simp),if_neg (by omega),hd,qQ,List.take_append_of_le_length (by rw [qu];omega),List.take_of_length_le (by rw [qu];omega)]
 have hrs:Wi.rawS l r.s 32=⟨r.s.p+32,r.s.fa,r.s.fe⟩:=by
  unfold Wi.rawS
  rw [e32,if_neg (by rw [h0.1];simp),if_neg (by omega)]
 unfold sumR
 rw [hraw,hrs,vL hl,zu (r:=⟨⟨r.s.p+32,r.s.fa,r.s.fe⟩,r.left,r.flt,r.st⟩) h0.1,hl]
 rfl
theorem nZ {l:List Int} {c:Nat} {Y:List Nat} {r:Rv} (h0:Okr r) (hd:l.drop r.s.p=up (c::Y)):Wi.byteS l r.s=((c:Int),⟨r.s.p+1,r.s.fa,r.s.fe⟩):=by
 have hlt:r.s.p<l.length:=by
  have:=congrArg List.length hd
  rw [List.length_drop,qu,List.length_cons] at this
  omega
 have hc:l[r.s.p]?.getD 0=(c:Int):=by
  rw [gl hlt]
  rw [List.drop_eq_getElem_cons hlt] at hd
  injection hd
 unfold Wi.byteS
 rw [if_neg (by rw [h0.1];simp),if_pos hlt,hc]
theorem tL {l:List Int} {ver:Int} {v:Vd} {Y:List Nat} {r:Rv} (h0:Okr r) (hm:0≤v.mode∧v.mode≤8) (h8:ver<2→v.mode=8) (hd:l.drop r.s.p=up (modB ver v++Y)):modR l ver r=(v.mode,adv r (modB ver v).length):=by
 unfold modR modB at *
 by_cases hv:ver<2
 ·rw [if_pos hv,if_neg (by omega),h8 hv]
  rfl
 ·rw [if_neg hv,if_pos (by omega)]
  rw [if_pos (by omega)] at hd
  rw [nZ h0 hd]
  have e:((v.mode.toNat:Nat):Int)=v.mode:=by omega
  simp only [e]
  rw [decide_eq_true hm.2,zu (r:=⟨⟨r.s.p+1,r.s.fa,r.s.fe⟩,r.left,r.flt,r.st⟩) h0.1]
  rfl
theorem nf {l:List Int} {a b:Nat} {Y:List Nat} {r:Rv} (h0:Okr r) (hm:qB a b=true) (hd:l.drop r.s.p=up (encN a++(encN b++Y))):ky l r=((a,b),adv r ((encN a).length+(encN b).length)):=by
 have hm:=of_decide_eq_true hm
 have e1:=fE (least:=0) (most:=kE) h0 hd (by omega) (by unfold kE;omega) (by omega)
 have hd2:=qE hd
 unfold ky
 rw [e1]
 simp only
 by_cases ha:a=0
 ·rw [if_pos ha]
  have e2:=fE (least:=0) (most:=0) (h0.adv (encN a).length) hd2 (by omega) (by omega) (by omega)
  rw [e2,zD,ha]
 ·rw [if_neg ha]
  have e2:=fE (least:=1) (most:=kE) (h0.adv (encN a).length) hd2 (by omega) (by unfold kE;omega) (by omega)
  rw [e2,zD]
def mz (ver:Int) (m:Md):Md:=if ver<3 then Md.zero else m
theorem rH {l:List Int} {ver:Int} {m:Md} {Y:List Nat} {r:Rv} (h0:Okr r) (h1:qB m.n0 m.s0=true) (h2:qB m.n1 m.s1=true) (hd:l.drop r.s.p=up (marB ver m++Y)):kn l ver r=(mz ver m,adv r (marB ver m).length):=by
 unfold kn marB mz at *
 by_cases hv:ver<3
 ·rw [if_pos hv,if_pos hv,if_pos hv]
  rfl
 ·rw [if_neg hv] at hd
  rw [if_neg hv,if_neg hv,if_neg hv]
  have p1:=(kt h1)
  have p2:=(kt h2)
  have c0:((m.n0.toNat:Nat):Int)=m.n0:=by omega
  have c1:((m.s0.toNat:Nat):Int)=m.s0:=by omega
  have c2:((m.n1.toNat:Nat):Int)=m.n1:=by omega
  have c3:((m.s1.toNat:Nat):Int)=m.s1:=by omega
  have hb:mkB m 2=encN m.n0.toNat++(encN m.s0.toNat++(encN m.n1.toNat++encN m.s1.toNat)):=by
   simp [mkB,mN,mS]
  rw [hb] at hd ⊢
  simp only [List.append_assoc] at hd
  have e1:=nf h0 (by rw [c0,c1];exact h1) hd
  have hd2:l.drop (adv r ((encN m.n0.toNat).length+(encN m.s0.toNat).length)).s.p=up (encN m.n1.toNat++(encN m.s1.toNat++Y)):=by
   rw [← zD]
   exact qE (qE hd)
  have e2:=nf (h0.adv _) (by rw [c2,c3];exact h2) hd2
  rw [e1]
  simp only
  rw [e2,zD]
  simp only [c0,c1,c2,c3,List.length_append,Nat.add_assoc]
theorem tM {l:List Int} {least:Int} {most:Nat} {v:Vd} {Y:List Nat} {r:Rv} (h0:Okr r) (h1:least≤v.size) (hp:0≤v.size) (h2:v.size≤(most:Int)) (h3:v.size<9223372036854775808) (hd:l.drop r.s.p=up (conB v++Y)):conR l least most r=((v.size.toNat,v.sum),adv r (conB v).length):=by
 unfold conB at hd ⊢
 rw [List.append_assoc] at hd
 have e1:=fE (least:=least) (most:=most) h0 hd (by omega) (by omega) (by omega)
 have e2:=tK (h0.adv (encN v.size.toNat).length) v.len (qE hd)
 unfold conR
 rw [e1]
 simp only
 rw [e2,zD,List.length_append]
theorem tw {l:List Int} {deep c:Nat} {Y:List Nat} {r:Rv} (h0:Okr r) (hl:r.left≠0) (hdp:deep≤64) (hk:kOk deep (c:Int)=true) (hd:l.drop r.s.p=up (c::Y)):qs l deep r=((c:Int),{ adv r 1 with left:=r.left-1 }):=by
 unfold qs
 rw [nZ h0 hd]
 simp only
 have hp:preR deep r=r:=by unfold preR;rw [if_neg hl,if_neg (by omega)]
 rw [hk,hp,zu (r:=⟨⟨r.s.p+1,r.s.fa,r.s.fe⟩,r.left,r.flt,r.st⟩) h0.1]
 rfl
theorem dt (x:List UInt8):Op.bytesLess x []=false:=by cases x<;>rfl
theorem tz {l:List Int} {last nm:ByteArray} {Y:List Nat} {r:Rv} (h0:Okr r) (hok:nOkB last nm=true) (hd:l.drop r.s.p=up (namB nm++Y)):bP l last r=(nm,adv r (namB nm).length):=by
 have hs:nm.size≤255:=by
  unfold nOkB at hok
  rw [Bool.and_eq_true] at hok
  exact dF hok.2
 have hg:=tI hd
 have hpos:1≤(encN nm.size).length:=by rw [yP];exact Wire.iW _
 have hnl:(namB nm).length=(encN nm.size).length+nm.size:=by unfold namB;rw [List.length_append,xU]
 have hd2:=hd
 unfold namB at hd2
 rw [List.append_assoc] at hd2
 have hr:Wire.rd 0 (l.drop r.s.p)=.ok nm.size (Wire.enc nm.size).length:=by rw [hd2,qQ,zx];exact Wire.gL _ (by omega)
 have hte:(l.drop (r.s.p+(Wire.enc nm.size).length)).take nm.size=up (strN nm):=by
  rw [← yP]
  have:=qE hd2
  have e:l.drop (r.s.p+(encN nm.size).length)=up (strN nm++Y):=this
  rw [e,qQ,List.take_append_of_le_length (by rw [qu,xU];exact Nat.le_refl _),List.take_of_length_le (by rw [qu,xU];exact Nat.le_refl _)]
 have hu:Wi.textS l r.s 255=(up (strN nm),⟨r.s.p+(namB nm).length,r.s.fa,r.s.fe⟩):=by
  unfold Wi.textS
  rw [if_neg (by rw [h0.1];simp),hr]
  simp only
  rw [if_neg (by omega),if_neg (by rw [← yP];omega),hte,hnl,yP,Nat.add_assoc]
 have hmk:Wi.mkStr (up (strN nm))=nm:=by
  unfold Wi.mkStr up strN
  rw [List.map_map,List.map_map]
  have:(nm.data.toList.map (((fun c:Int=>UInt8.ofNat c.toNat) ∘ Int.ofNat) ∘ fun c:UInt8=>c.toNat))=nm.data.toList:=by
   conv=>rhs;rw [← List.map_id nm.data.toList]
   exact List.map_congr_left fun x _=>by simp [Function.comp]
  rw [this]
 unfold bP
 rw [hu]
 simp only
 rw [hmk,hok]
 have hb:km { r with s:=⟨r.s.p+(namB nm).length,r.s.fa,r.s.fe⟩ }=adv r (namB nm).length:=by
  unfold km
  rw [if_neg (by show ¬ r.s.fe=12;rw [h0.1];decide)]
  rfl
 rw [hb,zu (h0.adv _).1]
theorem bY {v:Vd} {m:Md} {b:Bool} (h:ownE v m b=0):
  (v.kind=1∧(0≤v.mode∧v.mode≤8)∧v.size=0∧v.sum=ju∧m=Md.zero)∨(v.kind=2∧b=false∧(0≤v.mode∧v.mode≤8)∧(0≤v.size∧v.size≤1099511627775)∧qB m.n0 m.s0=true∧qB m.n1 m.s1=true)∨
  (v.kind=3∧b=false∧v.mode=0∧(1≤v.size∧v.size≤4095)∧m=Md.zero):=by
 unfold ownE at h
 split at h
 ·omega
 ·split at h
  ·omega
  ·split at h
   ·omega
   ·split at h
    ·omega
    ·split at h
     ·omega
     ·rename_i c1 c2 c3 c4 c5
      have c3:qC v=true:=by simpa using c3
      unfold qC at c3
      by_cases e1:v.kind=1
      ·rw [if_pos e1] at c3
       have:=of_decide_eq_true c3
       exact .inl ⟨e1,this.1,this.2.1,this.2.2,Classical.byContradiction fun q=>c5 ⟨by omega,q⟩⟩
      ·have hb:b=false:=by
        cases b with
        | false=>rfl
        | true=>exact absurd ⟨rfl,e1⟩ c2
       rw [if_neg e1] at c3
       by_cases e2:v.kind=2
       ·rw [if_pos e2] at c3
        have:=of_decide_eq_true c3
        refine .inr (.inl ⟨e2,hb,this.1,this.2,?_,?_⟩)
        ·cases q:qB m.n0 m.s0 with
         | true=>rfl
         | false=>exact absurd ⟨e2,.inl q⟩ c4
        ·cases q:qB m.n1 m.s1 with
         | true=>rfl
         | false=>exact absurd ⟨e2,.inr q⟩ c4
       ·rw [if_neg e2] at c3
        by_cases e3:v.kind=3
        ·rw [if_pos e3] at c3
         have:=of_decide_eq_true c3
         exact .inr (.inr ⟨e3,hb,this.1,this.2,Classical.byContradiction fun q=>c5 ⟨e2,q⟩⟩)
        ·rw [if_neg e3] at c3;cases c3
def fwd (r:Rv) (k d:Nat) (S:List Stp):Rv:=⟨⟨r.s.p+k,r.s.fa,r.s.fe⟩,r.left-(d:Int),r.flt,r.st++S⟩
theorem Okr.fwd {r:Rv} (h:Okr r) (k d:Nat) (S:List Stp):Okr (fwd r k d S):=h
theorem uA (r:Rv) (k d j:Nat) (S:List Stp):adv (fwd r k d S) j=fwd r (k+j) d S:=by unfold adv fwd;simp only [Nat.add_assoc]
theorem uB (r:Rv) (k d j e:Nat) (S T:List Stp):fwd (fwd r k d S) j e T=fwd r (k+j) (d+e) (S++T):=by
 unfold fwd
 simp only [Nat.add_assoc,List.append_assoc,Rv.mk.injEq,true_and,and_true]
 omega
theorem gZ {l:List Int} {u:Option (List ByteArray)} {last nm:ByteArray} {r:Rv} {c:Nat} {Y:List Nat} (h0:Okr r) (hl:r.left≠0) (hdp:kN u≤64) (hk:kOk (kN u) (c:Int)=true) (hn:∀ x,u=some x→nOkB last nm=true) (hn0:u=none→nm=⟨#[]⟩) (hd:l.drop r.s.p=up ([c]++(nbO u nm++Y))):
  (qs l (kN u) r).1=(c:Int)∧qP l u last r=(nm,fwd r (1+(nbO u nm).length) 1 []):=by
 have e1:=tw h0 hl hdp hk hd
 have hd2:l.drop (fwd r 1 1 []).s.p=up (nbO u nm++Y):=qE hd
 have e2:({ adv r 1 with left:=r.left-1 }:Rv)=fwd r 1 1 []:=by unfold adv fwd;simp
 rw [e2] at e1
 refine ⟨by rw [e1],?_⟩
 unfold qP
 rw [e1]
 cases u with
 | none=>
  show (_,_)=_
  rw [hn0 rfl]
  simp [nbO]
 | some x=>
  show bP l last (fwd r 1 1 [])=_
  rw [tz (h0.fwd 1 1 []) (hn x rfl) hd2,uA]
  rfl
theorem len0:∀ {f:F},decide (0<f.len)=false→f=.nil
 | .nil,_=>rfl
 | .cons _ _ _ _ _,h=>by simp [F.len] at h
theorem fF {l:List Int} {ver:Int} {n:Nat} {u:Option (List ByteArray)} {last nm:ByteArray} {r:Rv} {v:Vd} {m:Md} {ks:F} {Y:List Nat} (h0:Okr r) (hlo:((1+ks.size:Nat):Int)≤r.left) (hhi:r.left<9223372036854775808) (hdp:kN u≤64) (hku:u=none→v.kind=1∧nm=⟨#[]⟩)
  (hn:∀ x,u=some x→nOkB last nm=true) (hown:ownE v m (decide (0<ks.len))=0) (h8:ver<2→v.kind≠3→v.mode=8) (hd:l.drop r.s.p=up (encT ver (nbO u nm) v m ks++Y))
  (hkids:∀ (r':Rv) (Y':List Nat),Okr r'→(ks.size:Int)≤r'.left→r'.left<9223372036854775808→l.drop r'.s.p=up (encF ver ks++Y')→∃ S,kidL (jz l ver n (some (cd u nm))) ks.len .nil ⟨#[]⟩ r'=(some (ks.mp id (mz ver)),fwd r' (encF ver ks).length ks.size S)∧S.map (·.hash)=dirF ks):
  ∃ S,jz l ver (n+1) u last r=(⟨nm,v,mz ver m,ks.mp id (mz ver)⟩,fwd r (encT ver (nbO u nm) v m ks).length (1+ks.size) S)∧S.map (·.hash)=dirT v ks:=by
 have hkOk:∀ c:Nat,v.kind=(c:Int)→(c=1∨c=2∨c=3)→kOk (kN u) (c:Int)=true:=fun c hc h3=>by
  unfold kOk
  cases u with
  | none=>have:=(hku rfl).1;rw [← hc,this];rfl
  | some x=>
   rcases h3 with e | e | e<;>subst e<;>simp [kN]
 unfold jz
 rcases bY hown with ⟨k1,k2,k3,k4,k5⟩ | ⟨k1,k2,k3,k4,k5,k6⟩ | ⟨k1,k2,k3,k4,k5⟩
 ·have hB:encT ver (nbO u nm) v m ks=[1]++(nbO u nm++(modB ver v++(encN ks.len++((jk v ks).1++encF ver ks)))):=by unfold encT oneB;rw [if_pos k1]
  rw [hB] at hd ⊢
  simp only [List.append_assoc] at hd
  obtain ⟨e1,e2⟩:=gZ h0 (by omega) hdp (hkOk 1 k1 (.inl rfl)) hn (fun q=>(hku q).2) hd
  rw [e1,e2,show ((1:Nat):Int)=1 from rfl]
  have hd2:l.drop (fwd r (1+(nbO u nm).length) 1 []).s.p=up (modB ver v++(encN ks.len++((jk v ks).1++(encF ver ks++Y)))):=by
   have:=qE (qE hd)
   rw [zD] at this
   exact this
  generalize hr2:fwd r (1+(nbO u nm).length) 1 []=r2 at *
  have o2:Okr r2:=by rw [← hr2];exact h0
  have l2:r2.left=r.left-1:=by rw [← hr2];rfl
  unfold yh
  rw [if_neg (by simp [o2.2]),if_pos rfl]
  simp only
  have e3:=tL (ver:=ver) o2 k2 (fun q=>h8 q (by omega)) hd2
  have hd3:=qE hd2
  rw [e3]
  unfold av cntR
  have hls:=ks.len_le_size
  have e4:=fE (least:=0) (most:=(adv r2 (modB ver v).length).left.toNat) (o2.adv _) hd3 (by omega) (by show _≤r2.left.toNat;omega) (by omega)
  have hd4:=qE hd3
  rw [e4]
  simp only
  have e5:=tK ((o2.adv (modB ver v).length).adv (encN ks.len).length) (yE v ks) hd4
  have hd5:=qE hd4
  rw [e5]
  simp only
  obtain ⟨S,e6,e7⟩:=hkids _ Y (((o2.adv (modB ver v).length).adv (encN ks.len).length).adv (jk v ks).1.length) (by show _≤r2.left;omega) (by show r2.left<_;omega) hd5
  rw [e6,nY rfl]
  refine ⟨S++[⟨cd u nm,(adv (adv r2 (modB ver v).length) (encN ks.len).length).s.p,(jk v ks).1⟩],?_,by rw [iy k1,List.map_append,e7];rfl⟩
  have hv:(⟨1,v.mode,0,ju,by simp [ju]⟩:Vd)=v:=by
   cases v
   simp only at k1 k3 k4
   subst k1 k3 k4
   rfl
  have hm:Md.zero=mz ver m:=by rw [k5];unfold mz;split<;>rfl
  rw [hv,hm]
  refine Prod.ext rfl ?_
  subst hr2
  unfold fwd adv
  simp only [List.length_append,List.length_cons,List.length_nil,List.append_assoc,List.append_nil,Rv.mk.injEq,Wi.St.mk.injEq,and_true]
  omega
 ·have hks:=len0 k2
  subst hks
  have hB:encT ver (nbO u nm) v m .nil=[2]++(nbO u nm++(conB v++(modB ver v++marB ver m))):=by unfold encT oneB;rw [if_neg (by omega),if_pos k1]
  rw [hB] at hd ⊢
  simp only [List.append_assoc] at hd
  obtain ⟨e1,e2⟩:=gZ h0 (by omega) hdp (hkOk 2 k1 (.inr (.inl rfl))) hn (fun q=>(hku q).2) hd
  rw [e1,e2,show ((2:Nat):Int)=2 from rfl]
  have hd2:l.drop (fwd r (1+(nbO u nm).length) 1 []).s.p=up (conB v++(modB ver v++(marB ver m++Y))):=by
   have:=qE (qE hd)
   rw [zD] at this
   exact this
  generalize hr2:fwd r (1+(nbO u nm).length) 1 []=r2 at *
  have o2:Okr r2:=by rw [← hr2];exact h0
  unfold yh
  rw [if_neg (by simp [o2.2]),if_neg (by decide),if_pos rfl]
  have e3:=tM (least:=0) (most:=1099511627775) o2 k4.1 k4.1 (by omega) (by omega) hd2
  have hd3:=qE hd2
  have e4:=tL (ver:=ver) (o2.adv (conB v).length) k3 (fun q=>h8 q (by omega)) hd3
  have hd4:=qE hd3
  have e5:=rH ((o2.adv (conB v).length).adv (modB ver v).length) k5 k6 hd4
  simp only [e3,e4,e5]
  refine ⟨[],?_,by rw [xY (by omega) _ (.inl k1)];rfl⟩
  have hv:(⟨2,v.mode,(v.size.toNat:Int),v.sum,v.len⟩:Vd)=v:=by
   have:((v.size.toNat:Nat):Int)=v.size:=by omega
   cases v
   simp only at k1 this
   subst k1
   rw [this]
  rw [hv]
  refine Prod.ext rfl ?_
  subst hr2
  unfold fwd adv
  simp only [List.length_append,List.length_cons,List.length_nil,List.append_nil,Rv.mk.injEq,Wi.St.mk.injEq,F.size,and_true]
  omega
 ·have hks:=len0 k2
  subst hks
  have hB:encT ver (nbO u nm) v m .nil=[3]++(nbO u nm++conB v):=by unfold encT oneB;rw [if_neg (by omega),if_neg (by omega)]
  rw [hB] at hd ⊢
  simp only [List.append_assoc] at hd
  obtain ⟨e1,e2⟩:=gZ h0 (by omega) hdp (hkOk 3 k1 (.inr (.inr rfl))) hn (fun q=>(hku q).2) hd
  rw [e1,e2,show ((3:Nat):Int)=3 from rfl]
  have hd2:l.drop (fwd r (1+(nbO u nm).length) 1 []).s.p=up (conB v++Y):=by
   have:=qE (qE hd)
   rw [zD] at this
   exact this
  generalize hr2:fwd r (1+(nbO u nm).length) 1 []=r2 at *
  have o2:Okr r2:=by rw [← hr2];exact h0
  unfold yh
  rw [if_neg (by simp [o2.2]),if_neg (by decide),if_neg (by decide),if_pos rfl]
  have e3:=tM (least:=1) (most:=4095) o2 k4.1 (by omega) (by omega) (by omega) hd2
  simp only [e3]
  refine ⟨[],?_,by rw [xY (by omega) _ (.inr k1)];rfl⟩
  have hv:(⟨3,0,(v.size.toNat:Int),v.sum,v.len⟩:Vd)=v:=by
   have:((v.size.toNat:Nat):Int)=v.size:=by omega
   cases v
   simp only at k1 k3 this
   subst k1 k3
   rw [this]
  have hm:Md.zero=mz ver m:=by rw [k5];unfold mz;split<;>rfl
  rw [hv,hm]
  refine Prod.ext rfl ?_
  subst hr2
  unfold fwd adv
  simp only [List.length_append,List.length_cons,List.length_nil,List.append_nil,Rv.mk.injEq,Wi.St.mk.injEq,F.size,and_true]
  omega
theorem rI (v:Vd):(unkV v).kind=v.kind:=by unfold unkV;split<;>rfl
theorem nj {v:Vd} {m:Md} {b:Bool} (h:ownE v m b=0):ownE (unkV v) m b=0:=by
 rcases bY h with ⟨k1,k2,k3,k4,k5⟩ | ⟨k1,k2,k3,k4,k5,k6⟩ | ⟨k1,_⟩
 ·unfold unkV
  rw [if_neg (by omega)]
  simp [ownE,qC,k1,k3,k4,k5]
 ·unfold unkV
  rw [if_neg (by omega)]
  simp [ownE,qC,k1,k2,k4.1,k4.2,k5,k6]
 ·unfold unkV
  rw [if_pos k1]
  exact h
theorem ba:∀ {f:F} {prev:Option ByteArray} {L:List ByteArray},jt f prev L=none→jt (f.mp unkV id) prev L=none
 | .nil,_,_,h=>h
 | .cons nm v m ks r,prev,L,h=>by
  obtain ⟨a,b,c,d⟩:=qx h
  rw [F.mp]
  unfold jt
  rw [F.mp_len,if_neg (by rw [a];simp),if_neg (by rw [show id m=m from rfl,nj b];simp),ba c]
  exact ba d
theorem xM {v:Vd} {m:Md} {ks:F} (h:qT v m ks=0):qT (unkV v) m (ks.mp unkV id)=0:=by
 obtain ⟨a,b⟩:=jl h
 exact xL (by rw [F.mp_len];exact nj a) (ba b)
theorem io {v:Vd} (h:v.kind≠3→v.mode=8):unkV v=v:=by
 unfold unkV
 split
 ·rfl
 ·rename_i q
  have:=h q
  cases v
  simp only at this
  rw [this]
attribute [local go_sem] Oper.semAt_some
theorem assert72 (x:Value) (w:World):(Instr.typeAssert (.iface 72 x) 41 72 true).run Tryz.prog w=.ok (.tuple #[x,.bool true]) w:=by kernel_rfl
def fc (p:Int) (s:ByteArray) (e:Int):Array Value:=#[.int .i64 p,.string s,.int .i64 e]
theorem siz49:(Tryz.prog.info? 49).map (·.size)=some 3:=by kernel_rfl
end Go.Proofs.YtjikkhbcbfpocaaGreatDoor
namespace Go.Proofs.YtjikkhbcbfpocaaGreatDoor
open Go.RowKit Go.Shelf
def md8 (ver:Int):F→Prop
 | .nil=>True
 | .cons _ v _ ks r=>(ver<2→v.kind≠3→v.mode=8)∧md8 ver ks∧md8 ver r
def laO (prev:Option ByteArray):ByteArray:=prev.getD ⟨#[]⟩
theorem uC {prev:Option ByteArray} {nm:ByteArray} {lev:Nat} (h:kJ prev nm lev=0):nOkB (laO prev) nm=true:=by
 obtain ⟨_,h2,h3⟩:=zt h
 unfold nOkB
 rw [h2,Bool.and_true]
 cases prev with
 | none=>
  have hne:nm.toList≠[]:=fun e=>by
   have h1:=(of_decide_eq_true h2).1
   rw [ko] at h1
   have h4:=ko nm
   unfold tl at h4
   rw [e] at h4
   simp only [List.length_nil] at h4
   omega
  show (!(Op.bytesLess nm.toList (⟨#[]⟩:ByteArray).toList||nm.toList==(⟨#[]⟩:ByteArray).toList))=true
  have e0:(⟨#[]⟩:ByteArray).toList=[]:=by rw [ByteArray.toList_eq]
  rw [e0,dt,Bool.false_or]
  simp [hne]
 | some p=>
  show (!leB nm p)=true
  have:leB nm p=false:=h3
  rw [this];rfl
theorem gb {l:List Int} {ver:Int}:∀ (f:F) (n:Nat) (here:List ByteArray) (prev:Option ByteArray) (L:List ByteArray) (acc:F) (r:Rv) (Y:List Nat),jt f prev L=none→here.length=L.length→L.length+1+n=66→md8 ver f→Okr r→(f.size:Int)≤r.left→r.left<9223372036854775808→l.drop r.s.p=up (encF ver f++Y)→
  ∃ S,kidL (jz l ver n (some here)) f.len acc (laO prev) r=(some (acc.app (f.mp id (mz ver))),fwd r (encF ver f).length f.size S)∧S.map (·.hash)=dirF f
 | .nil,n,here,prev,L,acc,r,Y,_,_,_,_,_,_,_,_=>by
  refine ⟨[],?_,by unfold dirF;simp [ke,dirs]⟩
  show (some acc,r)=_
  rw [F.mp,F.nn]
  unfold fwd
  simp [encF,F.size]
 | .cons nm v m ks rest,n,here,prev,L,acc,r,Y,hf,hhl,hn,h8,h0,hlo,hhi,hd=>by
  obtain ⟨f1,f2,f3,f4⟩:=qx hf
  have hdp:=(zt f1).1
  obtain ⟨n',rfl⟩:∃ n',n=n'+1:=⟨n-1,by omega⟩
  rw [zJ,List.append_assoc] at hd
  have hsz:(F.cons nm v m ks rest).size=1+ks.size+rest.size:=by simp only [F.size];omega
  rw [hsz] at hlo
  obtain ⟨S1,e1,e2⟩:=fF (l:=l) (ver:=ver) (n:=n') (u:=some here) (last:=laO prev) (nm:=nm) (r:=r) (v:=v) (m:=m) (ks:=ks) h0 (by omega) hhi (by show here.length+1≤64;omega) (fun q=>by cases q) (fun _ _=>uC f1) f2 h8.1 hd (fun r' Y' o lo hi hd'=>by
   obtain ⟨S,q1,q2⟩:=gb ks n' (nm::here) none (L++[nm]) .nil r' Y' f3 (by simp [hhl]) (by rw [List.length_append];simp only [List.length_cons,List.length_nil];omega) h8.2.1 o lo hi hd'
   exact ⟨S,q1,q2⟩)
  have hd2:l.drop (fwd r (encT ver (namB nm) v m ks).length (1+ks.size) S1).s.p=up (encF ver rest++Y):=qE hd
  obtain ⟨S2,e3,e4⟩:=gb rest (n'+1) here (some nm) L (acc.app (.cons nm v (mz ver m) (ks.mp id (mz ver)) .nil)) (fwd r (encT ver (namB nm) v m ks).length (1+ks.size) S1) Y f4 hhl hn h8.2.2 h0 (by show _≤r.left-_;omega) (by show r.left-_<_;omega) hd2
  refine ⟨S1++S2,?_,by rw [List.map_append,e2,e4,xZ]⟩
  have hk:kidL (jz l ver (n'+1) (some here)) (F.cons nm v m ks rest).len acc (laO prev) r=kidL (jz l ver (n'+1) (some here)) rest.len (acc.app (.cons nm v (mz ver m) (ks.mp id (mz ver)) .nil)) nm (fwd r (encT ver (namB nm) v m ks).length (1+ks.size) S1):=by
   rw [show (F.cons nm v m ks rest).len=rest.len+1 from by simp only [F.len]]
   rw [kidL,if_neg (by simp [h0.2]),e1]
   rfl
  rw [hk]
  have e3:kidL (jz l ver (n'+1) (some here)) rest.len (acc.app (.cons nm v (mz ver m) (ks.mp id (mz ver)) .nil)) nm (fwd r (encT ver (namB nm) v m ks).length (1+ks.size) S1)=_:=e3
  rw [e3,uB,F.fJ,zJ,List.length_append,hsz]
  rfl
theorem uD {l:List Int} {ver:Int} {r:Rv} {v:Vd} {m:Md} {ks:F} {Y:List Nat} (h0:Okr r) (hlo:((1+ks.size:Nat):Int)≤r.left) (hhi:r.left<9223372036854775808) (hk:v.kind=1) (hc:qT v m ks=0) (h8:(ver<2→v.mode=8)∧md8 ver ks) (hd:l.drop r.s.p=up (encT ver [] v m ks++Y)):
  ∃ S,jz l ver 66 none ⟨#[]⟩ r=(⟨⟨#[]⟩,v,mz ver m,ks.mp id (mz ver)⟩,fwd r (encT ver [] v m ks).length (1+ks.size) S)∧S.map (·.hash)=dirT v ks:=by
 obtain ⟨c1,c2⟩:=jl hc
 exact fF (n:=65) (u:=none) h0 hlo hhi (by decide) (fun _=>⟨hk,rfl⟩) (fun _ q=>by cases q) c1 (fun q _=>h8.1 q) hd fun r' Y' o lo hi hd'=>gb ks 65 [] none [] .nil r' Y' c2 rfl rfl h8.2 o lo hi hd'
end Go.Proofs.YtjikkhbcbfpocaaGreatDoor
