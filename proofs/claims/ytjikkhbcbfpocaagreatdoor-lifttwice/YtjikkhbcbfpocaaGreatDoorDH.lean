import Derived.Test.YtjikkhbcbfpocaaGreatDoorDG
set_option maxRecDepth 100000
set_option maxHeartbeats 4000000
namespace Go.Proofs.YtjikkhbcbfpocaaGreatDoor
open Go.RowKit Go.Shelf
attribute [local go_sem] Oper.semAt_some
def Inv (r:Rv):Prop:=-1≤r.left∧(r.flt=none→0≤r.left)
theorem lj (nd:ByteArray→Rv→Nd × Rv) (hn:∀ last r,r.flt=none→0≤r.left→Inv (nd last r).2):∀ (n:Nat) (f:F) (last:ByteArray) (r:Rv),Inv r→Inv (kidL nd n f last r).2
 | 0,_,_,_,h=>h
 | n+1,f,last,r,h=>by
  unfold kidL
  split
  ·exact h
  ·rename_i q
   exact lj nd hn n _ _ _ (hn last r (zk q) (h.2 (zk q)))
theorem oW (here:List ByteArray) (pl:Nat) (h:List Nat) (x:Option F × Rv):(kidE here pl h x).2.left=x.2.left∧(kidE here pl h x).2.flt=x.2.flt∧(kidE here pl h x).2.s=x.2.s:=by
 unfold kidE
 split<;>exact ⟨rfl,rfl,rfl⟩
theorem Inv.sm {r r':Rv} (h:Inv r) (k:Sm r r'):Inv r':=⟨by rw [k.left];exact h.1,fun q=>by rw [k.left];exact h.2 (k.none q)⟩
theorem fW (l:List Int) (ver:Int):∀ (n:Nat) (up:Option (List ByteArray)) (last:ByteArray) (r:Rv),kW up+n=66→1≤n→0≤r.left→Inv (qF l ver n up last r).2∧((qF l ver n up last r).2.flt=none→r.s.p+1≤(qF l ver n up last r).2.s.p)
 | 0,_,_,_,_,h,_=>by omega
 | n+1,up,last,r,hd,_,hl=>by
  have h2:=Sm.head l up last r
  have hk:Inv (kD l (kW up) r).2:=by
   have e:(kD l (kW up) r).2.left=r.left-1:=rfl
   exact ⟨by rw [e];omega,fun q=>by rw [e];have:=(yi q).1;omega⟩
  have hh:Inv (qV l up last r).2:=hk.sm h2
  have hp:(qV l up last r).2.flt=none→r.s.p+1≤(qV l up last r).2.s.p:=fun q=>by
   have q8:=(yi (h2.none q)).2.2.2.2.2.2.2
   have:=h2.p
   rw [q8] at this
   exact this
  have key:∀ {r':Rv},Sm (qV l up last r).2 r'→Inv r'∧(r'.flt=none→r.s.p+1≤r'.s.p):=fun k=>⟨hh.sm k,fun q=>Nat.le_trans (hp (k.none q)) k.p⟩
  unfold qF zJ
  split
  ·exact key (Sm.refl _)
  ·rename_i hf
   have hf:=zk hf
   split
   ·have hdeep:=(yi (h2.none hf)).2.1
    have k3:=(Sm.mod l ver (qV l up last r).2).trans ((Sm.num l 0 (modR l ver (qV l up last r).2).2.left.toNat _).trans (Sm.sum l _))
    have hi:=lj (qF l ver n (some (dJ up (qV l up last r).1))) (fun last r _ hl=>(fW l ver n _ last r (by
     show (dJ up _).length+1+n=66
     cases up with
     | none=>show 0+1+n=66;have:kW none=0:=rfl;omega
     | some u=>show u.length+1+1+n=66;have:kW (some u)=u.length+1:=rfl;omega) (by omega) hl).1) (cntR l (modR l ver (qV l up last r).2).2).1 .nil ⟨#[]⟩ _ (key k3).1
    have hx:=iG (qF l ver n (some (dJ up (qV l up last r).1))) (fun last r=>eH l ver n _ last r) (cntR l (modR l ver (qV l up last r).2).2).1 .nil ⟨#[]⟩ (sumR l (cntR l (modR l ver (qV l up last r).2).2).2).2
    obtain ⟨e1,e2,e3⟩:=oW (dJ up (qV l up last r).1) (cntR l (modR l ver (qV l up last r).2).2).2.s.p (sumR l (cntR l (modR l ver (qV l up last r).2).2).2).1 (kidL (qF l ver n (some (dJ up (qV l up last r).1))) (cntR l (modR l ver (qV l up last r).2).2).1 .nil ⟨#[]⟩ (sumR l (cntR l (modR l ver (qV l up last r).2).2).2).2)
    show Inv (kidE _ _ _ _).2∧((kidE _ _ _ _).2.flt=none→_≤(kidE _ _ _ _).2.s.p)
    refine ⟨⟨by rw [e1];exact hi.1,fun q=>by rw [e1];rw [e2] at q;exact hi.2 q⟩,fun q=>?_⟩
    rw [e2] at q
    rw [e3]
    exact Nat.le_trans ((key k3).2 (hx.none q)) hx.p
   ·split
    ·exact key (((Sm.con _ _ _ _).trans (Sm.mod _ _ _)).trans (Sm.marks _ _ _))
    ·split
     ·exact key (Sm.con _ _ _ _)
     ·exact key (Sm.refl _)
def capR (c:Rp) (r:Rv):Prop:=(r.st.length:Int)+r.left≤100000∨r.st.length+c.l.length≤100000+r.s.p
theorem capR.lt {c:Rp} {r r':Rv} {d:Nat} (h:capR c r) (k:Lt r r' d):capR c r':=by
 have h1:=k.sl
 have h2:=k.sp
 unfold capR at h ⊢
 omega
def sX (c:Rp) (n:Nat):Prop:=∀ (up:Option (List ByteArray)) (upv:Value) (last:ByteArray) (r:Rv) (M:Nat→Prop) (w:World),Rs c r M w→ErrT w→UpAt c w up upv→kW up+n=66→1≤n→capR c r→0≤r.left→r.left≤1048576→
 Calls Tryz.prog 67 #[.pointer (some ⟨c.X,0,none⟩),upv,.string last] w fun e w'=>∃ C,e=.returned (.agg C)∧NdP c (qF c.l c.ver n up last r).2 (qF c.l c.ver n up last r).1 M w C w'
theorem Rs.q3 {c:Rp} {r:Rv} {M:Nat→Prop} {w:World} (h:Rs c r M w):∃ fp,w.cell? ⟨c.X,3,none⟩=some fp∧((r.flt=none∧fp=.pointer none)∨(r.flt.isSome=true∧∃ b,fp=.pointer (some ⟨b,0,none⟩))):=by
 obtain ⟨fp,sv,xs,h⟩:=h
 refine ⟨fp,jB h.lies 3 _ rfl,?_⟩
 have hf:=h.fl
 cases e:r.flt with
 | none=>rw [e] at hf;exact .inl ⟨rfl,hf⟩
 | some x=>
  rw [e] at hf
  obtain ⟨b,q,_⟩:=hf
  exact .inr ⟨rfl,b,q⟩
structure KL (c:Rp) (nd:ByteArray→Rv→Nd × Rv) (N:Nat) (r0 r:Rv) (R:Option F × Rv) (k:Nat) (f:F) (la:ByteArray):Prop where
 eq:kidL nd (N-k) f la r=R
 len:f.len=k
 inv:Inv r
 lt:Lt r0 r k
 p:r.flt=none→r0.s.p+k≤r.s.p
 le:r.s.p≤c.l.length
theorem oX (nd:ByteArray→Rv→Nd × Rv) (f:F) (la:ByteArray) (r:Rv):kidL nd 0 f la r=(some f,r):=by unfold kidL;rfl
theorem sY (nd:ByteArray→Rv→Nd × Rv) (n:Nat) (f:F) (la:ByteArray) (r:Rv) (h:r.flt.isSome=true):kidL nd (n+1) f la r=(none,r):=by unfold kidL;rw [if_pos h]
theorem vC (nd:ByteArray→Rv→Nd × Rv) (n:Nat) (f:F) (la:ByteArray) (r:Rv) (h:r.flt=none):kidL nd (n+1) f la r=kidL nd n (f.app (.cons (nd la r).1.nm (nd la r).1.v (nd la r).1.m (nd la r).1.ks .nil)) (nd la r).1.nm (nd la r).2:=by
 rw [kidL,if_neg (by rw [h];decide)]
theorem fX {ops:Array Oper} {o:Oper} {a:Act} {w:World} {K:Act→World→Prop} {Q:Exit→Act→World→Prop} {E:Prop} (hgd:o.guard=none) (v:Value) (w':World) (he:(execOp a.eval o).run Tryz.prog w=.ok (.value v) w') (h:K (a.put o.dst v) w'):
  if Region.wanted o (yielded ops a.tmps)=true then Oper.wp Tryz.prog o a w K Q else E:=by
 have hw:Region.wanted o (yielded ops a.tmps)=true:=by simp [Region.wanted,hgd]
 rw [if_pos hw]
 unfold Oper.wp
 rw [he,Oper.upon_value]
 exact h
theorem eM {o:Oper} {a:Act} (s x:Operand) (ho:o.op=.call { callee:=.builtin .append,args:=#[s,x],argTypes:=#[77,77] }) {v vx v':Value} {w w':World} (ht:o.type=77) (hs:a.eval s=v) (hx:a.eval x=vx) (hr:(Builtin.append_ #[77,77] 77 #[v,vx]).run Tryz.prog w=.ok v' w'):(execOp a.eval o).run Tryz.prog w=.ok (.value v') w':=by
 unfold execOp
 simp only [ho,ht,resolve,invoke,builtin,Sem.run_bind,Sem.run_pure,Result.andThen_ok,List.map_toArray,List.map_cons,List.map_nil,hs,hx,hr]
theorem xD {c:Rp} {n:Nat} {r:Rv} {M:Nat→Prop} {w:World} {here:List ByteArray} {hb:Nat} (hIH:sX c n) (hS:Rs c r M w) (hE:ErrT w) (h1:1<c.lo) (hsp:Spot w (fun b=>c.lo≤b) here hb) (hn:here.length+1+n=66) (hn1:1≤n) (hx:∀ x∈here,x.size≤255) (hl:0≤r.left) (hl2:r.left≤1048576) (hc:capR c r):
  Calls Tryz.prog 103 #[.pointer (some ⟨c.X,0,none⟩),.pointer (some ⟨hb,0,none⟩)] w fun e w'=>∃ kv,e=.returned kv∧KdP c (bK c.l (qF c.l c.ver n (some here)) here r).2 (bK c.l (qF c.l c.ver n (some here)) here r).1 M w kv w':=by
 have q2:=hS.q2
 obtain ⟨L,hL⟩:∃ L:Nat,r.left=(L:Int):=⟨r.left.toNat,by omega⟩
 have hLn:r.left.toNat=L:=by omega
 rw [hL] at q2
 have C1:=(Pq.start hS).call (fun b q=>q.elim) fun M' hR=>yW 0 L (by omega) hR
 unfold bK cntR
 rw [hLn]
 have s1:=Sm.num c.l 0 L r
 generalize numR c.l 0 L r=N0 at *
 obtain ⟨N,r1⟩:=N0
 simp only at C1 s1 ⊢
 have s2:=Sm.sum c.l r1
 have hhl:(sumR c.l r1).1.length=32:=xI _
 generalize hsum:sumR c.l r1=SS at *
 obtain ⟨hash,r2⟩:=SS
 simp only at s2 hhl ⊢
 have HH:=hid (⟨hIH,hE,h1,hsp,hn,hn1,hx,hc,hl,hl2,s1.trans s2⟩:_∧_∧_∧_∧_∧_∧_∧_∧_∧_∧_)
 obtain ⟨P,hP⟩:∃ P:Nat,r1.s.p=P:=⟨_,rfl⟩
 rw [hP]
 have HPP:=hid hP
 obtain ⟨R,hR⟩:∃ R,kidL (qF c.l c.ver n (some here)) N .nil ⟨#[]⟩ r2=R:=⟨_,rfl⟩
 rw [hR]
 have HR:=hid hR
 clear hR
 clear hIH hE h1 hsp hn hx hc s1 s2 hP
 go_enter Tryz.func103,Tryz.ntmps103
 go_upto_region 2 with (go_at_call 137;refine C1.mono ?_;rintro e w1 ⟨rfl,h2,_,_⟩;have HP:=hid h2;have p0:=h2.q0;clear h2 C1)
 obtain ⟨B,hB⟩:∃ B,w1.heap.size=B:=⟨_,rfl⟩
 obtain ⟨M1,k1,k2,k3,k4,k5⟩:=HP.o
 have C2:=k1.at_
 rw [HPP.o] at C2
 clear k1 k2 k3 k4 k5
 go_upto_region 3 with (first
  | (go_at_call 62;refine C2.mono ?_;rintro e w2 ⟨rfl,hw2⟩;replace hw2:=hw2.symm;subst hw2)
  | ((with_reducible refine jA (.agg (Value.pointer (some ⟨hb,0,none⟩)::.int .i64 (P:Int)::jw.map Su.vb).toArray) ?_ ?_);exact eL _ _ rfl hb P rfl rfl _)
  | ((with_reducible refine jF (.pointer (some ⟨B,0,none⟩)) (w1.alloc (.cells z128 128)) ?_ ?_);exact jG 128 z128 rfl oS _ _ hB)
  | ((with_reducible refine jC ((w1.alloc (.cells z128 128)).setRow B (stc hb ⟨here,P,jw⟩).toArray) ?_ ?_);exact jL 128 _ _ rfl B (stc hb ⟨here,P,jw⟩).toArray z128 rfl rfl _ (by rw [← hB];exact World.alloc_heap_new w1 _) (by rw [li];rfl) rfl (oV _ _)))
 have hv:((w1.alloc (.cells z128 128)).setRow B (stc hb ⟨here,P,jw⟩).toArray).heap[B]?=some (.cells (stc hb ⟨here,P,jw⟩).toArray 128 (0,0)):=setRow_heap _ _ _ _ _ _ (by rw [← hB];exact World.alloc_heap_new w1 _)
 have hA:=(HP.o.alloc (.cells z128 128)).put (w':=(w1.alloc (.cells z128 128)).setRow B (stc hb ⟨here,P,jw⟩).toArray) (Fr.setRow (.inr hB.symm))
 rw [hB] at hA
 have hBl:=(gS hv)
 have hwB:w.heap.size≤B:=by obtain ⟨_,_,_,_,_,k5⟩:=HP.o;rw [← hB];exact k5.size
 generalize (w1.alloc (.cells z128 128)).setRow B (stc hb ⟨here,P,jw⟩).toArray=w3 at *
 have C3:=hA.call (fun b q=>by rcases q with q | q;exact q.elim;omega) fun M' hR=>fV hR
 rw [hsum] at C3
 simp only at C3
 obtain ⟨X,hX⟩:∃ X,(hash.map Su.vb).toArray=X:=⟨_,rfl⟩
 rw [hX] at C3
 have HX:Hid (X.size=32∧X.all (·.oneCell')=true∧X.toList=hash.map Su.vb):=⟨by rw [← hX];simpa using hhl,by rw [← hX];exact kV _,by rw [← hX]⟩
 have HV:=hid (⟨hv,hwB⟩:_∧_)
 clear hX hv hA hBl hwB HP p0 C2 hB
 go_upto_region 4 with (first
  | (go_at_call 138;refine C3.mono ?_;rintro e w4 ⟨rfl,h2,h3,h4⟩;have HQ:=hid (⟨h2,(h4 B (.inr rfl)).trans HV.o.1⟩:_∧_);clear h2 h3 h4 C3)
  | ((with_reducible refine jC (w4.setCells B 2 X.toList) ?_ ?_);exact yI 22 _ _ rfl B 2 X rfl rfl _ (yj HQ.o.2 (by rw [HX.o.1];show 2+32≤34;omega)) (by rw [jx,HX.o.1]) HX.o.2.1))
 have hv5:=qr X.toList 2 w4 (stc hb ⟨here,P,jw⟩) HQ.o.2 (by have:=HX.o.1;show 2+X.toList.length≤34;simp [this])
 rw [HX.o.2.2,sW _ _ _ _ hhl,← HX.o.2.2] at hv5
 have hA5:=HQ.o.1.put (Fr.setCells (w:=w4) (o:=2) (vs:=X.toList) (.inr rfl:(False∨B=B)))
 have HW:Hid (KI c w M B (stc hb ⟨here,P,hash⟩).toArray r2 .nil (.slice none 0 0) (w4.setCells B 2 X.toList)):=by
  obtain ⟨M1,k1,k2,k3,k4,k5⟩:=hA5
  exact ⟨M1,fun _=>False,[],k1,Subn.of k2,k5,⟨hv5,k3 B (.inr rfl),HV.o.2⟩,World.ownsRow_nil _ _ _ _,rfl,fun b q=>q.elim,fun b q=>q.elim,fun g e=>by cases e⟩
 generalize w4.setCells B 2 X.toList=w5 at *
 clear hv5 hA5 HQ HX HV
 go_wp2_with fail
 obtain ⟨i0,hi,hz0,hz1,hz2⟩:=info_parts gm
 go_loopw [7,8,27] (fun u la i wr=>∃ (k:Nat) (f:F) (a:ByteArray) (r':Rv),i=.int .i64 k∧k≤N∧la=.string a∧(∃ ao uc,u=.slice ao k uc)∧Hid (KI c w M B (stc hb ⟨here,P,hash⟩).toArray r' f u wr∧KL c (qF c.l c.ver n (some here)) N r2 r' R k f a)) (fun _ _ i _=>N-iOf i)
 case atStart=>
  refine ⟨0,.nil,⟨#[]⟩,r2,rfl,Nat.zero_le _,rfl,⟨none,0,rfl⟩,HW.o,?_⟩
  obtain ⟨M1,T1,xs1,k1,_⟩:=HW.o
  exact ⟨HR.o,rfl,Inv.sm ⟨by omega,fun _=>hl⟩ HH.o.2.2.2.2.2.2.2.2.2.2,Lt.refl _,fun _=>Nat.le_refl _,k1.len.2⟩
 case round=>
  clear HW
  obtain ⟨k,f,a,r',rfl,hk,rfl,⟨ao,uc,rfl⟩,HI⟩:=hrel
  obtain ⟨⟨M1,T,xs,k1,k2,k3,k4,k5,k6,k7,k8,k9⟩,hKL⟩:=HI.o
  have hlen:=hKL.len
  by_cases hlt:k<N
  ·have hltI:(k:Int)<(N:Int):=by omega
   obtain ⟨fp,q3,hq⟩:=k1.q3
   rcases hq with ⟨hf,rfl⟩ | ⟨hf,bq,rfl⟩
   ·have hk0:=hKL.lt.left
    have hkp:=hKL.p hf
    have hkq:=hKL.le
    have hcap:=HH.o.2.2.2.2.2.2.2.1
    have hsm:=HH.o.2.2.2.2.2.2.2.2.2.2
    have hinv:=hKL.inv.2 hf
    have hlr:r2.left=r.left:=hsm.left
    have hpr:=hsm.p
    have hk100:k≤100000:=by unfold capR at hcap;omega
    have hcap':capR c r':=(hcap.lt hsm.lt).lt hKL.lt
    have hEr:ErrT wr:=HH.o.2.1.frs HH.o.2.2.1 hS k3
    have CC:=HH.o.1 (some here) (.pointer (some ⟨hb,0,none⟩)) a r' M1 wr k1 hEr ⟨hb,rfl,HH.o.2.2.2.1.frs k3,by have:=HH.o.2.2.2.2.1;omega,HH.o.2.2.2.2.2.2.1⟩ HH.o.2.2.2.2.1 hn1 hcap' hinv (by omega)
    have hniv:=fW c.l c.ver n (some here) a r' HH.o.2.2.2.2.1 hn1 hinv
    have hnlt:=eH c.l c.ver n (some here) a r'
    have heq:=hKL.eq
    rw [show N-k=(N-(k+1))+1 by omega,vC _ _ _ _ _ hf] at heq
    generalize qF c.l c.ver n (some here) a r'=NN at *
    obtain ⟨d,r3⟩:=NN
    simp only at CC hniv hnlt heq
    rw [hlen] at k5
    have HK:=hid (⟨k2,k3,k4,k5,k6,k7,k8,k9⟩:_∧_∧_∧_∧_∧_∧_∧_)
    have HL2:=hid (⟨hKL,hniv,hnlt,heq,hlen,hk100⟩:_∧_∧_∧_∧_∧_)
    clear k2 k3 k4 k5 k6 k7 k8 k9 hKL hniv hnlt heq hlen HI hk0 hkp hkq hcap hsm hinv hlr hpr hcap' hEr k1 hf
    go_wp2_with (first
     | (go_at_call 67;refine CC.mono ?_;rintro e W2 ⟨C,rfl,hN⟩;obtain ⟨D,hD⟩:∃ D,W2.heap.size=D:=⟨_,rfl⟩;have HN:=hid hN;have HZ:Hid (C.size=41∧C.all (·.oneCell')=true∧C[0]?=some (.string d.nm)):=by { obtain ⟨_,_,_,_,_,⟨kv2,rfl,hk2⟩,_⟩:=hN;obtain ⟨a2,cap2,rfl,_⟩:=hk2;exact ⟨jO ..,qz _ _ _ _ rfl,kY ..⟩ };have HV:=hid (aR W2 C);rw [hD] at HV;clear CC hN)
     | ((with_reducible refine jF (.pointer (some ⟨D,0,none⟩)) (W2.alloc (.cells z30 30)) ?_ ?_);exact jG 30 z30 rfl xZ _ _ hD)
     | ((with_reducible refine jC ((W2.alloc (.cells z30 30)).setRow D C) ?_ ?_);exact jU _ _ rfl D C z30 rfl rfl _ (by rw [← hD];exact Var.new W2 z30) HZ.o.1 jN HZ.o.2.1;obtain ⟨W3,hW3⟩:∃ W3,(W2.alloc (.cells z30 30)).setRow D C=W3:=⟨_,rfl⟩;rw [hW3] at HV;rw [hW3];have hs3:=HV.o.2.2;have OW:Hid ((W3.alloc (.cells C 30)).ownsRow w.heap.size 30 41 (.slice ao k uc) k xs):=kB HK.o.2.2.2.1 (fun g hg=>by { obtain ⟨M2,T2,n1,n2,n3,n4,n5⟩:=HN.o;have hgl:=(World.ownsRow.lt HK.o.2.2.2.1 g hg).2;have hs2:=n3.size;rw [(G.alloc W3 _).block g (by omega),HV.o.1.block g (by omega)];exact n3.fr.same g hgl (HK.o.2.2.2.2.2.2.2 g hg) });have hwl:w.heap.size≤W3.heap.size:=by { obtain ⟨M2,T2,n1,n2,n3,n4,n5⟩:=HN.o;have h1:=n3.size;have h2:=HK.o.2.1.size;omega };clear hW3)
     | ((with_reducible refine jA (.agg C) ?_ ?_);exact jK _ rfl D 0 rfl C HZ.o.1 HV.o.2.1.lies)
     | ((with_reducible refine jF (.slice (some ⟨D+1,0,none⟩) 1 1) (W3.alloc (.cells C 30)) ?_ ?_);exact jy _ rfl C rfl HZ.o.1 _ _ hs3)
     | (at_builtin;refine wpList_append_own_at _ rfl _ _ 28 rfl w.heap.size 30 i0 (.agg z30) 41 128 Tryz.underlying28 hi hz0 hz1 hz2 jN (by decide) (.slice ao k uc) k xs rfl OW.o ⟨D+1,0,none⟩ 1 1 C.toList rfl (by simpa using HZ.o.1) (fun j u hj=>by rw [Addr.add_mid,← hs3];exact jW W3 C 30 j u (by simpa using hj)) (fun u hu=>(Array.all_eq_true_iff_forall_mem.1 HZ.o.2.1) u (by simpa using hu)) (by unfold maxLen;omega) (by omega) (by simp;omega) ?_;intro u' W5 ho5 hg5 _ hat5;have R5:Hid (KI c w M B (stc hb ⟨here,P,hash⟩).toArray r3 (f.app (.cons d.nm d.v d.m d.ks .nil)) u' W5):=by { obtain ⟨M2,T2,n1,n2,n3,n4,n5⟩:=HN.o;refine KI.step HK.o.1 HK.o.2.1 HK.o.2.2.1 (by rw [HL2.o.2.2.2.2.1];exact HK.o.2.2.2.1) HK.o.2.2.2.2.1 HK.o.2.2.2.2.2.1 HK.o.2.2.2.2.2.2.1 HK.o.2.2.2.2.2.2.2 n1 n2 n3 n4 n5 (HV.o.1.trans (G.alloc W3 _)) (by rw [HL2.o.2.2.2.2.1];exact ho5) hg5 hat5 };have q9:W5.cell? ⟨D,0,none⟩=some (.string d.nm):=by { have e1:W5.heap[D]?=some (.cells C 30 (0,0)):=(hg5.block D (by simp;omega) (fun e=>by { have h1:=(World.ownsRow.lt HK.o.2.2.2.1 D e.symm).2;obtain ⟨M2,T2,n1,n2,n3,n4,n5⟩:=HN.o;have h2:=n3.size;omega })).trans (((G.alloc W3 _).block D (by omega)).trans HV.o.2.1);simp only [World.cell?,e1];exact HZ.o.2.2 };obtain ⟨g',cap',rfl⟩:=yz ho5;clear ho5 hg5 hat5))
    have HNL:=HN.o
    go_roundw
    case rel=>
     obtain ⟨hKL,hniv,hnlt,heq,hlen,_⟩:=HL2.o
     obtain ⟨M2,T2,n1,_⟩:=HNL
     refine ⟨k+1,_,d.nm,r3,by go_num,by omega,rfl,⟨_,_,rfl⟩,R5.o,heq,?_,hniv.1,hKL.lt.trans hnlt,fun q=>?_,n1.len.2⟩
     ·rw [F.aV,hlen];rfl
     ·have:=hniv.2 q
      have:=hKL.p (hnlt.none q)
      omega
    case measure=>simp;omega
   ·have HF:Hid (KdP c r' .nil M w (.slice none 0 0) wr):=⟨M1,fun _=>False,k1,k2,k3,⟨none,0,rfl,Nat.le_refl _,.inl rfl⟩,fun b q=>q.elim⟩
    have heq:=hKL.eq
    rw [show N-k=(N-(k+1))+1 by omega,sY _ _ _ _ _ hf] at heq
    have HQ:=hid heq
    clear k1 k2 k3 k4 k5 k6 k7 k8 k9 hKL heq HI hlen hf
    go_wp2
    go_ret
    refine ⟨_,rfl,?_⟩
    rw [← HQ.o]
    exact HF.o
  ·have hltI:¬ (k:Int)<(N:Int):=by omega
   obtain rfl:k=N:=by omega
   have heq:=hKL.eq
   rw [Nat.sub_self,oX] at heq
   obtain ⟨fp,sv,xs2,hRo⟩:=k1
   have hst:r'.st.length≤200000:=by
    have h1:=hKL.lt.sl
    have h2:=hKL.lt.sp
    have h3:=hKL.inv.1
    have h4:=HH.o.2.2.2.2.2.2.2.1
    have h5:=HH.o.2.2.2.2.2.2.2.2.2.2
    have h6:=h5.lt.sl
    have h7:=h5.lt.sp
    have h8:=hKL.le
    unfold capR at h4
    omega
   have q4:=jB hRo.lies 4 _ rfl
   obtain ⟨sa,sc,hsv⟩:=kO hRo.ow
   subst hsv
   obtain ⟨SC,hSC⟩:∃ SC,(stc hb ⟨here,P,hash⟩).toArray=SC:=⟨_,rfl⟩
   have hSs:SC.size=34:=by rw [← hSC];exact sV _ _ hhl
   have hS1:SC.all (·.oneCell')=true:=by rw [← hSC];exact oV _ _
   have hlB:Lies wr B 0 SC:=by rw [← hSC];exact jD k4.1
   clear HI
   have hGd:G wr wr.drew:=(Below.refl _ _).drew
   have hRo:=hRo.keep hGd.size fun b hb=>hGd.block b (hRo.bnd b hb).2
   have q4:wr.drew.cell? ⟨c.X,4,none⟩=some (.slice sa r'.st.length sc):=q4
   have hlB:Lies wr.drew B 0 SC:=hGd.lies hlB
   obtain ⟨E,hE⟩:∃ E,wr.drew.heap.size=E:=⟨_,rfl⟩
   have hG1:G wr.drew (wr.drew.alloc (.cells SC 128)):=G.alloc _ _
   have q5:(wr.drew.alloc (.cells SC 128)).cell? ⟨c.X,4,none⟩=some (.slice sa r'.st.length sc):=hG1.cell q4
   obtain ⟨i1,hi1,hy0,hy1,hy2⟩:=info_parts oT
   obtain ⟨sv',w2,hrun,ho2,hg2,_,hat2⟩:=run_append_own_at (P:=Tryz.prog) (wr.drew.alloc (.cells SC 128)) c.lo 77 77 128 i1 (.agg z128) 34 48 (show Tryz.prog.underlying 77=some (.slice 128) by kernel_rfl) hi1 hy0 hy1 hy2 oU (by decide) (.slice sa r'.st.length sc) r'.st.length xs2 (World.ownsRow.alloc hRo.ow _) ⟨E,0,none⟩ 1 1 SC.toList (by simpa using hSs) (fun j u hj=>by rw [Addr.add_mid,← hE];exact jW wr.drew SC 128 j u (by simpa using hj)) (fun u hu=>(Array.all_eq_true_iff_forall_mem.1 hS1) u (by simpa using hu)) (by unfold maxLen;omega) (by omega) (by have:=hRo.bnd _ hRo.mX;rw [World.size_alloc];omega)
   have ho2':w2.ownsRow c.lo 128 34 sv' (r'.st.length+1) (xs2++stc hb ⟨here,P,hash⟩):=by
    rw [← hSC] at ho2
    simpa using ho2
   obtain ⟨M3,m1,m2,m3,m4,m5,m6⟩:=hRo.stamp (s:=⟨here,P,hash⟩) (HH.o.2.2.2.1.frs (k3.transn (M1:=fun _=>False) (fun b q=>q.elim) (Frs.of_G hGd))) (by have:=HH.o.2.2.2.2.1;show here.length≤64;omega) HH.o.2.2.2.2.2.2.1 hhl hG1 ho2' hg2 hat2
   have hM1X:M1 c.X:=hRo.mX
   have hkeep:∀ b,b<wr.heap.size→¬ M1 b→(w2.setCell ⟨c.X,4,none⟩ sv').heap[b]?=wr.heap[b]?:=fun b hb hn=>m6 b hb (fun e=>hn (e ▸ hM1X)) fun e=>hn (hRo.mS b e.symm)
   have HE:Hid (KdP c (kidE here P hash R).2 (kidE here P hash R).1 M w (.slice ao k uc) (w2.setCell ⟨c.X,4,none⟩ sv')):=by
    rw [← heq]
    show KdP c { r' with st:=r'.st++[⟨here,P,hash⟩] } f M w _ _
    have hPT:PT w (w2.setCell ⟨c.X,4,none⟩ sv') M3 T:=fun b hb=>by
     obtain ⟨p1,p2,cs,p3⟩:=k7 b hb
     exact ⟨p1,m2.not p3 (by decide) p2,cs,(hkeep b (gS p3) p2).trans p3⟩
    have hu30:∀ g,(Value.slice ao k uc).ownBlock=some g→∃ cs,wr.heap[g]?=some (.cells cs 30 (0,0)):=fun g e=>iI k5 e
    refine ⟨M3,fun b=>T b∨some b=(Value.slice ao k uc).ownBlock,m1,k2.trans k3 m2,k3.transn k2 ((Frs.of_G hGd).trans (fun _ q=>.inl q) m3),?_,?_⟩
    ·refine ja.slice (lo:=w.heap.size) (k6.keep fun b hb=>?_) (kB k5 fun g e=>?_) fun g e=>.inr e.symm
     ·obtain ⟨p1,p2,cs,p3⟩:=k7 b hb
      exact ⟨hkeep b (gS p3) p2,.inl hb⟩
     ·exact hkeep g (World.ownsRow.lt k5 g e).2 (k9 g e)
    ·rintro b (hb | hb)
     ·exact hPT b hb
     ·obtain ⟨cs,p3⟩:=hu30 b hb.symm
      exact ⟨(World.ownsRow.lt k5 b hb.symm).1,m2.not p3 (by decide) (k9 b hb.symm),cs,(hkeep b (gS p3) (k9 b hb.symm)).trans p3⟩
   have HA:=hid hrun
   have HL:=hid hlB
   have HS1:=hid (⟨hSs,hS1⟩:_∧_)
   obtain ⟨ga,gc,hsv'⟩:=kO ho2
   subst hsv'
   clear hRo k2 k3 k4 k5 k6 k7 k8 k9 hKL m1 m2 m3 m6 hkeep hM1X ho2 ho2' hg2 hat2 hrun hGd hG1 heq hSC hSs hS1 hlB hlen hi hz0 hz1 hz2 hi1 hy0 hy1 hy2 hst
   go_upto_region 14 with fail
   refine wp_region_any (by kernel_rfl) ?_
   change wpAny _ _ _ _ _ _ _ (World.drew _)
   generalize wr.drew=Wd at *
   refine tA 0 (.pointer (some ⟨c.X,0,none⟩)) ?_ ?_
   ·intro wz;go_simp
   try simp only [Act.put,sD,sE,sA,sB,sC]
   refine tA 1 (.pointer (some ⟨c.X,0,none⟩)) ?_ ?_
   ·intro wz;go_simp
   try simp only [Act.put,sD,sE,sF,sA,sB,sC]
   refine tA 2 (.pointer (some ⟨c.X,0,none⟩)) ?_ ?_
   ·intro wz;go_simp
   try simp only [Act.put,sD,sE,sF,sA,sB,sC]
   refine tA 3 (.pointer (some ⟨c.X,4,none⟩)) ?_ ?_
   ·intro wz;go_simp
   try simp only [Act.put,sD,sE,sF,sA,sB,sC]
   refine rA [4,5] ?_
   refine AllReady.cons rfl (fun K' hK'=>?_) (AllReady.cons rfl (fun K' hK'=>?_) AllReady.nil)
   ·go_simp
    refine hK' _ _ ?_
    clear hK' K'
    try simp only [Act.put,sD,sE,sF,sA,sB,sC]
    refine rA [5] ?_
    refine oR (fun K' hK'=>?_)
    refine fX rfl _ _ (jv 128 _ rfl B 0 rfl SC _ HL.o Tryz.underlying128 rfl (by rw [li,HS1.o.1])) ?_
    refine hK' _ _ ?_
    clear hK' K'
    try simp only [Act.put,sD,sE,sF,sA,sB,sC]
    refine rA [6] ?_
    refine oR (fun K' hK'=>?_)
    refine fX rfl _ _ (yt _ rfl SC rfl HS1.o.1 _ _ hE) ?_
    refine hK' _ _ ?_
    clear hK' K'
    try simp only [Act.put,sD,sE,sF,sA,sB,sC]
    refine rA [7] ?_
    refine oR (fun K' hK'=>?_)
    refine fX rfl _ _ (eM (v:=.slice sa r'.st.length sc) (vx:=.slice (some ⟨E,0,none⟩) 1 1) (.tmp 49) (.tmp 51) rfl rfl (by rfl) (by rfl) HA.o) ?_
    refine hK' _ _ ?_
    clear hK' K'
    try simp only [Act.put,sD,sE,sF,sA,sB,sC]
    refine tA 8 (.pointer (some ⟨c.X,0,none⟩)) ?_ ?_
    ·intro wz;go_simp
    try simp only [Act.put,sD,sE,sF,sA,sB,sC]
    refine tA 9 (.pointer (some ⟨c.X,4,none⟩)) ?_ ?_
    ·intro wz;go_simp
    try simp only [Act.put,sD,sE,sF,sA,sB,sC]
    refine rA [10] ?_
    refine oR (fun K' hK'=>?_)
    go_simp
    refine hK' _ _ ?_
    clear hK' K'
    refine dA ?_
    go_wp2
    go_ret
    exact ⟨_,rfl,HE.o⟩
   ·refine fX rfl _ _ (jv 128 _ rfl B 0 rfl SC _ HL.o Tryz.underlying128 rfl (by rw [li,HS1.o.1])) ?_
    refine hK' _ _ ?_
    clear hK' K'
    try simp only [Act.put,sD,sE,sF,sA,sB,sC]
    refine rA [4,6] ?_
    refine AllReady.cons rfl (fun K' hK'=>?_) (AllReady.cons rfl (fun K' hK'=>?_) AllReady.nil)
    ·go_simp
     refine hK' _ _ ?_
     clear hK' K'
     try simp only [Act.put,sD,sE,sF,sA,sB,sC]
     refine rA [6] ?_
     refine oR (fun K' hK'=>?_)
     refine fX rfl _ _ (yt _ rfl SC rfl HS1.o.1 _ _ hE) ?_
     refine hK' _ _ ?_
     clear hK' K'
     try simp only [Act.put,sD,sE,sF,sA,sB,sC]
     refine rA [7] ?_
     refine oR (fun K' hK'=>?_)
     refine fX rfl _ _ (eM (v:=.slice sa r'.st.length sc) (vx:=.slice (some ⟨E,0,none⟩) 1 1) (.tmp 49) (.tmp 51) rfl rfl (by rfl) (by rfl) HA.o) ?_
     refine hK' _ _ ?_
     clear hK' K'
     try simp only [Act.put,sD,sE,sF,sA,sB,sC]
     refine tA 8 (.pointer (some ⟨c.X,0,none⟩)) ?_ ?_
     ·intro wz;go_simp
     try simp only [Act.put,sD,sE,sF,sA,sB,sC]
     refine tA 9 (.pointer (some ⟨c.X,4,none⟩)) ?_ ?_
     ·intro wz;go_simp
     try simp only [Act.put,sD,sE,sF,sA,sB,sC]
     refine rA [10] ?_
     refine oR (fun K' hK'=>?_)
     go_simp
     refine hK' _ _ ?_
     clear hK' K'
     refine dA ?_
     go_wp2
     go_ret
     exact ⟨_,rfl,HE.o⟩
    ·refine fX rfl _ _ (yt _ rfl SC rfl HS1.o.1 _ _ hE) ?_
     refine hK' _ _ ?_
     clear hK' K'
     try simp only [Act.put,sD,sE,sF,sA,sB,sC]
     refine rA [4] ?_
     refine oR (fun K' hK'=>?_)
     go_simp
     refine hK' _ _ ?_
     clear hK' K'
     try simp only [Act.put,sD,sE,sF,sA,sB,sC]
     refine rA [7] ?_
     refine oR (fun K' hK'=>?_)
     refine fX rfl _ _ (eM (v:=.slice sa r'.st.length sc) (vx:=.slice (some ⟨E,0,none⟩) 1 1) (.tmp 49) (.tmp 51) rfl rfl (by rfl) (by rfl) HA.o) ?_
     refine hK' _ _ ?_
     clear hK' K'
     try simp only [Act.put,sD,sE,sF,sA,sB,sC]
     refine tA 8 (.pointer (some ⟨c.X,0,none⟩)) ?_ ?_
     ·intro wz;go_simp
     try simp only [Act.put,sD,sE,sF,sA,sB,sC]
     refine tA 9 (.pointer (some ⟨c.X,4,none⟩)) ?_ ?_
     ·intro wz;go_simp
     try simp only [Act.put,sD,sE,sF,sA,sB,sC]
     refine rA [10] ?_
     refine oR (fun K' hK'=>?_)
     go_simp
     refine hK' _ _ ?_
     clear hK' K'
     refine dA ?_
     go_wp2
     go_ret
     exact ⟨_,rfl,HE.o⟩
end Go.Proofs.YtjikkhbcbfpocaaGreatDoor
