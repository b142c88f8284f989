import Derived.Test.YtdeanahpiigonaaGreatDoorHZ0
import Derived.Test.YtdeanahpiigonaaGreatDoorHY1
import Derived.Test.YtdeanahpiigonaaGreatDoorHR4
set_option maxRecDepth 100000
set_option maxHeartbeats 16000000
namespace Go.Proofs.YtdeanahpiigonaaGreatDoor
open Go.RowKit Hm
attribute [local go_sem] Oper.semAt_some
def iZ:Value→Int
 | .int _ z=>z
 | _=>0
def gapI (H:List Nat→List Nat) (l:List Int) (name:ByteArray) (count k:Nat) (i:Int) (t:Nat × List Nat × Wi.St):Option (Nat × List Nat × Wi.St):=
 if i<0∨(count:Int)≤i then some t else (aM l name (decide (i<k)) count i.toNat t.2.2).bind fun x=>if 0<t.1∧topH H x.1.name x.1.hash x.1.sp≠t.2.1 then none else some (t.1+1,topH H x.1.name x.1.hash x.1.sp,x.2)
def zm (H:List Nat→List Nat) (l:List Int) (name:ByteArray) (a b k:Nat):Nat→Int→Nat × List Nat × Wi.St→Option (List Nat × Wi.St)
 | 0,_,t=>some (dirT a b t.2.1,Wi.endS l t.2.2)
 | n+1,i,t=>(gapI H l name b k i t).bind (zm H l name a b k n (i+1))
theorem mR (H:List Nat→List Nat) (l:List Int) (name:ByteArray) (s:Wi.St) (a b k:Nat × Wi.St) (ha:Wi.uintS l s 8=a) (hb:Wi.uintS l a.2 1048576=b) (hk:Wi.uintS l b.2 1048576=k):
  gapR H l name s=if k.2.fe≠0∨b.1<k.1 then none else zm H l name a.1 b.1 k.1 2 ((k.1:Int)-1) (0,j7,k.2):=by
 unfold gapR
 simp only [ha,hb,hk]
 split
 ·rfl
 ·rename_i hn
  have hkb:k.1≤b.1:=by omega
  rw [zm]
  have e1:(k.1:Int)-1+1=(k.1:Int):=by omega
  have e2:∀ t:Nat × List Nat × Wi.St,((if k.1<b.1 then (aM l name false b.1 k.1 t.2.2).bind fun x=>if 0<t.1∧topH H x.1.name x.1.hash x.1.sp≠t.2.1 then none else some (topH H x.1.name x.1.hash x.1.sp,x.2) else some t.2).map fun y=>(dirT a.1 b.1 y.1,Wi.endS l y.2))=zm H l name a.1 b.1 k.1 1 (k.1:Int) t:=fun t=>by
   rw [zm,gapI]
   by_cases hlt:k.1<b.1
   ·rw [if_pos hlt,if_neg (by omega),show decide ((k.1:Int)<(k.1:Int))=false by simp,Int.toNat_natCast]
    cases aM l name false b.1 k.1 t.2.2 with
    | none=>rfl
    | some x=>
     simp only [Option.bind_some]
     split<;>rfl
   ·rw [if_neg hlt,if_pos (by omega)]
    rfl
  by_cases h0:0<k.1
  ·rw [if_pos h0,gapI,if_neg (by omega),show decide ((k.1:Int)-1<(k.1:Int))=true by simp;omega,show ((k.1:Int)-1).toNat=k.1-1 by omega]
   cases aM l name true b.1 (k.1-1) k.2 with
   | none=>rfl
   | some x=>
    simp only [Option.map_some,Option.bind_some]
    rw [if_neg (show ¬ ((0:Nat)<0∧topH H x.1.name x.1.hash x.1.sp≠j7) by simp),Option.bind_some,e1]
    exact e2 (0+1,topH H x.1.name x.1.hash x.1.sp,x.2)
  ·rw [if_neg h0,gapI,if_pos (by omega),Option.bind_some,Option.bind_some,e1]
   exact e2 (0,j7,k.2)
structure GpI (bt:Int) (lo M:Nat) (l:List Int) (s:Wi.St) (W:World) (b3 b12:Nat) (v:Value) (top:List Nat) (N:Nat) (w:World):Prop where
 rf:Wi.RfS w lo M l s
 v3:w.heap[b3]?=some (.cells #[.int .i64 bt] 27 (0,0))
 v12:w.heap[b12]?=some (.cells (hA top) 22 (0,0))
 tx:TxE w W.heap.size v N
 kp:Kp (fun b=>b=M) W w
 lo:M<W.heap.size∧W.heap.size≤b3∧W.heap.size≤b12
 top:top.length=32∧Su.Bytes top
theorem GpI.up {bt:Int} {lo M:Nat} {l:List Int} {s:Wi.St} {W:World} {b3 b12:Nat} {v:Value} {top:List Nat} {N:Nat} {w w':World} (h:GpI bt lo M l s W b3 b12 v top N w) (hg:G w w'):GpI bt lo M l s W b3 b12 v top N w':=
 ⟨z8 h.rf hg,(hg.block b3 (ga h.v3).1).trans h.v3,(hg.block b12 (ga h.v12).1).trans h.v12,h.tx.keep (K2.of_g hg),h.kp.trans (Kp.of hg) fun _ _ e=>e,h.lo,h.top⟩
theorem GpI.rd {bt:Int} {lo M:Nat} {l:List Int} {s s':Wi.St} {W:World} {b3 b12:Nat} {v:Value} {top:List Nat} {N:Nat} {w w':World} (h:GpI bt lo M l s W b3 b12 v top N w) (hr:Wi.RfS w' lo M l s') (hk:Kp (fun b=>b=M) w w'):GpI bt lo M l s' W b3 b12 v top N w':=by
 obtain ⟨c,h67⟩:=an h.rf
 exact ⟨hr,(hk.block b3 (ga h.v3).1 (by have:=h.lo;omega)).trans h.v3,(hk.block b12 (ga h.v12).1 (by have:=h.lo;omega)).trans h.v12,h.tx.keep (K2.at hk h67 (by decide)),h.kp.trans hk fun _ _ e=>e,h.lo,h.top⟩
theorem GpI.set {bt:Int} {lo M:Nat} {l:List Int} {s:Wi.St} {W:World} {b3 b12:Nat} {v:Value} {top:List Nat} {N:Nat} {w w':World} (h:GpI bt lo M l s W b3 b12 v top N w) {t2:List Nat} (h2:t2.length=32∧Su.Bytes t2) (hk:Kp (fun b=>b=b12) w w') (hv:w'.heap[b12]?=some (.cells (hA t2) 22 (0,0))):GpI bt lo M l s W b3 b12 v t2 N w':=by
 have hne:b3≠b12:=fun e=>by
  have:=h.v3
  rw [e,h.v12] at this
  injection this with this
  injection this with _ this
  exact absurd this (by decide)
 exact ⟨qF h.rf fun b hb=>hk.block b (by have:=qi h.rf;omega) (by have:=h.lo;omega),(hk.block b3 (ga h.v3).1 hne).trans h.v3,hv,h.tx.keep (K2.at hk h.v12 (by decide)),h.kp.trans hk fun b hb e=>by have:=h.lo;omega,h.lo,h2⟩
theorem GpI.grow {bt:Int} {lo M:Nat} {l:List Int} {s:Wi.St} {W:World} {b3 b12:Nat} {v v':Value} {top:List Nat} {N N':Nat} {w w':World} (h:GpI bt lo M l s W b3 b12 v top N w) (hx:TxE w' W.heap.size v' N') (hk:K25 w w') (hp:Kp (fun b=>W.heap.size≤b) w w'):GpI bt lo M l s W b3 b12 v' top N' w':=
 ⟨qF h.rf fun b hb=>hp.block b (by have:=qi h.rf;omega) (by have:=h.lo;omega),(hk b3 _ _ h.v3 (by decide)).trans h.v3,(hk b12 _ _ h.v12 (by decide)).trans h.v12,hx,h.kp.trans hp fun b hb e=>by omega,h.lo,h.top⟩
theorem GpI.fe {bt:Int} {lo M:Nat} {l:List Int} {s:Wi.St} {W:World} {b3 b12:Nat} {v:Value} {top:List Nat} {N:Nat} {w:World} (h:GpI bt lo M l s W b3 b12 v top N w):w.cell? ⟨M,2,none⟩=some (.int .i64 s.fe):=by
 obtain ⟨x,hh,_⟩:=h.rf
 rw [j9 hh]
 rfl
def GpP (lo M:Nat) (l:List Int) (W:World) (R:Option (List Nat × Wi.St)) (e:Ending) (w':World):Prop:=
 Kp (fun b=>b=M) W w'∧∃ v s',Wi.RfS w' lo M l s'∧((R=none∧e=.returned (.tuple #[v,.bool false]))∨∃ T,R=some (T,s')∧e=.returned (.tuple #[v,.bool true])∧Tx w' W.heap.size v T 100∧Su.Bytes T∧T.length≤100000)
theorem ar {m c:Nat} {top:List Nat} (hm:m≤9223372036854775807) (hc:c≤9223372036854775807) (h:top.length=32∧Su.Bytes top):Su.Bytes (dirT m c top)∧(dirT m c top).length≤100000:=by
 constructor
 ·intro x hx
  unfold dirT at hx
  rcases List.mem_cons.1 hx with rfl | hx
  ·decide
  ·rcases List.mem_append.1 hx with hx | hx
   ·exact yE _ x hx
   ·rcases List.mem_append.1 hx with hx | hx
    ·exact yE _ x hx
    ·exact h.2 x hx
 ·have h1:=ju (n:=m) (by omega)
  have h2:=ju (n:=c) (by omega)
  simp [dirT,h.1]
  omega
theorem TxE.lt {w:World} {lo:Nat} {v:Value} {N:Nat} (h:TxE w lo v N):∀ b,v.ownBlock=some b→b<w.heap.size:=fun b hb=>by
 obtain ⟨L,h1,_⟩:=h
 exact (h1.lt b hb).2
theorem TxE.appL2 {w:World} {lo lo2:Nat} {v v2:Value} {T:List Nat} {N N2:Nat} (h:TxE w lo v N) (ty:TypeId) (h2:Tx w lo2 v2 T N2) (hlt:∀ b,v.ownBlock=some b→b<lo2) (hb:lo≤w.heap.size) (hN:N≤1000000) (hN2:N2≤1000000):
  ∃ v' w',(Builtin.append_ #[31,31] ty #[v,v2]).run Tryz.prog w=.ok v' w'∧Tx w' lo v' T (N+N2)∧Tx w' lo2 v2 T N2∧K25 w w'∧Kp (fun b=>lo≤b) w w':=by
 obtain ⟨L,h1,hh,h4⟩:=h
 obtain ⟨R,u,q1,q2,q3,q4⟩:=h2
 obtain ⟨v',w',a1,a2,a3,a4⟩:=lm ek31 (L:=R++[#[u]]) ty h1 q1.has (fun x hx=>⟨q1.sz x hx,q2 x hx⟩) hb (by simp;omega)
 have hk:=K25.grown h1 a3
 refine ⟨v',w',a1,⟨L++R,u,by rw [List.append_assoc];exact a2,fun x hx=>?_,eV q3 hk,by simp;omega⟩,⟨R,u,q1.block fun b hb=>a3.block b (q1.lt b hb).2 fun e=>?_,q2,eV q3 hk,q4⟩,hk,(Kp.grown a3).mono fun b _ e=>(h1.lt b e).1⟩
 ·rw [List.append_assoc] at hx
  rcases List.mem_append.1 hx with hx | hx
  ·exact hh x hx
  ·exact q2 x hx
 ·have:=hlt b e.symm
  have:=(q1.lt b hb).1
  omega
theorem refU {lo M:Nat} {l:List Int} {s:Wi.St} {W:World} (h:Wi.RfS W lo M l s) (hB:Wire.Bytes l) (most:Nat) (mi:Int) (hmi:mi=(most:Int)):Calls Tryz.prog 18 #[.pointer (some ⟨M,0,none⟩),.int .u64 mi] W fun e w'=>e=.returned (.int .u64 ((Wi.uintS l s most).1:Nat))∧Wi.RfS w' lo M l (Wi.uintS l s most).2∧Kp (fun b=>b=M) W w':=by
 subst hmi
 exact (Wi.fV lo M most l s W h hB).mono fun e w' q=>⟨q.1,q.2.1,yC q.2.2⟩
theorem mS (bt:Int) (lo M:Nat) (l:List Int) (s:Wi.St) (w:World) (hr:Wi.RfS w lo M l s) (hB:Wire.Bytes l) (name:ByteArray):
  Calls Tryz.prog 53 #[.agg #[.int .i64 bt],.pointer (some ⟨M,0,none⟩),.string name] w fun e w'=>GpP lo M l w (gapR (sumS bt) l name s) e w':=by
 have hz32:(hA j7).size=32:=jG jC
 have hMw:=qi hr
 have HI:=hid hr
 have C1:Hid (∀ W,Wi.RfS W lo M l s→Calls Tryz.prog 18 #[.pointer (some ⟨M,0,none⟩),.int .u64 8] W fun e w'=>e=.returned (.int .u64 ((Wi.uintS l s 8).1:Nat))∧Wi.RfS w' lo M l (Wi.uintS l s 8).2∧Kp (fun b=>b=M) W w'):=fun W h=>refU h hB 8 8 rfl
 have l1:=kK l s 8
 obtain ⟨A,hA1⟩:∃ A,Wi.uintS l s 8=A:=⟨_,rfl⟩
 have C2:Hid (∀ W,Wi.RfS W lo M l A.2→Calls Tryz.prog 18 #[.pointer (some ⟨M,0,none⟩),.int .u64 1048576] W fun e w'=>e=.returned (.int .u64 ((Wi.uintS l A.2 1048576).1:Nat))∧Wi.RfS w' lo M l (Wi.uintS l A.2 1048576).2∧Kp (fun b=>b=M) W w'):=fun W h=>refU h hB 1048576 1048576 rfl
 have l2:=kK l A.2 1048576
 obtain ⟨B,hB1⟩:∃ B,Wi.uintS l A.2 1048576=B:=⟨_,rfl⟩
 have C3:Hid (∀ W,Wi.RfS W lo M l B.2→Calls Tryz.prog 18 #[.pointer (some ⟨M,0,none⟩),.int .u64 1048576] W fun e w'=>e=.returned (.int .u64 ((Wi.uintS l B.2 1048576).1:Nat))∧Wi.RfS w' lo M l (Wi.uintS l B.2 1048576).2∧Kp (fun b=>b=M) W w'):=fun W h=>refU h hB 1048576 1048576 rfl
 have l3:=kK l B.2 1048576
 obtain ⟨K,hK1⟩:∃ K,Wi.uintS l B.2 1048576=K:=⟨_,rfl⟩
 rw [mR (sumS bt) l name s A B K hA1 hB1 hK1]
 rw [hA1] at C1 l1
 rw [hB1] at C2 l2
 rw [hK1] at C3 l3
 obtain ⟨md,sA⟩:=A
 obtain ⟨n,sB⟩:=B
 obtain ⟨k,sC⟩:=K
 simp only at C1 C2 C3 l1 l2 l3 ⊢
 clear hA1 hB1 hK1
 have CO:Hid (∀ W u T,Su.Has W u T→Su.Bytes T→T.length≤100000→Calls Tryz.prog 7 #[.agg #[.int .i64 bt],u] W fun e W'=>e=.returned (.agg (hA (sumS bt T)))∧G W W'):=fun W u T h1 h2 h3=>bp bt u T W h1 h2 h3
 have CP:Hid (∀ (W:World) (lo0:Nat) (ub:Value) (t:List Nat) (count place:Nat) (sv:Value) (sib:List (List Nat)),Su.Owns W lo0 ub t→Su.Bytes t→t.length≤100000→count≤1048576→place<count→HsL 32 W sv (sib.map hA)→(∀ y∈sib,y.length=32∧Su.Bytes y)→sib.length=hgt count place→Calls Tryz.prog 21 #[.agg #[.int .i64 bt],ub,.int .i64 (count:Int),.int .i64 (place:Int),sv] W fun e w'=>∃ v T,e=.returned v∧Tx w' W.heap.size v T 22∧G W w'∧sumS bt T=yQ (sumS bt) (sumS bt t) count place sib.reverse∧Su.Bytes T∧T.length≤100000):=fun W lo0 ub t count place sv sib h1 h2 h3 h4 h5 h6 h7 h8=>gD bt ub t W lo0 h1 h2 h3 count place h4 h5 sv sib h6 h7 h8
 have hS:=zN bt
 generalize sumS bt=S at *
 obtain ⟨RES,hRES⟩:∃ R,(if sC.fe≠0∨n<k then none else zm S l name md n k 2 ((k:Int)-1) (0,j7,sC))=R:=⟨_,rfl⟩
 rw [hRES]
 have HRS:=hid hRES
 clear hr hRES
 go_enter Tryz.func53,Tryz.ntmps53
 go_upto_region 3 with (first
  | ((with_reducible refine jt 3 27 (.tmp 0) (#[.int .i64 bt]:Array Value) ?_ ?_ ?_ ?_ ?_);rfl;rfl;kernel_rfl;rfl;intro w1 b1 H1)
  | (go_at_call 18;refine (C3.o w3 H3.o.1).mono ?_;rintro e w4 ⟨rfl,q⟩;have H4:=hid q;clear q)
  | (go_at_call 18;refine (C2.o w2 H2.o.1).mono ?_;rintro e w3 ⟨rfl,q⟩;have H3:=hid q;clear q)
  | (go_at_call 18;refine (C1.o w1 (z8 HI.o H1.o.2.1)).mono ?_;rintro e w2 ⟨rfl,q⟩;have H2:=hid q;clear q))
 have HG0:Hid (Wi.RfS w4 lo M l sC∧w4.heap[b1]?=some (.cells #[.int .i64 bt] 27 (0,0))∧Kp (fun b=>b=M) w w4∧w.heap.size≤b1∧b1<w4.heap.size):=by
  obtain ⟨p1,p2,p3,p4⟩:=H1.o
  obtain ⟨q1,q2⟩:=H2.o
  obtain ⟨t1,t2⟩:=H3.o
  obtain ⟨v1,v2⟩:=H4.o
  have s2:=q2.size
  have s3:=t2.size
  have s4:=v2.size
  exact ⟨v1,(v2.block b1 (by omega) (by omega)).trans ((t2.block b1 (by omega) (by omega)).trans ((q2.block b1 (by omega) (by omega)).trans p3)),(((Kp.of p2).trans q2 fun _ _ e=>e).trans t2 fun _ _ e=>e).trans v2 fun _ _ e=>e,by omega,by omega⟩
 clear H1 H2 H3 H4 C1 C2 C3 HI
 have hz2:w4.cell? ⟨M,2,none⟩=some (.int .i64 sC.fe):=by
  obtain ⟨x,hh,_⟩:=HG0.o.1
  rw [j9 hh];rfl
 by_cases hfe:sC.fe≠0
 ·have hn:RES=none:=by rw [← HRS.o,if_pos (.inl hfe)]
  have hfb:(sC.fe !=0)=true:=by simpa using hfe
  generalize sC.fe=fe at *
  go_wp2_with fail
  go_ret2
  exact ⟨HG0.o.2.2.1,_,sC,HG0.o.1,.inl ⟨hn,rfl⟩⟩
 ·have hfb:(sC.fe !=0)=false:=by simpa using hfe
  obtain ⟨fe,hfe2⟩:∃ fe,sC.fe=fe:=⟨_,rfl⟩
  rw [hfe2] at hz2 hfb
  by_cases hnk:n<k
  ·have hn:RES=none:=by rw [← HRS.o,if_pos (.inr hnk)]
   have hnI:(n:Int)<k:=by omega
   go_wp2_with fail
   go_ret2
   exact ⟨HG0.o.2.2.1,_,sC,HG0.o.1,.inl ⟨hn,rfl⟩⟩
  ·have HRES:Hid (zm S l name md n k 2 ((k:Int)-1) (0,j7,sC)=RES):=hid (by rw [← HRS.o,if_neg (by rintro (h | h);exact hfe h;exact hnk h)])
   have hnI:¬ (n:Int)<k:=by omega
   go_wp2_with (first
    | ((with_reducible refine jT 39 (.agg (hA j7)) w4 ?_ ?_ ?_ ?_);rfl;kernel_rfl;exact xI 22 rfl (hA j7) (yS _))
    | ((with_reducible refine qC 12 22 (hA j7) ?_ ?_ ?_ ?_ ?_);rfl;rfl;kernel_rfl;exact jv;intro w5 b2 H5)
    | ((with_reducible refine qj 22 (.tmp 12) (.tmp 39) b2 (hA j7) (hA j7) ?_ ?_ ?_ ?_ ?_ ?_ ?_ ?_ ?_ ?_);rfl;rfl;kernel_rfl;rfl;rfl;exact H5.o.2.2.1;exact (by rw [jK,hz32]);exact rfl;exact (jn _);intro w6 H6))
   have HO:Hid (GpI bt lo M l sC w b1 b2 (.slice none 0 0) j7 0 w6):=by
    obtain ⟨p1,p2,p3,p4,p5⟩:=HG0.o
    obtain ⟨q1,q2,q3,q4⟩:=H5.o
    obtain ⟨t1,t2,t3⟩:=H6.o
    have:w.heap.size≤w4.heap.size:=p3.size
    exact ⟨qF (z8 p1 q2) fun b hb=>t1.block b (by have:=qi p1;omega) (by have:=qi p1;omega),(t1.block b1 (by omega) (by omega)).trans ((q2.block b1 (by omega)).trans p2),t2,TxE.nil _ _,(p3.trans (Kp.of q2) fun _ _ e=>e).trans t1 fun b hb e=>by omega,by omega,jC,qk⟩
   clear HG0 H5 H6 hz2 hfb
   go_loopw [11,13,14] (fun v tl i wr=>∃ (m:Nat) (iz:Int) (tN:Nat) (top:List Nat) (s':Wi.St),tl=.int .i64 (tN:Int)∧i=.int .i64 iz∧iz+m=k+1∧m≤2∧tN≤2-m∧(∃ a n c,v=.slice a n c)∧Hid (GpI bt lo M l s' w b1 b2 v top (22*(2-m)) wr∧zm S l name md n k m iz (tN,top,s')=RES)) (fun _ _ i _=>((k:Int)+1-iZ i).toNat)
   case atStart=>exact ⟨2,_,0,j7,sC,rfl,rfl,by omega,by omega,by omega,⟨_,_,_,rfl⟩,HO.o,HRES.o⟩
   case round=>
    clear HO HRES
    obtain ⟨m,iz,tN,top,s',rfl,rfl,hiz,hm,htN,⟨oa,on,oc,rfl⟩,HR⟩:=hrel
    match m,hiz,hm,htN,HR with
    | 0,hiz,hm,htN,HR=>
     have hzk:¬ iz≤k:=by omega
     have hR:=HR.o
     rw [zm] at hR
     simp only at hR
     have CE:Hid (∀ W,Wi.RfS W lo M l s'→Calls Tryz.prog 52 #[.pointer (some ⟨M,0,none⟩)] W fun e w'=>e=.returned (.tuple #[])∧Wi.RfS w' lo M l (Wi.endS l s')∧Kp (fun b=>b=M) W w'):=fun W h=>(Wi.zi lo M l s' W h).mono fun e w' q=>⟨q.1,q.2.1,yC q.2.2⟩
     have hd:=ar (m:=md) (c:=n) (by omega) (by omega) hR.1.top
     have CD:Hid (∀ W,Calls Tryz.prog 23 #[.int .i64 (md:Int),.int .i64 (n:Int),.agg (hA top)] W fun e w'=>∃ u,e=.returned u∧Su.Owns w' W.heap.size u (dirT md n top)∧G W w'):=fun W=>by
      have:=al md n top W hR.1.top.1 (by omega) (by omega)
      rw [show dirT md n top=68::(encN md++encN n++top) by simp [dirT]]
      exact this
     have HT:Hid ((hA top).size=32):=jG hR.1.top.1
     have HRR:=hid hR
     have HD:=hid hd
     clear hR hd HR
     generalize dirT md n top=T at *
     go_wp2_with (first
      | (go_at_call 52;refine (CE.o wr HRR.o.1.rf).mono ?_;rintro e w7 ⟨rfl,q1,q2⟩;have H7:=hid (HRR.o.1.rd q1 q2);clear q1 q2)
      | ((with_reducible refine jE 126 22 (.tmp 12) b2 0 (hA top) _ ?_ ?_ ?_ ?_ ?_ Tryz.underlying22 ?_ ?_ ?_);rfl;rfl;kernel_rfl;rfl;exact Lies.of_heap H7.o.v12;rfl;exact (by rw [jK,HT.o]))
      | (go_at_call 23;refine (CD.o w7).mono ?_;rintro e w8 ⟨u,rfl,q1,q2⟩;obtain ⟨ua,uc,hue⟩:=jo q1;subst hue;have H8:=hid (H7.o.up q2);obtain ⟨v9,w9,a1,a2,a3,a4⟩:=H8.o.tx.app1 31 (q1.mono (Nat.zero_le _)) H8.o.kp.size (by omega) _ rfl;have HAP:=hid a1;have HN:=hid (H8.o.grow a2.e a3 a4);have HX:Hid (Tx w9 w.heap.size v9 T 100):=a2.le (by omega);obtain ⟨va,vn,vc,hve⟩:=a2.e.form;clear a1 a2 a3 a4 q2;have HOW:=hid q1;clear q1)
      | ((with_reducible refine jT 128 (.slice (some ⟨w8.heap.size,0,none⟩) 1 1) (w8.alloc (.cells #[.slice ua T.length uc] 25)) ?_ ?_ ?_ ?_);rfl;kernel_rfl;exact jf ek31 _ rfl (.slice ua T.length uc) #[.slice ua T.length uc] rfl rfl rfl _ _ rfl)
      | ((with_reducible refine jT 129 v9 w9 ?_ ?_ ?_ ?_);rfl;kernel_rfl;exact qc rfl rfl rfl HAP.o;subst hve))
     go_ret2
     exact ⟨HN.o.kp,_,Wi.endS l s',HN.o.rf,.inr ⟨T,HRR.o.2.symm,rfl,HX.o,HD.o⟩⟩
    | m+1,hiz,hm,htN,HR=>
     have hzk:iz≤k:=by omega
     have hR:=HR.o
     rw [zm] at hR
     by_cases hsk:iz<0∨(n:Int)≤iz
     ·have hg:gapI S l name n k iz (tN,top,s')=some (tN,top,s'):=by unfold gapI;rw [if_pos hsk]
      rw [hg,Option.bind_some] at hR
      have HRR:=hid hR
      clear hR hg HR
      by_cases hz0:iz<0
      ·clear hsk
       go_wp2_with fail
       go_roundw
       case rel=>exact ⟨m,iz+1,tN,top,s',rfl,by go_num,by omega,by omega,by omega,⟨_,_,_,rfl⟩,⟨HRR.o.1.rf,HRR.o.1.v3,HRR.o.1.v12,HRR.o.1.tx.le (by omega),HRR.o.1.kp,HRR.o.1.lo,HRR.o.1.top⟩,HRR.o.2⟩
       case measure=>simp [iZ];omega
      ·have hz1:(n:Int)≤iz:=by omega
       clear hsk
       go_wp2_with fail
       go_roundw
       case rel=>exact ⟨m,iz+1,tN,top,s',rfl,by go_num,by omega,by omega,by omega,⟨_,_,_,rfl⟩,⟨HRR.o.1.rf,HRR.o.1.v3,HRR.o.1.v12,HRR.o.1.tx.le (by omega),HRR.o.1.kp,HRR.o.1.lo,HRR.o.1.top⟩,HRR.o.2⟩
       case measure=>simp [iZ];omega
     ·obtain ⟨p,rfl⟩:∃ p:Nat,iz=(p:Int):=⟨iz.toNat,by omega⟩
      have hpn:p<n:=by omega
      have hz0:¬ ((p:Int))<0:=by omega
      have hz1:¬ (n:Int)≤p:=by omega
      have hp20:p≤1048576:=by omega
      have C75:Hid (∀ W,Wi.RfS W lo M l s'→Calls Tryz.prog 75 #[.pointer (some ⟨M,0,none⟩),.int .i64 255] W fun e w'=>e=.returned (.string (Wi.mkStr (Wi.textS l s' 255).1))∧Wi.RfS w' lo M l (Wi.textS l s' 255).2∧Kp (fun b=>b=M) W w'):=fun W h=>(Wi.fW lo M 255 l s' W h hB (by omega)).mono fun e w' q=>⟨q.1,q.2.1,yC q.2.2⟩
      have hxs:=aZ l s'
      have hside:∀ ahead:Bool,aM l name ahead n p s'=(if (qf l (hgt n p) (Wi.rawS l (Wi.textS l s' 255).2 32)).2.fe≠0∨nameB (tl (Wi.mkStr (Wi.textS l s' 255).1))=false∨(if ahead then ltS (Wi.mkStr (Wi.textS l s' 255).1) name else gtS (Wi.mkStr (Wi.textS l s' 255).1) name)=false then none else some (⟨Wi.mkStr (Wi.textS l s' 255).1,h32 (Wi.rawB l (Wi.textS l s' 255).2 32),⟨n,p,(qf l (hgt n p) (Wi.rawS l (Wi.textS l s' 255).2 32)).1⟩⟩,(qf l (hgt n p) (Wi.rawS l (Wi.textS l s' 255).2 32)).2)):=fun ahead=>rfl
      obtain ⟨X,hX⟩:∃ X,Wi.mkStr (Wi.textS l s' 255).1=X:=⟨_,rfl⟩
      obtain ⟨sX,hsX⟩:∃ sX,(Wi.textS l s' 255).2=sX:=⟨_,rfl⟩
      rw [hX] at hxs
      simp only [hX,hsX] at C75 hside
      have C50:Hid (∀ W,Wi.RfS W lo M l sX→Calls Tryz.prog 50 #[.pointer (some ⟨M,0,none⟩)] W fun e w'=>e=.returned (.agg (hA (h32 (Wi.rawB l sX 32))))∧Wi.RfS w' lo M l (Wi.rawS l sX 32)∧Kp (fun b=>b=M) W w'):=fun W h=>yi lo M l sX W h hB
      have hhs:(h32 (Wi.rawB l sX 32)).length=32∧Su.Bytes (h32 (Wi.rawB l sX 32)):=⟨qO _,kL (qW hB _)⟩
      generalize h32 (Wi.rawB l sX 32)=hh at C50 hhs hside
      generalize Wi.rawS l sX 32=sH at C50 hside
      have C19:Hid (∀ W,Wi.RfS W lo M l sH→Calls Tryz.prog 19 #[.pointer (some ⟨M,0,none⟩),.int .i64 (n:Int),.int .i64 (p:Int)] W fun e w'=>∃ v,e=.returned v∧OwL 22 32 w' W.heap.size v ((qf l (hgt n p) sH).1.map hA)∧Wi.RfS w' lo M l (qf l (hgt n p) sH).2∧Kp (fun b=>b=M) W w'):=fun W h=>aA lo M l sH W h hB n p l2 hp20
      have hsl:=xQ l (hgt n p) sH
      have hsok:=cP hB (hgt n p) sH
      generalize qf l (hgt n p) sH=D at C19 hsl hsok hside
      obtain ⟨sib,sD⟩:=D
      simp only at C19 hsl hsok hside
      clear hX hsX
      have CN:Hid (∀ W,Calls Tryz.prog 44 #[.string X] W fun e w'=>e=.returned (.bool (nameB (tl X)))∧w'=W):=fun W=>Pa.name_any X W (by omega)
      generalize nameB (tl X)=nb at CN hside
      obtain ⟨fe,hfe2⟩:∃ fe,sD.fe=fe:=⟨_,rfl⟩
      simp only [hfe2] at hside
      have HHs:Hid ((hA hh).size=32∧(hA hh).all (·.oneCell')=true):=⟨jG hhs.1,jn _⟩
      have HRR:=hid hR.1
      have HRE:=hid hR.2
      have HSL:=hid hsl
      clear hR HR hsk hsl
      go_upto_region 15 with (first
       | (go_at_call 75;refine (C75.o wr HRR.o.rf).mono ?_;rintro e w5 ⟨rfl,q1,q2⟩;have H5:=hid (HRR.o.rd q1 q2);clear q1 q2)
       | (go_at_call 50;refine (C50.o w5 H5.o.rf).mono ?_;rintro e w6 ⟨rfl,q1,q2⟩;have H6:=hid (H5.o.rd q1 q2);clear q1 q2)
       | ((with_reducible refine qC 16 22 (hA j7) ?_ ?_ ?_ ?_ ?_);rfl;rfl;kernel_rfl;exact jv;intro w7 b16 H7)
       | ((with_reducible refine qj 22 (.tmp 16) (.tmp 57) b16 (hA hh) (hA j7) ?_ ?_ ?_ ?_ ?_ ?_ ?_ ?_ ?_ ?_);rfl;rfl;kernel_rfl;rfl;rfl;exact H7.o.2.2.1;exact (by rw [jK,HHs.o.1]);exact (hz32.trans HHs.o.1.symm);exact HHs.o.2;intro w17 H17;have HQ7:Hid (GpI bt lo M l sH w b1 b2 (.slice oa on oc) top (22*(2-(m+1))) w17∧w17.heap[b16]?=some (.cells (hA hh) 22 (0,0))∧w.heap.size≤b16∧b2<b16):=(by obtain ⟨q1,q2,q3,q4⟩:=H7.o;obtain ⟨t1,t2,t3⟩:=H17.o;have g7:=H6.o.up q2;have gs:=H6.o.kp.size;have e0:=(ga H6.o.v12).1;have e3:=(ga H6.o.v3).1;have eM:=qi H6.o.rf;exact ⟨⟨qF g7.rf fun b hb=>t1.block b (by omega) (by omega),(t1.block b1 (by omega) (by omega)).trans g7.v3,(t1.block b2 (by omega) (by omega)).trans g7.v12,g7.tx.keep (K2.at t1 q3 (by decide)),g7.kp.trans t1 fun b hb e=>by omega,g7.lo,g7.top⟩,t2,by omega,by omega⟩))
       | (go_at_call 19;refine (C19.o w17 HQ7.o.1.rf).mono ?_;rintro e w8 ⟨v8,rfl,q0,q1,q2⟩;obtain ⟨sa,sc,hse⟩:=q0.form;rw [List.length_map] at hse;subst hse;have H8:Hid (GpI bt lo M l sD w b1 b2 (.slice oa on oc) top (22*(2-(m+1))) w8∧w8.heap[b16]?=some (.cells (hA hh) 22 (0,0))∧HsL 32 w8 (.slice sa sib.length sc) (sib.map hA)):=⟨HQ7.o.1.rd q1 q2,(q2.block b16 (ga HQ7.o.2.1).1 (by have:=HQ7.o.1.lo;have:=HQ7.o.2.2;omega)).trans HQ7.o.2.1,q0.has⟩;clear q0 q1 q2))
      have hz2:w8.cell? ⟨M,2,none⟩=some (.int .i64 fe):=by rw [H8.o.1.fe,hfe2]
      by_cases hfe:fe≠0
      ·have hfb:(fe !=0)=true:=by simpa using hfe
       have hn:RES=none:=by rw [← HRE.o];unfold gapI;rw [if_neg (by omega)];simp only [Int.toNat_natCast];rw [hside,if_pos (.inl hfe)];rfl
       clear hside
       go_wp2_with fail
       go_ret2
       exact ⟨H8.o.1.kp,_,sD,H8.o.1.rf,.inl ⟨hn,rfl⟩⟩
      ·have hfb:(fe !=0)=false:=by simpa using hfe
       cases nb with
       | false=>
        have hn:RES=none:=by rw [← HRE.o];unfold gapI;rw [if_neg (by omega)];simp only [Int.toNat_natCast];rw [hside,if_pos (.inr (.inl rfl))];rfl
        clear hside
        go_wp2_with (go_at_call 44;refine (CN.o _).mono ?_;rintro e w9 ⟨rfl,rfl⟩)
        go_ret2
        exact ⟨H8.o.1.kp,_,sD,H8.o.1.rf,.inl ⟨hn,rfl⟩⟩
       | true=>
        by_cases hpk:(p:Int)<k
        ·have hdk:decide ((p:Int)<k)=true:=by simpa using hpk
         by_cases hcmp:ltS X name=false
         ·have hn:RES=none:=by rw [← HRE.o];unfold gapI;rw [if_neg (by omega)];simp only [Int.toNat_natCast,hdk];rw [hside,if_pos (.inr (.inr (by simpa using hcmp)))];rfl
          clear hside
          have hbl:Op.bytesLess X.toList name.toList=false:=hcmp
          go_wp2_with (go_at_call 44;refine (CN.o _).mono ?_;rintro e w9 ⟨rfl,h9⟩;have h9:=h9.symm;subst h9)
          go_ret2
          exact ⟨H8.o.1.kp,_,sD,H8.o.1.rf,.inl ⟨hn,rfl⟩⟩
         ·have hcmp2:ltS X name=true:=by simpa using hcmp
          have HGI:Hid (gapI S l name n k (p:Int) (tN,top,s')=if 0<tN∧topH S X hh ⟨n,p,sib⟩≠top then none else some (tN+1,topH S X hh ⟨n,p,sib⟩,sD)):=hid (by unfold gapI;rw [if_neg (by omega)];simp only [Int.toNat_natCast,hdk];rw [hside,if_neg (by rintro (h | h | h);exact hfe h;cases h;exact hcmp (by simpa using h))];rfl)
          clear hside
          have hbl:Op.bytesLess X.toList name.toList=true:=hcmp2
          go_upto_region 17 with (go_at_call 44;refine (CN.o _).mono ?_;rintro e w9 ⟨rfl,h9⟩;have h9:=h9.symm;subst h9)
          have hlb:Su.Bytes (qg X hh):=yu hhs.2
          have hll:(qg X hh).length≤100000:=by have:=ju (n:=X.size) (by omega);simp [qg,hhs.1,ze];omega
          refine uu b1 b16 X (hA hh) (.slice sa sib.length sc) bt (n:Int) (p:Int) (fun _ W=>G w8 W) (fun r' W=>G w8 W∧Su.Owns W 0 (r' 1) (qg X hh)) (fun r' W=>G w8 W∧∃ T,Tx W w8.heap.size (r' 2) T 22∧S T=topH S X hh ⟨n,p,sib⟩∧Su.Bytes T∧T.length≤100000) (fun W=>G w8 W) _ w8 rfl rfl rfl rfl rfl rfl rfl HHs.o.1 (hb0:=fun _ _ q=>q) (hb1:=fun _ _ q=>q.1) (hc1:=?zc1) (hc2:=?zc2) (hl0:=fun W q=>Lies.of_heap ((q.block b1 (ga H8.o.1.v3).1).trans H8.o.1.v3)) (hl2:=fun W q=>Lies.of_heap ((q.block b16 (ga H8.o.2.1).1).trans H8.o.2.1)) (hst0:=fun _=>G.drew _) (hQ:=?zc3)
          case zc1=>
           intro r' W q
           refine (xk X hh W hhs.1 (by omega)).mono ?_
           rintro e W2 ⟨u,rfl,q1,q2⟩
           exact ⟨u,rfl,q.trans q2,by rw [jA];exact q1.mono (Nat.zero_le _)⟩
          case zc2=>
           rintro r' W ⟨q1,q2⟩
           refine (CP.o W 0 (r' 1) (qg X hh) n p (.slice sa sib.length sc) sib q2 hlb hll l2 hpn (H8.o.2.2.up q1) hsok HSL.o).mono ?_
           rintro e W2 ⟨u,T,rfl,p1,p2,p3,p4,p5⟩
           exact ⟨u,rfl,q1.trans p2,T,by rw [jA];exact p1.mono q1.size,p3,p4,p5⟩
          case zc3=>
           rintro r' w9 ⟨q9,T,t1,t2,t3,t4⟩
           rw [mP]
           generalize r' 1=u1
           generalize r' 2=u2 at t1
           obtain ⟨g2,m2,c2,a2',k2,hue,hm2,_,_⟩:=t1.last
           subst hue
           have h9:=H8.o.1.up q9
           obtain ⟨v10,w10,a1,a2,a5,a3,a4⟩:=h9.tx.appL2 31 t1 (fun b hb=>H8.o.1.tx.lt b hb) h9.kp.size (by omega) (by omega)
           have HAP:=hid a1
           have H10:=hid (h9.grow a2.e a3 a4)
           obtain ⟨va,vn,vc,hve⟩:=a2.e.form
           obtain ⟨g3,m3,c3,a3',k3,hue3,hm3,hcell,hown⟩:=a5.last
           injection hue3 with e1 e2 e3
           injection e1 with e1
           injection e1 with e1 _
           have e2':m3=m2:=by omega
           subst e1 e2' e3
           have hST:=hS T
           rw [t2] at hST
           have HX10:Hid ((hA (S T)).size=32∧(hA (S T)).all (·.oneCell')=true):=by rw [t2];exact ⟨jG hST.1,jn _⟩
           clear a1 a2 a3 a4 a5 h9 t1
           go_simp
           go_upto_region 19 with ((with_reducible refine jT 102 v10 w10 ?_ ?_ ?_ ?_);rfl;kernel_rfl;exact qc rfl rfl rfl HAP.o;subst hve)
           refine vF b1 _ m3 _ (.slice a3' T.length k3) bt (hA (S T)) w10.heap.size (fun _ W'=>G w10 W') (fun r' W'=>G w10 W'∧r' 1=.agg (hA (S T))) (fun r' W'=>∃ b,r' 9=.pointer (some ⟨b,0,none⟩)∧w10.heap.size≤b∧W'.heap[b]?=some (.cells (hA (S T)) 22 (0,0))∧G w10 W') (fun W'=>G w10 W') _ w10 rfl rfl rfl ⟨_,_,_,rfl⟩ (kF m3 (by omega)) (by omega) hz32 HX10.o (hb0:=fun _ _ q=>q) (hb1:=fun _ _ q=>q.1) (hk0:=fun _ _ q=>q.trans (G.alloc _ _)) (hk1:=?zk1) (hlo:=fun _ q=>q.size) (hc1:=?zd1) (hw2:=?zd2) (hl0:=fun W' q=>Lies.of_heap ((q.block b1 (ga H10.o.v3).1).trans H10.o.v3)) (hl6:=fun W' q=>q.cell hcell) (hst0:=fun _=>G.drew _) (hQ:=?zd3)
           case zk1=>exact fun r' W' q=>⟨q.1.trans (G.alloc _ _),by rw [qr _ _ (by decide)];exact q.2⟩
           case zd1=>
            intro r' W' q
            refine (CO.o W' _ T ((hown.has).below q) t3 t4).mono ?_
            rintro e W2 ⟨rfl,q2⟩
            exact ⟨_,rfl,⟨q.trans q2,by rw [jA]⟩,q2⟩
           case zd2=>
            rintro r' W' b ⟨q,e1⟩ e2 e3 e4
            exact ⟨e1,b,e2,e4,setRow_heap _ _ _ _ _ _ e3,q.setRow _ e4⟩
           case zd3=>
            rintro r' w11 ⟨b19,e1,e2,e3,e4⟩
            rw [mQ,e1]
            generalize r' 1=u1'
            have H11:=hid (H10.o.up e4)
            rw [t2] at e3 HX10
            have HB19:=hid e3
            have hGI:=HGI.o
            generalize topH S X hh ⟨n,p,sib⟩=tp at *
            have htop:=H11.o.top
            have HTOP:Hid ((hA top).size=32):=jG htop.1
            clear e3 e4 e1 hcell hown t2
            have hWalk:RES=zm S l name md n k m ((p:Int)+1) (tN+1,tp,sD)→¬ (0<tN∧tp≠top)→True:=fun _ _=>trivial
            clear hWalk
            by_cases ht0:0<tN
            ·have ht0I:(0:Int)<tN:=by omega
             by_cases htt:tp=top
             ·subst htt
              have hRS:RES=zm S l name md n k m ((p:Int)+1) (tN+1,tp,sD):=by rw [← HRE.o,hGI,if_neg (by simp)];rfl
              have HRS2:=hid hRS
              clear hGI hRS
              go_wp2_with (first
               | ((with_reducible refine jE 114 22 (.tmp 19) b19 0 (hA tp) _ ?_ ?_ ?_ ?_ ?_ Tryz.underlying22 ?_ ?_ ?_);rfl;rfl;kernel_rfl;rfl;exact Lies.of_heap HB19.o;rfl;exact (by rw [jK,HX10.o.1]))
               | ((with_reducible refine jE 115 22 (.tmp 12) b2 0 (hA tp) _ ?_ ?_ ?_ ?_ ?_ Tryz.underlying22 ?_ ?_ ?_);rfl;rfl;kernel_rfl;rfl;exact Lies.of_heap H11.o.v12;rfl;exact (by rw [jK,HX10.o.1]))
               | ((with_reducible refine jT 116 (.bool false) w11 ?_ ?_ ?_ ?_);rfl;kernel_rfl;exact yT _ _ rfl (hA tp) (hA tp) rfl rfl tp tp rfl rfl hST.1 hST.1 false (by simp) _)
               | ((with_reducible refine jE 118 22 (.tmp 19) b19 0 (hA tp) _ ?_ ?_ ?_ ?_ ?_ Tryz.underlying22 ?_ ?_ ?_);rfl;rfl;kernel_rfl;rfl;exact Lies.of_heap HB19.o;rfl;exact (by rw [jK,HX10.o.1]))
               | ((with_reducible refine qo 22 (.tmp 12) (.tmp 118) b2 (hA tp) (hA tp) ?_ ?_ ?_ ?_ ?_ ?_ ?_ ?_ ?_ ?_);rfl;rfl;kernel_rfl;rfl;rfl;exact H11.o.v12;exact (by rw [jK,HX10.o.1]);exact rfl;exact HX10.o.2;intro w12 k12 v12 s12;have H12:=hid (H11.o.set hST k12 v12);clear k12 v12 s12))
              go_roundw
              case rel=>exact ⟨m,(p:Int)+1,tN+1,tp,sD,by go_num,by go_num,by omega,by omega,by omega,⟨_,_,_,rfl⟩,⟨H12.o.rf,H12.o.v3,H12.o.v12,H12.o.tx.le (by omega),H12.o.kp,H12.o.lo,H12.o.top⟩,HRS2.o.symm⟩
              case measure=>first | (simp [iZ];done) | (simp [iZ];omega)
             ·have hn:RES=none:=by rw [← HRE.o,hGI,if_pos ⟨ht0,htt⟩];rfl
              clear hGI
              go_wp2_with (first
               | ((with_reducible refine jE 114 22 (.tmp 19) b19 0 (hA tp) _ ?_ ?_ ?_ ?_ ?_ Tryz.underlying22 ?_ ?_ ?_);rfl;rfl;kernel_rfl;rfl;exact Lies.of_heap HB19.o;rfl;exact (by rw [jK,HX10.o.1]))
               | ((with_reducible refine jE 115 22 (.tmp 12) b2 0 (hA top) _ ?_ ?_ ?_ ?_ ?_ Tryz.underlying22 ?_ ?_ ?_);rfl;rfl;kernel_rfl;rfl;exact Lies.of_heap H11.o.v12;rfl;exact (by rw [jK,HTOP.o]))
               | ((with_reducible refine jT 116 (.bool true) w11 ?_ ?_ ?_ ?_);rfl;kernel_rfl;exact yT _ _ rfl (hA tp) (hA top) rfl rfl tp top rfl rfl hST.1 htop.1 true (by simp [htt]) _))
              go_ret2
              exact ⟨H11.o.kp,_,sD,H11.o.rf,.inl ⟨(by first | exact hn | rfl),rfl⟩⟩
            ·have ht0I:¬ (0:Int)<tN:=by omega
             have hRS:RES=zm S l name md n k m ((p:Int)+1) (tN+1,tp,sD):=by rw [← HRE.o,hGI,if_neg (by rintro ⟨h,_⟩;exact ht0 h)];rfl
             have HRS2:=hid hRS
             clear hGI hRS
             go_wp2_with (first
              | ((with_reducible refine jE 118 22 (.tmp 19) b19 0 (hA tp) _ ?_ ?_ ?_ ?_ ?_ Tryz.underlying22 ?_ ?_ ?_);rfl;rfl;kernel_rfl;rfl;exact Lies.of_heap HB19.o;rfl;exact (by rw [jK,HX10.o.1]))
              | ((with_reducible refine qo 22 (.tmp 12) (.tmp 118) b2 (hA tp) (hA top) ?_ ?_ ?_ ?_ ?_ ?_ ?_ ?_ ?_ ?_);rfl;rfl;kernel_rfl;rfl;rfl;exact H11.o.v12;exact (by rw [jK,HX10.o.1]);exact (by rw [HTOP.o,HX10.o.1]);exact HX10.o.2;intro w12 k12 v12 s12;have H12:=hid (H11.o.set hST k12 v12);clear k12 v12 s12))
             go_roundw
             case rel=>exact ⟨m,(p:Int)+1,tN+1,tp,sD,by go_num,by go_num,by omega,by omega,by omega,⟨_,_,_,rfl⟩,⟨H12.o.rf,H12.o.v3,H12.o.v12,H12.o.tx.le (by omega),H12.o.kp,H12.o.lo,H12.o.top⟩,HRS2.o.symm⟩
             case measure=>first | (simp [iZ];done) | (simp [iZ];omega)
        ·have hdk:decide ((p:Int)<k)=false:=by simpa using hpk
         have hpe:p=k:=by omega
         subst hpe
         by_cases hcmp:gtS X name=false
         ·have hn:RES=none:=by rw [← HRE.o];unfold gapI;rw [if_neg (by omega)];simp only [Int.toNat_natCast,hdk];rw [hside,if_pos (.inr (.inr (by simpa using hcmp)))];rfl
          clear hside
          have hor:(Op.bytesLess X.toList name.toList||X.toList==name.toList)=true:=by
           have h:=hcmp
           unfold gtS at h
           cases hq:(Op.bytesLess X.toList name.toList||X.toList==name.toList) with
           | true=>rfl
           | false=>rw [hq] at h;cases h
          cases hbl:Op.bytesLess X.toList name.toList with
          | true=>
           go_wp2_with (go_at_call 44;refine (CN.o _).mono ?_;rintro e w9 ⟨rfl,h9⟩;have h9:=h9.symm;subst h9)
           go_ret2
           exact ⟨H8.o.1.kp,_,sD,H8.o.1.rf,.inl ⟨hn,rfl⟩⟩
          | false=>
           rw [hbl,Bool.false_or] at hor
           have heq:X.toList=name.toList:=by simpa using hor
           go_wp2_with (go_at_call 44;refine (CN.o _).mono ?_;rintro e w9 ⟨rfl,h9⟩;have h9:=h9.symm;subst h9)
           go_ret2
           exact ⟨H8.o.1.kp,_,sD,H8.o.1.rf,.inl ⟨hn,rfl⟩⟩
         ·have hcmp2:gtS X name=true:=by simpa using hcmp
          have HGI:Hid (gapI S l name n p (p:Int) (tN,top,s')=if 0<tN∧topH S X hh ⟨n,p,sib⟩≠top then none else some (tN+1,topH S X hh ⟨n,p,sib⟩,sD)):=hid (by unfold gapI;rw [if_neg (by omega)];simp only [Int.toNat_natCast,hdk];rw [hside,if_neg (by rintro (h | h | h);exact hfe h;cases h;exact hcmp (by simpa using h))];rfl)
          clear hside
          have hor:(Op.bytesLess X.toList name.toList||X.toList==name.toList)=false:=by
           have h:=hcmp2
           unfold gtS at h
           cases hq:(Op.bytesLess X.toList name.toList||X.toList==name.toList) with
           | false=>rfl
           | true=>rw [hq] at h;cases h
          rw [Bool.or_eq_false_iff] at hor
          have hbl:=hor.1
          have heq:=hor.2
          have heq2:¬ X.toList=name.toList:=by simpa using hor.2
          go_upto_region 17 with (go_at_call 44;refine (CN.o _).mono ?_;rintro e w9 ⟨rfl,h9⟩;have h9:=h9.symm;subst h9)
          have hlb:Su.Bytes (qg X hh):=yu hhs.2
          have hll:(qg X hh).length≤100000:=by have:=ju (n:=X.size) (by omega);simp [qg,hhs.1,ze];omega
          refine uu b1 b16 X (hA hh) (.slice sa sib.length sc) bt (n:Int) (p:Int) (fun _ W=>G w8 W) (fun r' W=>G w8 W∧Su.Owns W 0 (r' 1) (qg X hh)) (fun r' W=>G w8 W∧∃ T,Tx W w8.heap.size (r' 2) T 22∧S T=topH S X hh ⟨n,p,sib⟩∧Su.Bytes T∧T.length≤100000) (fun W=>G w8 W) _ w8 rfl rfl rfl rfl rfl rfl rfl HHs.o.1 (hb0:=fun _ _ q=>q) (hb1:=fun _ _ q=>q.1) (hc1:=?yc1) (hc2:=?yc2) (hl0:=fun W q=>Lies.of_heap ((q.block b1 (ga H8.o.1.v3).1).trans H8.o.1.v3)) (hl2:=fun W q=>Lies.of_heap ((q.block b16 (ga H8.o.2.1).1).trans H8.o.2.1)) (hst0:=fun _=>G.drew _) (hQ:=?yc3)
          case yc1=>
           intro r' W q
           refine (xk X hh W hhs.1 (by omega)).mono ?_
           rintro e W2 ⟨u,rfl,q1,q2⟩
           exact ⟨u,rfl,q.trans q2,by rw [jA];exact q1.mono (Nat.zero_le _)⟩
          case yc2=>
           rintro r' W ⟨q1,q2⟩
           refine (CP.o W 0 (r' 1) (qg X hh) n p (.slice sa sib.length sc) sib q2 hlb hll l2 hpn (H8.o.2.2.up q1) hsok HSL.o).mono ?_
           rintro e W2 ⟨u,T,rfl,p1,p2,p3,p4,p5⟩
           exact ⟨u,rfl,q1.trans p2,T,by rw [jA];exact p1.mono q1.size,p3,p4,p5⟩
          case yc3=>
           rintro r' w9 ⟨q9,T,t1,t2,t3,t4⟩
           rw [mP]
           generalize r' 1=u1
           generalize r' 2=u2 at t1
           obtain ⟨g2,m2,c2,a2',k2,hue,hm2,_,_⟩:=t1.last
           subst hue
           have h9:=H8.o.1.up q9
           obtain ⟨v10,w10,a1,a2,a5,a3,a4⟩:=h9.tx.appL2 31 t1 (fun b hb=>H8.o.1.tx.lt b hb) h9.kp.size (by omega) (by omega)
           have HAP:=hid a1
           have H10:=hid (h9.grow a2.e a3 a4)
           obtain ⟨va,vn,vc,hve⟩:=a2.e.form
           obtain ⟨g3,m3,c3,a3',k3,hue3,hm3,hcell,hown⟩:=a5.last
           injection hue3 with e1 e2 e3
           injection e1 with e1
           injection e1 with e1 _
           have e2':m3=m2:=by omega
           subst e1 e2' e3
           have hST:=hS T
           rw [t2] at hST
           have HX10:Hid ((hA (S T)).size=32∧(hA (S T)).all (·.oneCell')=true):=by rw [t2];exact ⟨jG hST.1,jn _⟩
           clear a1 a2 a3 a4 a5 h9 t1
           go_simp
           go_upto_region 19 with ((with_reducible refine jT 102 v10 w10 ?_ ?_ ?_ ?_);rfl;kernel_rfl;exact qc rfl rfl rfl HAP.o;subst hve)
           refine vF b1 _ m3 _ (.slice a3' T.length k3) bt (hA (S T)) w10.heap.size (fun _ W'=>G w10 W') (fun r' W'=>G w10 W'∧r' 1=.agg (hA (S T))) (fun r' W'=>∃ b,r' 9=.pointer (some ⟨b,0,none⟩)∧w10.heap.size≤b∧W'.heap[b]?=some (.cells (hA (S T)) 22 (0,0))∧G w10 W') (fun W'=>G w10 W') _ w10 rfl rfl rfl ⟨_,_,_,rfl⟩ (kF m3 (by omega)) (by omega) hz32 HX10.o (hb0:=fun _ _ q=>q) (hb1:=fun _ _ q=>q.1) (hk0:=fun _ _ q=>q.trans (G.alloc _ _)) (hk1:=?yk1) (hlo:=fun _ q=>q.size) (hc1:=?yd1) (hw2:=?yd2) (hl0:=fun W' q=>Lies.of_heap ((q.block b1 (ga H10.o.v3).1).trans H10.o.v3)) (hl6:=fun W' q=>q.cell hcell) (hst0:=fun _=>G.drew _) (hQ:=?yd3)
           case yk1=>exact fun r' W' q=>⟨q.1.trans (G.alloc _ _),by rw [qr _ _ (by decide)];exact q.2⟩
           case yd1=>
            intro r' W' q
            refine (CO.o W' _ T ((hown.has).below q) t3 t4).mono ?_
            rintro e W2 ⟨rfl,q2⟩
            exact ⟨_,rfl,⟨q.trans q2,by rw [jA]⟩,q2⟩
           case yd2=>
            rintro r' W' b ⟨q,e1⟩ e2 e3 e4
            exact ⟨e1,b,e2,e4,setRow_heap _ _ _ _ _ _ e3,q.setRow _ e4⟩
           case yd3=>
            rintro r' w11 ⟨b19,e1,e2,e3,e4⟩
            rw [mQ,e1]
            generalize r' 1=u1'
            have H11:=hid (H10.o.up e4)
            rw [t2] at e3 HX10
            have HB19:=hid e3
            have hGI:=HGI.o
            generalize topH S X hh ⟨n,p,sib⟩=tp at *
            have htop:=H11.o.top
            have HTOP:Hid ((hA top).size=32):=jG htop.1
            clear e3 e4 e1 hcell hown t2
            have hWalk:RES=zm S l name md n p m ((p:Int)+1) (tN+1,tp,sD)→¬ (0<tN∧tp≠top)→True:=fun _ _=>trivial
            clear hWalk
            by_cases ht0:0<tN
            ·have ht0I:(0:Int)<tN:=by omega
             by_cases htt:tp=top
             ·subst htt
              have hRS:RES=zm S l name md n p m ((p:Int)+1) (tN+1,tp,sD):=by rw [← HRE.o,hGI,if_neg (by simp)];rfl
              have HRS2:=hid hRS
              clear hGI hRS
              go_wp2_with (first
               | ((with_reducible refine jE 114 22 (.tmp 19) b19 0 (hA tp) _ ?_ ?_ ?_ ?_ ?_ Tryz.underlying22 ?_ ?_ ?_);rfl;rfl;kernel_rfl;rfl;exact Lies.of_heap HB19.o;rfl;exact (by rw [jK,HX10.o.1]))
               | ((with_reducible refine jE 115 22 (.tmp 12) b2 0 (hA tp) _ ?_ ?_ ?_ ?_ ?_ Tryz.underlying22 ?_ ?_ ?_);rfl;rfl;kernel_rfl;rfl;exact Lies.of_heap H11.o.v12;rfl;exact (by rw [jK,HX10.o.1]))
               | ((with_reducible refine jT 116 (.bool false) w11 ?_ ?_ ?_ ?_);rfl;kernel_rfl;exact yT _ _ rfl (hA tp) (hA tp) rfl rfl tp tp rfl rfl hST.1 hST.1 false (by simp) _)
               | ((with_reducible refine jE 118 22 (.tmp 19) b19 0 (hA tp) _ ?_ ?_ ?_ ?_ ?_ Tryz.underlying22 ?_ ?_ ?_);rfl;rfl;kernel_rfl;rfl;exact Lies.of_heap HB19.o;rfl;exact (by rw [jK,HX10.o.1]))
               | ((with_reducible refine qo 22 (.tmp 12) (.tmp 118) b2 (hA tp) (hA tp) ?_ ?_ ?_ ?_ ?_ ?_ ?_ ?_ ?_ ?_);rfl;rfl;kernel_rfl;rfl;rfl;exact H11.o.v12;exact (by rw [jK,HX10.o.1]);exact rfl;exact HX10.o.2;intro w12 k12 v12 s12;have H12:=hid (H11.o.set hST k12 v12);clear k12 v12 s12))
              go_roundw
              case rel=>exact ⟨m,(p:Int)+1,tN+1,tp,sD,by go_num,by go_num,by omega,by omega,by omega,⟨_,_,_,rfl⟩,⟨H12.o.rf,H12.o.v3,H12.o.v12,H12.o.tx.le (by omega),H12.o.kp,H12.o.lo,H12.o.top⟩,HRS2.o.symm⟩
              case measure=>first | (simp [iZ];done) | (simp [iZ];omega)
             ·have hn:RES=none:=by rw [← HRE.o,hGI,if_pos ⟨ht0,htt⟩];rfl
              clear hGI
              go_wp2_with (first
               | ((with_reducible refine jE 114 22 (.tmp 19) b19 0 (hA tp) _ ?_ ?_ ?_ ?_ ?_ Tryz.underlying22 ?_ ?_ ?_);rfl;rfl;kernel_rfl;rfl;exact Lies.of_heap HB19.o;rfl;exact (by rw [jK,HX10.o.1]))
               | ((with_reducible refine jE 115 22 (.tmp 12) b2 0 (hA top) _ ?_ ?_ ?_ ?_ ?_ Tryz.underlying22 ?_ ?_ ?_);rfl;rfl;kernel_rfl;rfl;exact Lies.of_heap H11.o.v12;rfl;exact (by rw [jK,HTOP.o]))
               | ((with_reducible refine jT 116 (.bool true) w11 ?_ ?_ ?_ ?_);rfl;kernel_rfl;exact yT _ _ rfl (hA tp) (hA top) rfl rfl tp top rfl rfl hST.1 htop.1 true (by simp [htt]) _))
              go_ret2
              exact ⟨H11.o.kp,_,sD,H11.o.rf,.inl ⟨(by first | exact hn | rfl),rfl⟩⟩
            ·have ht0I:¬ (0:Int)<tN:=by omega
             have hRS:RES=zm S l name md n p m ((p:Int)+1) (tN+1,tp,sD):=by rw [← HRE.o,hGI,if_neg (by rintro ⟨h,_⟩;exact ht0 h)];rfl
             have HRS2:=hid hRS
             clear hGI hRS
             go_wp2_with (first
              | ((with_reducible refine jE 118 22 (.tmp 19) b19 0 (hA tp) _ ?_ ?_ ?_ ?_ ?_ Tryz.underlying22 ?_ ?_ ?_);rfl;rfl;kernel_rfl;rfl;exact Lies.of_heap HB19.o;rfl;exact (by rw [jK,HX10.o.1]))
              | ((with_reducible refine qo 22 (.tmp 12) (.tmp 118) b2 (hA tp) (hA top) ?_ ?_ ?_ ?_ ?_ ?_ ?_ ?_ ?_ ?_);rfl;rfl;kernel_rfl;rfl;rfl;exact H11.o.v12;exact (by rw [jK,HX10.o.1]);exact (by rw [HTOP.o,HX10.o.1]);exact HX10.o.2;intro w12 k12 v12 s12;have H12:=hid (H11.o.set hST k12 v12);clear k12 v12 s12))
             go_roundw
             case rel=>exact ⟨m,(p:Int)+1,tN+1,tp,sD,by go_num,by go_num,by omega,by omega,by omega,⟨_,_,_,rfl⟩,⟨H12.o.rf,H12.o.v3,H12.o.v12,H12.o.tx.le (by omega),H12.o.kp,H12.o.lo,H12.o.top⟩,HRS2.o.symm⟩
             case measure=>first | (simp [iZ];done) | (simp [iZ];omega)
end Go.Proofs.YtdeanahpiigonaaGreatDoor
