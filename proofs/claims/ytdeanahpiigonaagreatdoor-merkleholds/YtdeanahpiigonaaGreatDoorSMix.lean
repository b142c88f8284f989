import Derived.Test.YtdeanahpiigonaaGreatDoorSSpread
set_option maxRecDepth 100000
set_option maxHeartbeats 2000000
namespace Go.Proofs.YtdeanahpiigonaaGreatDoor.Su
open Go.RowKit
def jZ (v:Sha.V):List Nat:=[v.a,v.b,v.c,v.d,v.e,v.f,v.g,v.h]
def vok (v:Sha.V):Prop:=v.a<4294967296∧v.b<4294967296∧v.c<4294967296∧v.d<4294967296∧v.e<4294967296∧v.f<4294967296∧v.g<4294967296∧v.h<4294967296
def vagg (v:Sha.V):Array Value:=((jZ v).map vw).toArray
structure MxW (w wr:World) (u:Sha.V) (ws:List Nat) (D:Nat):Prop where
 arg:wr.heap[w.heap.size]?=some (.cells (vagg u) 195 (0,0))
 out:∃ c,wr.heap[w.heap.size+2]?=some (.cells c 195 (0,0))∧c.size=8
 row:wr.heap[D]?=some (.cells (ws.map vw).toArray 214 (0,0))
 below:Below w.heap.size w wr
theorem MxW.drewN {w wr:World} {u:Sha.V} {ws:List Nat} {D:Nat} (h:MxW w wr u ws D) (n:Nat):MxW w (wr.drewN n) u ws D:=
 ⟨h.arg,h.out,h.row,h.below.trans ⟨rfl,rfl,rfl,Nat.le_refl _,fun _ _=>rfl⟩⟩
theorem qY {P:Program} {c:Code} {Q:Exit→Act→World→Prop} {a:Act} {W:World} (I:World→Prop) (h:I W) (k:∀ wr,I wr→Code.wp P c Q a wr):Code.wp P c Q a W:=k W h
theorem MxW.start (w w1:World) (u:Sha.V) (vc c z:Array Value) (ws:List Nat) (hb:Below (((w.alloc (.cells (vagg u) 195)).alloc (.cells vc 197)).alloc (.cells #[.int .u32 0,.int .u32 0,.int .u32 0,.int .u32 0,.int .u32 0,.int .u32 0,.int .u32 0,.int .u32 0] 195)).heap.size (((w.alloc (.cells (vagg u) 195)).alloc (.cells vc 197)).alloc (.cells #[.int .u32 0,.int .u32 0,.int .u32 0,.int .u32 0,.int .u32 0,.int .u32 0,.int .u32 0,.int .u32 0] 195)) w1) (hc:c=(ws.map vw).toArray):
  MxW w ((w1.alloc (.cells z 214)).setRow w1.heap.size c) u ws w1.heap.size:=by
 have hsz:w.heap.size+3≤w1.heap.size:=by have:=hb.size;simpa using this
 rw [World.setRow_alloc_new]
 refine ⟨?_,⟨#[.int .u32 0,.int .u32 0,.int .u32 0,.int .u32 0,.int .u32 0,.int .u32 0,.int .u32 0,.int .u32 0],?_,rfl⟩,?_,?_⟩
 ·rw [heap_alloc_old _ _ (by omega),hb.block _ (by simp;omega),heap_alloc_old _ _ (by simp;omega),heap_alloc_old _ _ (by simp),heap_alloc_new]
 ·rw [heap_alloc_old _ _ (by omega),hb.block _ (by simp),show w.heap.size+2=((w.alloc (.cells (vagg u) 195)).alloc (.cells vc 197)).heap.size by simp,heap_alloc_new]
 ·rw [heap_alloc_new,hc]
 ·exact (((((Below.refl _ w).alloc (Nat.le_refl _) _).alloc (by simp) _).alloc (by simp;omega) _).trans (hb.mono (by simp;omega))).alloc (by omega) _
theorem nh (b:List Nat):(Sha.sched b).length=64:=by unfold Sha.sched;rw [Sha.yN,Sha.ql]
theorem MxW.cell {w wr:World} {u:Sha.V} {ws:List Nat} {D:Nat} (h:MxW w wr u ws D) (i x:Nat) (hx:(jZ u)[i]?=some x):wr.cell? ⟨w.heap.size,i,none⟩=some (.int .u32 (x:Int)):=by
 rw [cell_of_row wr _ i _ _ _ h.arg]
 simp [vagg,hx,vw]
theorem MxW.word {w wr:World} {u:Sha.V} {ws:List Nat} {D:Nat} (h:MxW w wr u ws D) (i:Nat) (hx:i<ws.length):wr.cell? ⟨D,i,none⟩=some (.int .u32 ((ws.getD i 0:Nat):Int)):=by
 rw [cell_of_row wr _ i _ _ _ h.row]
 simp [List.getD,hx,vw]
theorem wI {x i j k:Nat} (hx:x<4294967296):Sha.tri x i j k<4294967296:=Nat.xor_lt_two_pow (n:=32) (Nat.xor_lt_two_pow (n:=32) (kr hx) (kr hx)) (kr hx)
theorem a0N {e f g:Nat} (he:e<4294967296) (hf:f<4294967296) (hg:g<4294967296):
  ∃ ef ne eg ch:Nat,bits .and .u32 (e:Int) (f:Int)=(ef:Int)∧bits .xor .u32 (if IntKind.u32.signed=true then -1 else IntKind.u32.max) (e:Int)=(ne:Int)∧bits .and .u32 (ne:Int) (g:Int)=(eg:Int)∧bits .xor .u32 (ef:Int) (eg:Int)=(ch:Int)∧ch<4294967296∧Hid (ch=(e &&& f) ^^^ ((4294967295-e) &&& g)):=by
 have h1:e &&& f<4294967296:=Nat.and_lt_two_pow (n:=32) _ hf
 have h2:(4294967295-e) &&& g<4294967296:=Nat.and_lt_two_pow (n:=32) _ hg
 refine ⟨e &&& f,4294967295-e,(4294967295-e) &&& g,_,u32_and_nat _ _ he hf,?_,u32_and_nat _ _ (by omega) hg,u32_xor_nat _ _ h1 h2,Nat.xor_lt_two_pow (n:=32) h1 h2,rfl⟩
 rw [show (if IntKind.u32.signed=true then -1 else IntKind.u32.max)=((4294967295:Nat):Int) from rfl,u32_xor_nat _ _ (by omega) he]
 congr 1
 have:e=e%2 ^ 32:=by rw [Nat.mod_eq_of_lt he]
 apply Nat.eq_of_testBit_eq
 intro i
 rw [show 4294967295-e=2 ^ 32-(e+1) by omega,Nat.testBit_two_pow_sub_succ he,Nat.testBit_xor,show 4294967295=2 ^ 32-1 from rfl,Nat.testBit_two_pow_sub_one]
 by_cases hi:i<32
 ·simp [hi]
 ·have:e.testBit i=false:=Nat.testBit_lt_two_pow (Nat.lt_of_lt_of_le he (Nat.pow_le_pow_right (n:=2) (by decide) (by omega:32≤i)))
  simp [hi,this]
theorem pr {a b c:Nat} (ha:a<4294967296) (hb:b<4294967296) (hc:c<4294967296):
  ∃ ab ac bc m1 mj:Nat,bits .and .u32 (a:Int) (b:Int)=(ab:Int)∧bits .and .u32 (a:Int) (c:Int)=(ac:Int)∧bits .and .u32 (b:Int) (c:Int)=(bc:Int)∧bits .xor .u32 (ab:Int) (ac:Int)=(m1:Int)∧bits .xor .u32 (m1:Int) (bc:Int)=(mj:Int)∧mj<4294967296∧Hid (mj=(a &&& b) ^^^ (a &&& c) ^^^ (b &&& c)):=by
 have h1:a &&& b<4294967296:=Nat.and_lt_two_pow (n:=32) _ hb
 have h2:a &&& c<4294967296:=Nat.and_lt_two_pow (n:=32) _ hc
 have h3:b &&& c<4294967296:=Nat.and_lt_two_pow (n:=32) _ hc
 have h4:(a &&& b) ^^^ (a &&& c)<4294967296:=Nat.xor_lt_two_pow (n:=32) h1 h2
 exact ⟨_,_,_,_,_,u32_and_nat _ _ ha hb,u32_and_nat _ _ ha hc,u32_and_nat _ _ hb hc,u32_xor_nat _ _ h1 h2,u32_xor_nat _ _ h4 h3,Nat.xor_lt_two_pow (n:=32) h4 h3,rfl⟩
theorem gQ (u0 u1 u2 u3 u4 u5 u6 u7 a b c d e f g h:Nat):
  #[Value.int .u32 (((u0:Int)+a)%4294967296),.int .u32 (((u1:Int)+b)%4294967296),.int .u32 (((u2:Int)+c)%4294967296),.int .u32 (((u3:Int)+d)%4294967296),.int .u32 (((u4:Int)+e)%4294967296),.int .u32 (((u5:Int)+f)%4294967296),.int .u32 (((u6:Int)+g)%4294967296),.int .u32 (((u7:Int)+h)%4294967296)]=vagg (Sha.plus ⟨u0,u1,u2,u3,u4,u5,u6,u7⟩ ⟨a,b,c,d,e,f,g,h⟩):=by
 simp [vagg,jZ,Sha.plus,vw]
theorem a2e (i:Nat):Sha.ks.getD i 0<4294967296:=by
 by_cases hi:i<64
 ·have h:∀ i,i<64→Sha.ks.getD i 0<4294967296:=by decide +kernel
  exact h i hi
 ·have:Sha.ks.length≤i:=by show 64≤i;omega
  simp [List.getD,List.getElem?_eq_none this]
theorem cq (u:Sha.V) (b:List Nat) (w:World) (hu:vok u) (hb:b.length=64) (hB:Bytes b) (hT:Tabs w):
  Calls Tryz.prog 99 #[.agg (vagg u),.agg (b.map vb).toArray] w fun e w'=>e=.returned (.agg (vagg (Sha.mix u b)))∧Below w.heap.size w w':=by
 have HU:Hid (vok u):=hu
 have HT:Hid (Tabs w):=hT
 obtain ⟨ws,hws⟩:∃ ws,ws=Sha.sched b:=⟨_,rfl⟩
 have hwl:Hid (ws.length=64):=by rw [hws];exact nh b
 have hwlt:Hid (∀ x∈ws,x<4294967296):=by rw [hws];exact gS hB
 have HE:Hid (Sha.mix u b=Sha.plus u (Sha.runF (fun n v=>Sha.rnd (Sha.ks.getD n 0) (ws.getD n 0) v) 64 u)):=by rw [hws];rfl
 have HC:Hid (∀ wz,Calls Tryz.prog 118 #[.agg (b.map vb).toArray] wz fun e w'=>e=.returned (.agg (ws.map vw).toArray)∧Below wz.heap.size wz w'):=fun wz=>by rw [hws];exact iW b wz hb hB
 clear hws
 obtain ⟨va,hva⟩:∃ va,va=vagg u:=⟨_,rfl⟩
 obtain ⟨vc,hvc⟩:∃ vc,vc=(b.map vb).toArray:=⟨_,rfl⟩
 obtain ⟨c,hc⟩:∃ c,c=(ws.map vw).toArray:=⟨_,rfl⟩
 rw [← hvc,← hc] at HC
 rw [← hva,← hvc]
 have hvs:Hid (va.size=8):=by show _=_;rw [hva];rfl
 have hcs:Hid ((Tryz.prog.info? 197).map (·.size)=some vc.size):=by show _=_;rw [hvc,show ((b.map vb).toArray).size=64 by simp [hb]];kernel_rfl
 have hss:Hid ((Tryz.prog.info? 214).map (·.size)=some c.size∧64=c.size∧c.all (·.oneCell')=true):=by
  have e:c.size=64:=by rw [hc];simpa using hwl.out
  refine ⟨?_,e.symm,?_⟩
  ·rw [e];kernel_rfl
  ·rw [hc];exact cC ws
 have HVA:Hid (va=vagg u):=hva
 have HCW:Hid (c=(ws.map vw).toArray):=hc
 clear hu hb hB hT hva hvc hc
 go_enter Tryz.func99,Tryz.ntmps99
 go_wp2_with (first | refine wpList_load_row rfl 197 (.tmp 3) rfl (w.heap.size+1) rfl 197 vc (0,0) (.array 64 5) (by rw [heap_alloc_old _ _ (by simp),show w.heap.size+1=(w.alloc (.cells va 195)).heap.size by simp,heap_alloc_new]) Tryz.underlying197 rfl hcs.out ?_ | (go_at_call 118;refine (HC.out _).mono ?_;rintro e w1 ⟨rfl,hb1⟩;have HB1:Hid (Below _ _ w1):=hb1;clear hb1) | refine wpList_store_row rfl 214 (.tmp 5) (.tmp 18) rfl _ c rfl rfl 214 _ (heap_alloc_new _ _) hss.out.1 hss.out.2.1 hss.out.2.2 ?_)
 refine qY (fun wr=>MxW w wr u ws w1.heap.size) (MxW.start w w1 u vc c _ ws (by rw [← HVA.out];exact HB1.out) HCW.out) fun wr HM=>?_
 have hD:Hid (w1.heap.size=w1.heap.size):=rfl
 obtain ⟨D,hDe⟩:∃ D,D=w1.heap.size:=⟨_,rfl⟩
 rw [← hDe] at HM ⊢
 clear hD hDe HB1
 obtain ⟨u0,u1,u2,u3,u4,u5,u6,u7⟩:=u
 have k0:=HM.cell 0 u0 rfl
 have k1:=HM.cell 1 u1 rfl
 have k2:=HM.cell 2 u2 rfl
 have k3:=HM.cell 3 u3 rfl
 have k4:=HM.cell 4 u4 rfl
 have k5:=HM.cell 5 u5 rfl
 have k6:=HM.cell 6 u6 rfl
 have k7:=HM.cell 7 u7 rfl
 go_quiet (fail)
 go_wp2
 refine qY (fun wr=>MxW w wr ⟨u0,u1,u2,u3,u4,u5,u6,u7⟩ ws D) (HM.drewN _) fun wr2 HM2=>?_
 clear HM k0 k1 k2 k3 k4 k5 k6 k7
 obtain ⟨u,hue⟩:∃ u:Sha.V,u=⟨u0,u1,u2,u3,u4,u5,u6,u7⟩:=⟨_,rfl⟩
 have HUE:Hid (u=⟨u0,u1,u2,u3,u4,u5,u6,u7⟩):=hue
 rw [← hue] at HM2
 clear hue hvs hcs hss HCW HC HVA
 go_loopw [6,7,8,9,10,11,12,13,35] (fun va vb' vc' vd ve vf vg vh i wr=>∃ (k a b c d e f g h:Nat),k≤64∧i=.int .i64 k∧va=.int .u32 a∧vb'=.int .u32 b∧vc'=.int .u32 c∧vd=.int .u32 d∧ve=.int .u32 e∧vf=.int .u32 f∧vg=.int .u32 g∧vh=.int .u32 h∧Hid (⟨a,b,c,d,e,f,g,h⟩=Sha.runF (fun n v=>Sha.rnd (Sha.ks.getD n 0) (ws.getD n 0) v) k u)∧Hid (vok ⟨a,b,c,d,e,f,g,h⟩)∧MxW w wr u ws D) (fun _ _ _ _ _ _ _ _ i _=>64-(intOf i).toNat)
 case atStart=>exact ⟨0,u0,u1,u2,u3,u4,u5,u6,u7,by omega,rfl,rfl,rfl,rfl,rfl,rfl,rfl,rfl,rfl,HUE.out.symm,HU.out,HM2⟩
 case round=>
  clear HM2
  obtain ⟨k,a,b,c,d,e,f,g,y8,hk,rfl,rfl,rfl,rfl,rfl,rfl,rfl,rfl,rfl,HR,HK,HM⟩:=hrel
  by_cases hlt:k<64
  ·have hkI:(k:Int)<64:=by omega
   obtain ⟨la,lb,lc,ld,le,lf,lg,lh⟩:=HK.out
   simp only at la lb lc ld le lf lg lh
   obtain ⟨ef,ne,eg,ch,h1,h2,h3,h4,h5,H6⟩:=a0N le lf lg
   obtain ⟨ab,ac,bc,m1,mj,j1,j2,j3,j4,j5,j6,J7⟩:=pr la lb lc
   obtain ⟨t1,T1,tl1⟩:∃ t1,Hid (t1=Sha.tri e 6 11 25)∧t1<4294967296:=⟨_,rfl,wI le⟩
   obtain ⟨t2,T2,tl2⟩:∃ t2,Hid (t2=Sha.tri a 2 13 22)∧t2<4294967296:=⟨_,rfl,wI la⟩
   obtain ⟨kk,KK,kl,kc⟩:∃ kk,Hid (kk=Sha.ks.getD k 0)∧kk<4294967296∧wr.cell? ⟨1,k,none⟩=some (.int .u32 (kk:Int)):=⟨_,rfl,a2e k,(HT.out.up HM.below).round k hlt⟩
   obtain ⟨wt,WT,wl,wc⟩:∃ wt,Hid (wt=ws.getD k 0)∧wt<4294967296∧wr.cell? ⟨D,k,none⟩=some (.int .u32 (wt:Int)):=⟨_,rfl,hwlt.out _ (by simp [List.getD,gl (show k<ws.length by rw [hwl.out];omega)]),HM.word k (by rw [hwl.out];omega)⟩
   have C1:Hid (∀ wz,Calls Tryz.prog 119 #[.int .u32 (e:Int),.int .i64 6,.int .i64 11,.int .i64 25] wz fun e w'=>e=.returned (.int .u32 (t1:Int))∧w'=wz):=fun wz=>by rw [T1.out];exact cA e 6 11 25 wz le (by decide) (by decide) (by decide) (by decide) (by decide) (by decide)
   have C2:Hid (∀ wz,Calls Tryz.prog 119 #[.int .u32 (a:Int),.int .i64 2,.int .i64 13,.int .i64 22] wz fun e w'=>e=.returned (.int .u32 (t2:Int))∧w'=wz):=fun wz=>by rw [T2.out];exact cA a 2 13 22 wz la (by decide) (by decide) (by decide) (by decide) (by decide) (by decide)
   have HX:Hid (∃ x y:Nat,Sha.rnd (Sha.ks.getD k 0) (ws.getD k 0) ⟨a,b,c,d,e,f,g,y8⟩=⟨(x+y)%4294967296,a,b,c,(d+x)%4294967296,e,f,g⟩∧x=(y8+t1+ch+kk+wt)%4294967296∧y=(t2+mj)%4294967296):=by
    refine ⟨_,_,rfl,?_,?_⟩
    ·unfold Sha.xOf;rw [T1.out,H6.out,KK.out,WT.out]
    ·unfold Sha.yOf;rw [T2.out,J7.out]
   clear T1 T2 KK WT H6 J7 HK
   go_wp2
   go_quiet ((go_at_call 119;exact Calls.quiet_of_same (C1.out _)))
   go_wp2_with (go_at_call 119;refine (C2.out _).mono ?_;rintro e w1 ⟨rfl,rfl⟩)
   go_roundw
   case rel=>
    obtain ⟨x,y,hr,hx,hy⟩:=HX.out
    refine ⟨k+1,(x+y)%4294967296,a,b,c,(d+x)%4294967296,e,f,g,by omega,by go_num,?_,rfl,rfl,rfl,?_,rfl,rfl,rfl,?_,⟨Nat.mod_lt _ (by decide),la,lb,lc,Nat.mod_lt _ (by decide),le,lf,lg⟩,HM.drewN _⟩
    ·rw [hx,hy];congr 1
    ·rw [hx];congr 1
    ·show _=_
     rw [Sha.nz,← HR.out];exact hr.symm
   case measure=>simp [intOf];omega
  ·have hkI:¬ (k:Int)<64:=by omega
   obtain rfl:k=64:=by omega
   have hue:=HUE.out
   have k0:=HM.cell 0 u0 (by rw [hue];rfl)
   have k1:=HM.cell 1 u1 (by rw [hue];rfl)
   have k2:=HM.cell 2 u2 (by rw [hue];rfl)
   have k3:=HM.cell 3 u3 (by rw [hue];rfl)
   have k4:=HM.cell 4 u4 (by rw [hue];rfl)
   have k5:=HM.cell 5 u5 (by rw [hue];rfl)
   have k6:=HM.cell 6 u6 (by rw [hue];rfl)
   have k7:=HM.cell 7 u7 (by rw [hue];rfl)
   clear hue
   obtain ⟨oc,ho,hos⟩:=HM.out
   have HO:Hid (wr.heap[w.heap.size+2]?=some (.cells oc 195 (0,0))∧oc.size=8):=⟨ho,hos⟩
   have HBL:Hid (Below w.heap.size w wr):=HM.below
   clear ho hos HM HK
   have hz8:Hid ((Tryz.prog.info? 195).map (·.size)=some 8):=by show _=_;kernel_rfl
   have ha1:Hid ((#[Value.int .u32 (((u0:Int)+a)%4294967296),.int .u32 (((u1:Int)+b)%4294967296),.int .u32 (((u2:Int)+c)%4294967296),.int .u32 (((u3:Int)+d)%4294967296),.int .u32 (((u4:Int)+e)%4294967296),.int .u32 (((u5:Int)+f)%4294967296),.int .u32 (((u6:Int)+g)%4294967296),.int .u32 (((u7:Int)+y8)%4294967296)]:Array Value).all (·.oneCell')=true):=by rw [gQ];exact cC _
   go_wp2_with (refine wpList_store_row rfl 195 (.tmp 4) (.tmp 118) rfl (w.heap.size+2) #[Value.int .u32 (((u0:Int)+a)%4294967296),.int .u32 (((u1:Int)+b)%4294967296),.int .u32 (((u2:Int)+c)%4294967296),.int .u32 (((u3:Int)+d)%4294967296),.int .u32 (((u4:Int)+e)%4294967296),.int .u32 (((u5:Int)+f)%4294967296),.int .u32 (((u6:Int)+g)%4294967296),.int .u32 (((u7:Int)+y8)%4294967296)] rfl rfl 195 oc HO.out.1 hz8.out HO.out.2 ha1.out ?_)
   refine bodyPost_ret (results_cell_row (P:=Tryz.prog) rfl _ _ (w.heap.size+2) 195 #[Value.int .u32 (((u0:Int)+a)%4294967296),.int .u32 (((u1:Int)+b)%4294967296),.int .u32 (((u2:Int)+c)%4294967296),.int .u32 (((u3:Int)+d)%4294967296),.int .u32 (((u4:Int)+e)%4294967296),.int .u32 (((u5:Int)+f)%4294967296),.int .u32 (((u6:Int)+g)%4294967296),.int .u32 (((u7:Int)+y8)%4294967296)] (0,0) (.array 8 193) rfl (setRow_heap _ _ _ _ _ _ HO.out.1) Tryz.underlying195 rfl hz8.out) rfl ⟨?_,below_setRow HBL.out (by omega) _⟩
   rw [HE.out,← HUE.out,← HR.out,HUE.out,gQ]
end Go.Proofs.YtdeanahpiigonaaGreatDoor.Su
