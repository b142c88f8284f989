import Derived.Test.YthfcanpkhjgomaaGreatVw
set_option maxRecDepth 100000
set_option maxHeartbeats 8000000
namespace Go.Proofs.YthfcanpkhjgomaaGreat.Th
export Ch (Lies Vd exec_load under55 vx vx_len hid row_form)
open Go.RowKit Ch
attribute [local go_sem] Oper.semAt_some
theorem backQ:backB (opsAt Tryz.f101 4)=true:=by kernel_rfl
theorem dstQ:dstB (opsAt Tryz.f101 4) 57=true:=by kernel_rfl
theorem sizeQ:(opsAt Tryz.f101 4).size=9:=by kernel_rfl
theorem freeQ1:freeB (opsAt Tryz.f101 4) 1=true:=by kernel_rfl
theorem freeQ2:freeB (opsAt Tryz.f101 4) 2=true:=by kernel_rfl
theorem freeQ3:freeB (opsAt Tryz.f101 4) 3=true:=by kernel_rfl
theorem freeQ5:freeB (opsAt Tryz.f101 4) 5=true:=by kernel_rfl
theorem freeQ6:freeB (opsAt Tryz.f101 4) 6=true:=by kernel_rfl
theorem sQ_0:say (opsAt Tryz.f101 4) 0=some (some 20,.load 114 (.tmp 3),none):=by kernel_rfl
theorem dQ_0:slotB (opsAt Tryz.f101 4) 0=some 20:=by kernel_rfl
theorem sQ_1:say (opsAt Tryz.f101 4) 1=some (some 21,.load 31 (.tmp 1),none):=by kernel_rfl
theorem dQ_1:slotB (opsAt Tryz.f101 4) 1=some 21:=by kernel_rfl
theorem sQ_2:say (opsAt Tryz.f101 4) 2=some (some 22,.move (.tmp 5),none):=by kernel_rfl
theorem dQ_2:slotB (opsAt Tryz.f101 4) 2=some 22:=by kernel_rfl
theorem sQ_3:say (opsAt Tryz.f101 4) 3=some (some 23,.indexAddr 31 (.tmp 21) (.tmp 22),none):=by kernel_rfl
theorem dQ_3:slotB (opsAt Tryz.f101 4) 3=some 23:=by kernel_rfl
theorem sQ_4:say (opsAt Tryz.f101 4) 4=some (some 24,.load 31 (.tmp 2),none):=by kernel_rfl
theorem dQ_4:slotB (opsAt Tryz.f101 4) 4=some 24:=by kernel_rfl
theorem sQ_5:say (opsAt Tryz.f101 4) 5=some (some 25,.move (.tmp 6),none):=by kernel_rfl
theorem dQ_5:slotB (opsAt Tryz.f101 4) 5=some 25:=by kernel_rfl
theorem sQ_6:say (opsAt Tryz.f101 4) 6=some (some 26,.indexAddr 31 (.tmp 24) (.tmp 25),none):=by kernel_rfl
theorem dQ_6:slotB (opsAt Tryz.f101 4) 6=some 26:=by kernel_rfl
theorem sQ_7:say (opsAt Tryz.f101 4) 7=some (some 27,.call { callee:=.value (.tmp 20),args:=#[.tmp 23,.tmp 26],argTypes:=#[115,115] },none):=by kernel_rfl
theorem dQ_7:slotB (opsAt Tryz.f101 4) 7=some 27:=by kernel_rfl
theorem sQ_8:say (opsAt Tryz.f101 4) 8=some (some 9,.assign (.tmp 27),none):=by kernel_rfl
def VQ (ga oa n cp i gb ob m cq j:Nat) (cm:Int):Nat→Value
 | 0=>.func (.func 65) #[] #[]
 | 1=>.slice (some ⟨ga,oa,none⟩) n cp
 | 2=>.int .i64 (i:Int)
 | 3=>.pointer (some ⟨ga,oa+i*71,none⟩)
 | 4=>.slice (some ⟨gb,ob,none⟩) m cq
 | 5=>.int .i64 (j:Int)
 | 6=>.pointer (some ⟨gb,ob+j*71,none⟩)
 | 7=>.int .i64 cm
 | 8=>.int .i64 cm
 | _=>undef
theorem regQ (ga oa n cp i gb ob m cq j:Nat) (cm:Int) (nn Ba Bb Bf:Nat) (t0:Array Value) (wr:World) {Q:Exit→Act→World→Prop} (ht:t0.size=57) (h1:t0.getD 1 undef=.pointer (some ⟨Ba,0,none⟩)) (h2:t0.getD 2 undef=.pointer (some ⟨Bb,0,none⟩)) (h3:t0.getD 3 undef=.pointer (some ⟨Bf,0,none⟩)) (h5:t0.getD 5 undef=.int .i64 (i:Int)) (h6:t0.getD 6 undef=.int .i64 (j:Int))
  (x y:Cd) (hi:i<n) (hj:j<m) (ca:wr.cell? ⟨Ba,0,none⟩=some (.slice (some ⟨ga,oa,none⟩) n cp)) (cb:wr.cell? ⟨Bb,0,none⟩=some (.slice (some ⟨gb,ob,none⟩) m cq)) (cf:wr.cell? ⟨Bf,0,none⟩=some (.func (.func 65) #[] #[])) (lx:Lies wr ga (oa+i*71) (cc x)) (ly:Lies wr gb (ob+j*71) (cc y)) (sx:x.path.size≤1048576) (sy:y.path.size≤1048576) (hcm:cmpL (tl x.path) (tl y.path)=cm)
  (hQ:∀ w,Drew wr w→Q .normal ⟨fold (opsAt Tryz.f101 4) (VQ ga oa n cp i gb ob m cq j cm) t0 9,[]⟩ w):(Code.region 4 (opsAt Tryz.f101 4) true).wpIn Fence.wide nn Tryz.prog Q ⟨t0,[]⟩ wr:=by
 have hB:dstB (opsAt Tryz.f101 4) t0.size=true:=by rw [ht];exact dstQ
 have iI:(i:Int)<(n:Int):=by omega
 have i0:(0:Int)≤(i:Int):=by omega
 have jI:(j:Int)<(m:Int):=by omega
 have j0:(0:Int)≤(j:Int):=by omega
 have h0M:Drew wr wr.drew:=⟨1,rfl⟩
 refine inv_regionIn (by kernel_rfl) (IV (opsAt Tryz.f101 4) (VQ ga oa n cp i gb ob m cq j cm) t0 (fun _ w=>Drew wr w)) backQ ⟨t0,rfl,⟨rfl,fun _ _=>rfl,fun _ _ _ _ _ h=>by cases h⟩,h0M⟩ ?_ ?_
 rotate_left 1
 ·rintro done a w ⟨t,rfl,hS,hw⟩ hall
  rw [hS.end hB hall,sizeQ]
  exact hQ w hw
 ·rintro jz op done a w ho ⟨t,rfl,hS,hw⟩ hnd hdep hcl
  have e1:t[1]?.getD undef=.pointer (some ⟨Ba,0,none⟩):=(hS.old freeQ1).trans h1
  have e2:t[2]?.getD undef=.pointer (some ⟨Bb,0,none⟩):=(hS.old freeQ2).trans h2
  have e3:t[3]?.getD undef=.pointer (some ⟨Bf,0,none⟩):=(hS.old freeQ3).trans h3
  have e5:t[5]?.getD undef=.int .i64 (i:Int):=(hS.old freeQ5).trans h5
  have e6:t[6]?.getD undef=.int .i64 (j:Int):=(hS.old freeQ6).trans h6
  have hlt:jz<9:=by rw [← sizeQ];exact (Array.getElem?_eq_some_iff.1 ho).1
  match jz,hlt,ho,hnd,hdep with
  | 0,_,ho,hnd,hdep=>
   obtain ⟨hd,hop,hgd⟩:=say_of sQ_0 ho
   refine iv_valI (fun _=>trivial) hB ho (wanted_none hgd) hd hS (by intro c;rw [hop];intro h;cases h) hw ?_
   have c:=(hw.cell _).trans cf
   unfold execOp
   simp only [hop]
   simp [e3,c,VQ,go_sem]
  | 1,_,ho,hnd,hdep=>
   obtain ⟨hd,hop,hgd⟩:=say_of sQ_1 ho
   refine iv_valI (fun _=>trivial) hB ho (wanted_none hgd) hd hS (by intro c;rw [hop];intro h;cases h) hw ?_
   have c:=(hw.cell _).trans ca
   unfold execOp
   simp only [hop]
   simp [e1,c,VQ,go_sem]
  | 2,_,ho,hnd,hdep=>
   obtain ⟨hd,hop,hgd⟩:=say_of sQ_2 ho
   refine iv_valI (fun _=>trivial) hB ho (wanted_none hgd) hd hS (by intro c;rw [hop];intro h;cases h) hw ?_
   unfold execOp
   simp only [hop]
   simp [e5,VQ,go_sem]
  | 3,_,ho,hnd,hdep=>
   obtain ⟨hd,hop,hgd⟩:=say_of sQ_3 ho
   have x21:t[21]?.getD undef=_:=hS.at dQ_1 (waits (j:=1) (by kernel_rfl) ho hdep)
   simp only [VQ] at x21
   have x22:t[22]?.getD undef=_:=hS.at dQ_2 (waits (j:=2) (by kernel_rfl) ho hdep)
   simp only [VQ] at x22
   refine iv_valI (fun _=>trivial) hB ho (wanted_none hgd) hd hS (by intro c;rw [hop];intro h;cases h) hw ?_
   unfold execOp
   simp only [hop]
   simp [x21,x22,iI,i0,addr_add,VQ,go_sem]
  | 4,_,ho,hnd,hdep=>
   obtain ⟨hd,hop,hgd⟩:=say_of sQ_4 ho
   refine iv_valI (fun _=>trivial) hB ho (wanted_none hgd) hd hS (by intro c;rw [hop];intro h;cases h) hw ?_
   have c:=(hw.cell _).trans cb
   unfold execOp
   simp only [hop]
   simp [e2,c,VQ,go_sem]
  | 5,_,ho,hnd,hdep=>
   obtain ⟨hd,hop,hgd⟩:=say_of sQ_5 ho
   refine iv_valI (fun _=>trivial) hB ho (wanted_none hgd) hd hS (by intro c;rw [hop];intro h;cases h) hw ?_
   unfold execOp
   simp only [hop]
   simp [e6,VQ,go_sem]
  | 6,_,ho,hnd,hdep=>
   obtain ⟨hd,hop,hgd⟩:=say_of sQ_6 ho
   have x24:t[24]?.getD undef=_:=hS.at dQ_4 (waits (j:=4) (by kernel_rfl) ho hdep)
   simp only [VQ] at x24
   have x25:t[25]?.getD undef=_:=hS.at dQ_5 (waits (j:=5) (by kernel_rfl) ho hdep)
   simp only [VQ] at x25
   refine iv_valI (fun _=>trivial) hB ho (wanted_none hgd) hd hS (by intro c;rw [hop];intro h;cases h) hw ?_
   unfold execOp
   simp only [hop]
   simp [x24,x25,jI,j0,addr_add,VQ,go_sem]
  | 7,_,ho,hnd,hdep=>
   obtain ⟨hd,hop,hgd⟩:=say_of sQ_7 ho
   have x20:t[20]?.getD undef=_:=hS.at dQ_0 (waits (j:=0) (by kernel_rfl) ho hdep)
   simp only [VQ] at x20
   have x23:t[23]?.getD undef=_:=hS.at dQ_3 (waits (j:=3) (by kernel_rfl) ho hdep)
   simp only [VQ] at x23
   have x26:t[26]?.getD undef=_:=hS.at dQ_6 (waits (j:=6) (by kernel_rfl) ho hdep)
   simp only [VQ] at x26
   refine iv_callI 65 #[.pointer (some ⟨ga,oa+i*71,none⟩),.pointer (some ⟨gb,ob+j*71,none⟩)] (fun _=>trivial) (fun h=>by cases h) hB ho (wanted_none hgd) hd hS (by intro c;rw [hop];intro h;cases h) ?_ ?_
   ·skip
    unfold execOp
    simp only [hop]
    simp [x20,x23,x26,go_sem]
   ·exact callsIn_wide.2 ((comparePaths_any ga (oa+i*71) gb (ob+j*71) x y w (lx.drew hw) (ly.drew hw) sx sy).mono fun e w2 h=>⟨by rw [h.1,hcm];rfl,hw.trans h.2⟩)
  | 8,_,ho,hnd,hdep=>
   obtain ⟨hd,hop,hgd⟩:=say_of sQ_8 ho
   have x27:t[27]?.getD undef=_:=hS.at dQ_7 (waits (j:=7) (by kernel_rfl) ho hdep)
   simp only [VQ] at x27
   refine iv_valI (fun _=>trivial) hB ho (wanted_none hgd) hd hS (by intro c;rw [hop];intro h;cases h) hw ?_
   unfold execOp
   simp only [hop]
   simp [x27,VQ,go_sem]
theorem foldQ (ga oa n cp i gb ob m cq j:Nat) (cm:Int) (t0:Array Value):fold (opsAt Tryz.f101 4) (VQ ga oa n cp i gb ob m cq j cm) t0 9=(((((((((t0.setIfInBounds 20 (.func (.func 65) #[] #[])).setIfInBounds 21 (.slice (some ⟨ga,oa,none⟩) n cp)).setIfInBounds 22 (.int .i64 (i:Int))).setIfInBounds 23 (.pointer (some ⟨ga,oa+i*71,none⟩))).setIfInBounds 24 (.slice (some ⟨gb,ob,none⟩) m cq)).setIfInBounds 25 (.int .i64 (j:Int))).setIfInBounds 26 (.pointer (some ⟨gb,ob+j*71,none⟩))).setIfInBounds 27 (.int .i64 cm)).setIfInBounds 9 (.int .i64 cm)):=by kernel_rfl
abbrev Pv (A B:List Cd):Type:={ p:Pr // (∀ i,p.1=some i→i<A.length)∧(∀ j,p.2=some j→j<B.length)∧p≠(none,none) }
def ptP (g o:Nat) (k:Option Nat):Value:=.pointer (k.map fun i=>⟨g,o+i*71,none⟩)
def encP (ga oa gb ob:Nat) {A B:List Cd} (p:Pv A B):Array Value:=#[ptP ga oa p.1.1,ptP gb ob p.1.2]
def KeepD (lo Ba Bb Bf:Nat) (W W':World):Prop:=W.heap.size≤W'.heap.size∧∀ b,(b<lo∨b=Ba∨b=Bb∨b=Bf)→W'.heap[b]?=W.heap[b]?
theorem KeepD.trans {lo Ba Bb Bf:Nat} {A B C:World} (h:KeepD lo Ba Bb Bf A B) (k:KeepD lo Ba Bb Bf B C):KeepD lo Ba Bb Bf A C:=⟨Nat.le_trans h.1 k.1,fun b hb=>(k.2 b hb).trans (h.2 b hb)⟩
theorem KeepD.refl (lo Ba Bb Bf:Nat) (W:World):KeepD lo Ba Bb Bf W W:=⟨Nat.le_refl _,fun _ _=>rfl⟩
theorem KeepD.drew {lo Ba Bb Bf:Nat} {A B:World} (h:Drew A B):KeepD lo Ba Bb Bf A B:=⟨by rw [h.heap];exact Nat.le_refl _,fun b _=>by rw [h.heap]⟩
theorem drew_grown {A B:World} (h:Drew A B):A.grownBy B none:=grown_of h.below
theorem itm_ok {A B:List Cd} {i j:Nat} (h:i<A.length∨j<B.length):(∀ k,(itm A B i j).1=some k→k<A.length)∧(∀ k,(itm A B i j).2=some k→k<B.length)∧itm A B i j≠(none,none):=by
 rcases Int.lt_trichotomy (ordA A B i j) 0 with hn | hz | hp
 ·rw [(itm_neg hn).1]
  exact ⟨(fun k e=>by cases e;exact ord_left h (by omega)),(fun k e=>by cases e),by simp⟩
 ·rw [(itm_zero hz).1]
  exact ⟨(fun k e=>by cases e;exact ord_left h (by omega)),(fun k e=>by cases e;exact ord_right h (by omega)),by simp⟩
 ·rw [(itm_pos hp).1]
  exact ⟨(fun k e=>by cases e),(fun k e=>by cases e;exact ord_right h (by omega)),by simp⟩
theorem mg_short {A B:List Cd} {i j:Nat} {ys:List Pr} (h:i<A.length∨j<B.length) (e:ys++mg A B i j=mg A B 0 0):ys.length<A.length+B.length:=by
 have h1:=mg_len A B 0 0
 rw [← e,mg_step h,List.length_append,List.length_cons] at h1
 unfold rem at h1
 omega
theorem sides1_in (n0:Nat) (hn0:1≤n0) (l lo Ba Bb Bf ga oa gb ob cp cq:Nat) (ao bo:Option Addr) (A B:List Cd) (J Jx:List (Pv A B)→World→Prop) (W:World) (hJ:AbidesFrom W.heap.size J)
  (hA:∀ i x,A[i]?=some x→ao=some ⟨ga,oa,none⟩∧ga<lo∧Lies W ga (oa+i*71) (cc x)) (hB:∀ i x,B[i]?=some x→bo=some ⟨gb,ob,none⟩∧gb<lo∧Lies W gb (ob+i*71) (cc x))
  (hpa:∀ c∈A,c.path.size≤1048576) (hpb:∀ c∈B,c.path.size≤1048576) (hn:A.length≤10000) (hm:B.length≤10000)
  (ca:W.cell? ⟨Ba,0,none⟩=some (.slice ao A.length cp)) (cb:W.cell? ⟨Bb,0,none⟩=some (.slice bo B.length cq)) (cf:W.cell? ⟨Bf,0,none⟩=some (.func (.func 65) #[] #[]))
  (hY:∀ pre x W1,J pre W1→pre.length<A.length+B.length→YieldAt Fence.wide (n0-1) Tryz.prog l (encP ga oa gb ob x) W1 fun e W'=>
   (e=.returned (.bool true)∧J (pre++[x]) W'∧KeepD lo Ba Bb Bf W1 W')∨(e=.returned (.bool false)∧Jx (pre++[x]) W')) (h0:J [] W):
  CallsIn Fence.wide n0 Tryz.prog 101 #[.func (.yield l) #[] #[],.pointer (some ⟨Ba,0,none⟩),.pointer (some ⟨Bb,0,none⟩),.pointer (some ⟨Bf,0,none⟩)] W fun e W'=>(∃ v,e=.returned v)∧
   ((∃ ys,ys.map (·.1)=mg A B 0 0∧J ys W')∨(∃ pre,pre.map (·.1) <+: mg A B 0 0∧Jx pre W')):=by
 obtain ⟨n,hn'⟩:∃ n,A.length=n:=⟨_,rfl⟩
 obtain ⟨m,hm'⟩:∃ m,B.length=m:=⟨_,rfl⟩
 have HN:=hid hn'
 have HM:=hid hm'
 have HA:=hid hA
 have HB:=hid hB
 have HPA:=hid hpa
 have HPB:=hid hpb
 have HY:=hid hY
 have HJ:=hid hJ
 have HCC:=hid (And.intro ca (And.intro cb cf))
 rw [hn'] at HCC hn
 rw [hm'] at HCC hm
 clear hn' hm' hA hB hpa hpb hY hJ ca cb cf
 refine callsIn_of_wp Tryz.func101 rfl trivial ?_ rfl
 simp only [Tryz.ntmps101,List.size_toArray,List.length_cons,List.length_nil,Nat.reduceAdd,Nat.reduceSub,Array.replicate_succ,Array.replicate_zero,List.push_toArray,List.append_toArray,List.nil_append,List.cons_append]
 gi_wp2
 gi_loopw [5,6] (fun s5 s6 wr=>∃ (i j:Nat) (ys:List (Pv A B)),s5=.int .i64 (i:Int)∧s6=.int .i64 (j:Int)∧i≤n∧j≤m∧Hid (J ys wr∧ys.map (·.1)++mg A B i j=mg A B 0 0∧KeepD lo Ba Bb Bf W wr))
  (fun s5 s6 _=>(n-iOf s5)+(m-iOf s6))
 case atStart=>exact ⟨0,0,[],rfl,rfl,Nat.zero_le _,Nat.zero_le _,h0,by simp,KeepD.refl _ _ _ _ _⟩
 case round=>
  obtain ⟨i,j,ys,rfl,rfl,hi,hj,HI⟩:=hrel
  have ca:wr.cell? ⟨Ba,0,none⟩=some (.slice ao n cp):=(World.cell?_of_block (HI.out.2.2.2 Ba (by simp))).trans HCC.out.1
  have cb:wr.cell? ⟨Bb,0,none⟩=some (.slice bo m cq):=(World.cell?_of_block (HI.out.2.2.2 Bb (by simp))).trans HCC.out.2.1
  have cf:wr.cell? ⟨Bf,0,none⟩=some (.func (.func 65) #[] #[]):=(World.cell?_of_block (HI.out.2.2.2 Bf (by simp))).trans HCC.out.2.2
  by_cases hc:i<A.length∨j<B.length
  ·by_cases h1:i=n
   ·have h1a:¬ ((i:Int)<(n:Int)):=by omega
    have h1b:((i:Int)==(n:Int))=true:=by simp [h1]
    have hjl:j<B.length:=by have:=HN.out;omega
    have hjm:j<m:=by have:=HM.out;omega
    have jI:(j:Int)<(m:Int):=by omega
    have j0:(0:Int)≤(j:Int):=by omega
    obtain ⟨y,hy0⟩:∃ y,B[j]?=some y:=⟨B[j],by simp⟩
    obtain ⟨hbo,_,_⟩:=HB.out j y hy0
    subst hbo
    have hord:0<ordA A B i j:=by unfold ordA;rw [List.getElem?_eq_none (by have:=HN.out;omega)];show (0:Int)<1;omega
    have hJq:=HI.out.1
    have hKq:=HI.out.2.2
    have hok:=itm_ok hc
    rw [(itm_pos hord).1] at hok
    obtain ⟨p,hp⟩:∃ p:Pv A B,p.1=(none,some j):=⟨⟨_,hok⟩,rfl⟩
    obtain ⟨fn,tmps,assign,body,hy,hR⟩:=HY.out ys p wr hJq (by have:=mg_short hc HI.out.2.1;simpa using this)
    have hen:encP ga oa gb ob p=#[ptP ga oa ((none,some j):Pr).1,ptP gb ob ((none,some j):Pr).2]:=by unfold encP;rw [hp]
    rw [hen] at hy
    simp only [ptP,Option.map_some,Option.map_none] at hy
    have HMG:Hid ((ys++[p]).map (·.1)++mg A B i (j+1)=mg A B 0 0):=by
     have h1:=snoc_mg hc HI.out.2.1
     rw [(itm_pos hord).1,(itm_pos hord).2.1,(itm_pos hord).2.2] at h1
     show _=_
     rw [List.map_append]
     simpa [hp] using h1
    have HKQ:=hid hKq
    have PRE:Hid ((ys++[p]).map (·.1) <+: mg A B 0 0):=by rw [← HMG.out];exact List.prefix_append _ _
    clear hok hen HI hJq hKq hc hord
    gi_wp2
    refine hR.mono ?_
    rintro e W3 (⟨rfl,hJ3,hk3⟩ | ⟨rfl,hJx3⟩)
    ·have HJ3:Hid (J (ys++[p]) W3∧KeepD lo Ba Bb Bf W W3):=⟨hJ3,HKQ.out.trans hk3⟩
     clear hJ3 hk3 hR hy HKQ
     gi_wp2
     go_roundw
     case rel=>exact ⟨i,j+1,_,by go_num,by go_num,by omega,by omega,HJ3.out.1,HMG.out,HJ3.out.2⟩
     case measure=>simp;omega
    ·have HX3:Hid (Jx (ys++[p]) W3):=hJx3
     clear hJx3 hR hy HKQ
     gi_wp2
     refine bodyPost_ret (results_none rfl _ _ _) rfl ?_
     exact ⟨⟨_,rfl⟩,.inr ⟨_,PRE.out,HX3.out⟩⟩
   ·have h1a:(i:Int)<(n:Int):=by omega
    have h1b:((i:Int)==(n:Int))=false:=by simp;omega
    have i0:(0:Int)≤(i:Int):=by omega
    have hil:i<A.length:=by have:=HN.out;omega
    obtain ⟨x,hx0⟩:∃ x,A[i]?=some x:=⟨A[i],by simp⟩
    obtain ⟨hao,hga,lx⟩:=HA.out i x hx0
    subst hao
    by_cases h2:j=m
    ·have h2b:((j:Int)==(m:Int))=true:=by simp [h2]
     have hord:ordA A B i j<0:=by unfold ordA;rw [hx0,List.getElem?_eq_none (by have:=HM.out;omega)];show (-1:Int)<0;omega
     have hJq:=HI.out.1
     have hKq:=HI.out.2.2
     have hok:=itm_ok hc
     rw [(itm_neg hord).1] at hok
     obtain ⟨p,hp⟩:∃ p:Pv A B,p.1=(some i,none):=⟨⟨_,hok⟩,rfl⟩
     obtain ⟨fn,tmps,assign,body,hy,hR⟩:=HY.out ys p wr hJq (by have:=mg_short hc HI.out.2.1;simpa using this)
     have hen:encP ga oa gb ob p=#[ptP ga oa ((some i,none):Pr).1,ptP gb ob ((some i,none):Pr).2]:=by unfold encP;rw [hp]
     rw [hen] at hy
     simp only [ptP,Option.map_some,Option.map_none] at hy
     have HMG:Hid ((ys++[p]).map (·.1)++mg A B (i+1) j=mg A B 0 0):=by
      have h1:=snoc_mg hc HI.out.2.1
      rw [(itm_neg hord).1,(itm_neg hord).2.1,(itm_neg hord).2.2] at h1
      show _=_
      rw [List.map_append]
      simpa [hp] using h1
     have HKQ:=hid hKq
     have PRE:Hid ((ys++[p]).map (·.1) <+: mg A B 0 0):=by rw [← HMG.out];exact List.prefix_append _ _
     clear hok hen HI hJq hKq hc hord
     gi_wp2
     refine hR.mono ?_
     rintro e W3 (⟨rfl,hJ3,hk3⟩ | ⟨rfl,hJx3⟩)
     ·have HJ3:Hid (J (ys++[p]) W3∧KeepD lo Ba Bb Bf W W3):=⟨hJ3,HKQ.out.trans hk3⟩
      clear hJ3 hk3 hR hy HKQ
      gi_wp2
      go_roundw
      case rel=>exact ⟨i+1,j,_,by go_num,by go_num,by omega,by omega,HJ3.out.1,HMG.out,HJ3.out.2⟩
      case measure=>simp;omega
     ·have HX3:Hid (Jx (ys++[p]) W3):=hJx3
      clear hJx3 hR hy HKQ
      gi_wp2
      refine bodyPost_ret (results_none rfl _ _ _) rfl ?_
      exact ⟨⟨_,rfl⟩,.inr ⟨_,PRE.out,HX3.out⟩⟩
    ·have h2b:((j:Int)==(m:Int))=false:=by simp;omega
     have hjl:j<B.length:=by have:=HM.out;omega
     have jI:(j:Int)<(m:Int):=by omega
     have j0:(0:Int)≤(j:Int):=by omega
     obtain ⟨y,hy0⟩:∃ y,B[j]?=some y:=⟨B[j],by simp⟩
     obtain ⟨hbo,hgb,ly⟩:=HB.out j y hy0
     subst hbo
     have HLX:Hid (Lies wr ga (oa+i*71) (cc x)):=fun q u hq=>(World.cell?_of_block (HI.out.2.2.2 ga (.inl hga))).trans (lx q u hq)
     have HLY:Hid (Lies wr gb (ob+j*71) (cc y)):=fun q u hq=>(World.cell?_of_block (HI.out.2.2.2 gb (.inl hgb))).trans (ly q u hq)
     obtain ⟨cm,hcm⟩:∃ cm,ordA A B i j=cm:=⟨_,rfl⟩
     have hcm2:cmpL (tl x.path) (tl y.path)=cm:=by rw [← hcm];unfold ordA;rw [hx0,hy0]
     have hsx:=HPA.out x (List.mem_of_getElem? hx0)
     have hsy:=HPB.out y (List.mem_of_getElem? hy0)
     gi_wp2
     refine regQ ga oa n cp i gb ob m cq j cm n0 Ba Bb Bf _ wr rfl rfl rfl rfl rfl rfl x y (by have:=HN.out;omega) (by have:=HM.out;omega) ca cb cf HLX.out HLY.out hsx hsy hcm2 fun wz hz=>?_
     rw [foldQ]
     have ca2:wz.cell? ⟨Ba,0,none⟩=some (.slice (some ⟨ga,oa,none⟩) n cp):=(hz.cell _).trans ca
     have cb2:wz.cell? ⟨Bb,0,none⟩=some (.slice (some ⟨gb,ob,none⟩) m cq):=(hz.cell _).trans cb
     have hJq:J ys wz:=HJ.out _ _ _ none HI.out.1 (drew_grown hz) (fun r e=>by cases e)
     have hKq:KeepD lo Ba Bb Bf W wz:=HI.out.2.2.trans (KeepD.drew hz)
     clear ca cb cf hcm2 hsx hsy HLX HLY lx ly hga hgb hx0 hy0 hz
     rcases Int.lt_trichotomy cm 0 with hneg | hzero | hpos
     ·have o1:cm≤0:=by omega
      have o2:¬ 0≤cm:=by omega
      have hord:ordA A B i j<0:=by rw [hcm];exact hneg
      go_simp
      have hok:=itm_ok hc
      rw [(itm_neg hord).1] at hok
      obtain ⟨p,hp⟩:∃ p:Pv A B,p.1=(some i,none):=⟨⟨_,hok⟩,rfl⟩
      obtain ⟨fn,tmps,assign,body,hy,hR⟩:=HY.out ys p wz hJq (by have:=mg_short hc HI.out.2.1;simpa using this)
      have hen:encP ga oa gb ob p=#[ptP ga oa ((some i,none):Pr).1,ptP gb ob ((some i,none):Pr).2]:=by unfold encP;rw [hp]
      rw [hen] at hy
      simp only [ptP,Option.map_some,Option.map_none] at hy
      have HMG:Hid ((ys++[p]).map (·.1)++mg A B (i+1) j=mg A B 0 0):=by
       have h1:=snoc_mg hc HI.out.2.1
       rw [(itm_neg hord).1,(itm_neg hord).2.1,(itm_neg hord).2.2] at h1
       show _=_
       rw [List.map_append]
       simpa [hp] using h1
      have HKQ:=hid hKq
      have PRE:Hid ((ys++[p]).map (·.1) <+: mg A B 0 0):=by rw [← HMG.out];exact List.prefix_append _ _
      clear hok hen HI hJq hKq hc hord
      gi_wp2
      refine hR.mono ?_
      rintro e W3 (⟨rfl,hJ3,hk3⟩ | ⟨rfl,hJx3⟩)
      ·have HJ3:Hid (J (ys++[p]) W3∧KeepD lo Ba Bb Bf W W3):=⟨hJ3,HKQ.out.trans hk3⟩
       clear hJ3 hk3 hR hy HKQ
       gi_wp2
       go_roundw
       case rel=>exact ⟨i+1,j,_,by go_num,by go_num,by omega,by omega,HJ3.out.1,HMG.out,HJ3.out.2⟩
       case measure=>simp;omega
      ·have HX3:Hid (Jx (ys++[p]) W3):=hJx3
       clear hJx3 hR hy HKQ
       gi_wp2
       refine bodyPost_ret (results_none rfl _ _ _) rfl ?_
       exact ⟨⟨_,rfl⟩,.inr ⟨_,PRE.out,HX3.out⟩⟩
     ·subst hzero
      have hord:ordA A B i j=0:=hcm
      go_simp
      have hok:=itm_ok hc
      rw [(itm_zero hord).1] at hok
      obtain ⟨p,hp⟩:∃ p:Pv A B,p.1=(some i,some j):=⟨⟨_,hok⟩,rfl⟩
      obtain ⟨fn,tmps,assign,body,hy,hR⟩:=HY.out ys p wz hJq (by have:=mg_short hc HI.out.2.1;simpa using this)
      have hen:encP ga oa gb ob p=#[ptP ga oa ((some i,some j):Pr).1,ptP gb ob ((some i,some j):Pr).2]:=by unfold encP;rw [hp]
      rw [hen] at hy
      simp only [ptP,Option.map_some] at hy
      have HMG:Hid ((ys++[p]).map (·.1)++mg A B (i+1) (j+1)=mg A B 0 0):=by
       have h1:=snoc_mg hc HI.out.2.1
       rw [(itm_zero hord).1,(itm_zero hord).2.1,(itm_zero hord).2.2] at h1
       show _=_
       rw [List.map_append]
       simpa [hp] using h1
      have HKQ:=hid hKq
      have PRE:Hid ((ys++[p]).map (·.1) <+: mg A B 0 0):=by rw [← HMG.out];exact List.prefix_append _ _
      clear hok hen HI hJq hKq hc hord
      gi_wp2
      refine hR.mono ?_
      rintro e W3 (⟨rfl,hJ3,hk3⟩ | ⟨rfl,hJx3⟩)
      ·have HJ3:Hid (J (ys++[p]) W3∧KeepD lo Ba Bb Bf W W3):=⟨hJ3,HKQ.out.trans hk3⟩
       clear hJ3 hk3 hR hy HKQ
       gi_wp2
       go_roundw
       case rel=>exact ⟨i+1,j+1,_,by go_num,by go_num,by omega,by omega,HJ3.out.1,HMG.out,HJ3.out.2⟩
       case measure=>simp;omega
      ·have HX3:Hid (Jx (ys++[p]) W3):=hJx3
       clear hJx3 hR hy HKQ
       gi_wp2
       refine bodyPost_ret (results_none rfl _ _ _) rfl ?_
       exact ⟨⟨_,rfl⟩,.inr ⟨_,PRE.out,HX3.out⟩⟩
     ·have o1:¬ cm≤0:=by omega
      have o2:0≤cm:=by omega
      have hord:0<ordA A B i j:=by rw [hcm];exact hpos
      go_simp
      have hok:=itm_ok hc
      rw [(itm_pos hord).1] at hok
      obtain ⟨p,hp⟩:∃ p:Pv A B,p.1=(none,some j):=⟨⟨_,hok⟩,rfl⟩
      obtain ⟨fn,tmps,assign,body,hy,hR⟩:=HY.out ys p wz hJq (by have:=mg_short hc HI.out.2.1;simpa using this)
      have hen:encP ga oa gb ob p=#[ptP ga oa ((none,some j):Pr).1,ptP gb ob ((none,some j):Pr).2]:=by unfold encP;rw [hp]
      rw [hen] at hy
      simp only [ptP,Option.map_some,Option.map_none] at hy
      have HMG:Hid ((ys++[p]).map (·.1)++mg A B i (j+1)=mg A B 0 0):=by
       have h1:=snoc_mg hc HI.out.2.1
       rw [(itm_pos hord).1,(itm_pos hord).2.1,(itm_pos hord).2.2] at h1
       show _=_
       rw [List.map_append]
       simpa [hp] using h1
      have HKQ:=hid hKq
      have PRE:Hid ((ys++[p]).map (·.1) <+: mg A B 0 0):=by rw [← HMG.out];exact List.prefix_append _ _
      clear hok hen HI hJq hKq hc hord
      gi_wp2
      refine hR.mono ?_
      rintro e W3 (⟨rfl,hJ3,hk3⟩ | ⟨rfl,hJx3⟩)
      ·have HJ3:Hid (J (ys++[p]) W3∧KeepD lo Ba Bb Bf W W3):=⟨hJ3,HKQ.out.trans hk3⟩
       clear hJ3 hk3 hR hy HKQ
       gi_wp2
       go_roundw
       case rel=>exact ⟨i,j+1,_,by go_num,by go_num,by omega,by omega,HJ3.out.1,HMG.out,HJ3.out.2⟩
       case measure=>simp;omega
      ·have HX3:Hid (Jx (ys++[p]) W3):=hJx3
       clear hJx3 hR hy HKQ
       gi_wp2
       refine bodyPost_ret (results_none rfl _ _ _) rfl ?_
       exact ⟨⟨_,rfl⟩,.inr ⟨_,PRE.out,HX3.out⟩⟩
  ·have hin:i=n:=by have:=HN.out;have:=HM.out;omega
   have hjm:j=m:=by have:=HN.out;have:=HM.out;omega
   have h1:¬ ((i:Int)<(n:Int)):=by omega
   have h2:¬ ((j:Int)<(m:Int)):=by omega
   have HF:Hid (ys.map (·.1)=mg A B 0 0∧J ys wr):=by
    have:=HI.out.2.1
    rw [mg_done hc,List.append_nil] at this
    exact ⟨this,HI.out.1⟩
   clear HI hc
   gi_wp2
   refine bodyPost_end (results_none rfl _ _ _) rfl ?_
   exact ⟨⟨_,rfl⟩,.inl ⟨ys,HF.out.1,HF.out.2⟩⟩
end Go.Proofs.YthfcanpkhjgomaaGreat.Th
