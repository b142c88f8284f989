import Derived.Test.YtjikkhbcbfpocaaGreatDoorDL
set_option maxRecDepth 100000
set_option maxHeartbeats 8000000
namespace Go.Proofs.YtjikkhbcbfpocaaGreatDoor
open Go.RowKit Go.Shelf
attribute [local go_sem] Oper.semAt_some
def mOk (m:Md):Prop:=(0≤m.n0∧m.n0<9223372036854775808)∧(0≤m.s0∧m.s0<9223372036854775808)∧(0≤m.n1∧m.n1<9223372036854775808)∧(0≤m.s1∧m.s1<9223372036854775808)
def mN (m:Md) (k:Nat):Nat:=if k=0 then m.n0.toNat else m.n1.toNat
def mS (m:Md) (k:Nat):Nat:=if k=0 then m.s0.toNat else m.s1.toNat
def mkB (m:Md):Nat→List Nat
 | 0=>[]
 | k+1=>mkB m k++(encN (mN m k)++encN (mS m k))
theorem ia (m:Md) (hm:mOk m):∀ k,(mkB m k).length≤20*k
 | 0=>by simp [mkB]
 | k+1=>by
  obtain ⟨a,b,c,d⟩:=hm
  have h1:=ia m ⟨a,b,c,d⟩ k
  have h2:=jT (n:=mN m k) (by unfold mN;split<;>omega)
  have h3:=jT (n:=mS m k) (by unfold mS;split<;>omega)
  simp only [mkB,lA]
  omega
def z26:Array Value:=#[.int .i64 0,.int .i64 0]
theorem zero26:(Tryz.prog.info? 26).bind (·.zero)=some (.agg z26):=by kernel_rfl
theorem siz26:(Tryz.prog.info? 26).map (·.size)=some 2:=by kernel_rfl
theorem pR {o:Oper} {a:Act} (x y:Operand) (ho:o.op=.index 27 x y) (m:Md) (hm:mOk m) (k:Nat) (hk:k<2) (hx:a.eval x=.agg (mx m).toArray) (hy:a.eval y=.int .i64 (k:Int)) (w:World):
  (execOp a.eval o).run Tryz.prog w=.ok (.value (.agg #[.int .i64 ((mN m k:Nat):Int),.int .i64 ((mS m k:Nat):Int)])) w:=by
 obtain ⟨d,op,ty,ps,af,gd⟩:=o
 obtain rfl:op=_:=ho
 generalize a.eval=ev at *
 obtain ⟨⟨a1,_⟩,⟨a2,_⟩,⟨a3,_⟩,⟨a4,_⟩⟩:=hm
 obtain rfl | rfl:k=0∨k=1:=by omega
 ·have e1:((mN m 0:Nat):Int)=m.n0:=by simp [mN];omega
  have e2:((mS m 0:Nat):Int)=m.s0:=by simp [mS];omega
  rw [e1,e2]
  have hs:(Tryz.prog.info? 26).map (·.size)=some 2:=by kernel_rfl
  have x0:∀ w,(part 26 (mx m).toArray 0).run Tryz.prog w=.ok (.agg #[.int .i64 m.n0,.int .i64 m.s0]) w:=fun w=>by
   rw [zQ 26 _ 2 xN rfl hs _ 0 (by simp [mx])];simp [mx]
  have hi:(Instr.index 27 (.agg (mx m).toArray) (.int .i64 0)).run Tryz.prog w=.ok (.agg #[.int .i64 m.n0,.int .i64 m.s0]) w:=by
   unfold Instr.index
   simp [asIntOf,Sem.run_bind,run_underlying Tryz.underlying27,x0]
  go_simp
 ·have e1:((mN m 1:Nat):Int)=m.n1:=by simp [mN];omega
  have e2:((mS m 1:Nat):Int)=m.s1:=by simp [mS];omega
  rw [e1,e2]
  have hs:(Tryz.prog.info? 26).map (·.size)=some 2:=by kernel_rfl
  have x0:∀ w,(part 26 (mx m).toArray 2).run Tryz.prog w=.ok (.agg #[.int .i64 m.n1,.int .i64 m.s1]) w:=fun w=>by
   rw [zQ 26 _ 2 xN rfl hs _ 2 (by simp [mx])];simp [mx]
  have hi:(Instr.index 27 (.agg (mx m).toArray) (.int .i64 1)).run Tryz.prog w=.ok (.agg #[.int .i64 m.n1,.int .i64 m.s1]) w:=by
   unfold Instr.index
   simp [asIntOf,Sem.run_bind,run_underlying Tryz.underlying27,x0]
  go_simp
theorem ib {lo X:Nat} {b:List Nat} {ver:Int} {hs:List (List Nat)} {M:Nat→Prop} {w:World} (p:Nat) (v:Vd) (m:Md) (k:K) (hT:AtT w p v m k) (hm:mOk m) (hS:Ws lo X b ver hs M w) (hl:b.length+64≤16777216):
  Calls Tryz.prog 88 #[.pointer (some ⟨X,0,none⟩),.pointer (some ⟨p,0,none⟩)] w fun e w'=>e=.returned (.tuple #[])∧PoW lo X (b++if ver<3 then [] else mkB m 2) ver hs M w w':=by
 have hS0:=hS
 obtain ⟨u,vh,hW,hM⟩:=hS0
 have q1:w.cell? ⟨X,1,none⟩=some (.int .i64 ver):=jB (jD hW.at_) 1 _ rfl
 have CM:=pX p v m k w hT
 have HH:=hid (⟨hS,hl,hm⟩:_∧_∧_)
 clear hW hM hl hm hS hT
 by_cases hver:ver<3
 ·rw [if_pos hver,List.append_nil]
  go_enter Tryz.func88,Tryz.ntmps88
  go_wp2_with fail
  exact bodyPost_ret (results_none rfl _ _ _) rfl ⟨rfl,M,HH.o.1,fun c h=>.inl h,Fr.of_G (Below.refl _ _)⟩
 ·rw [if_neg hver]
  go_enter Tryz.func88,Tryz.ntmps88
  go_wp2_with (go_at_call 128;refine CM.mono ?_;rintro e w1 ⟨rfl,hg1⟩;have HG:=hid hg1;clear hg1 CM)
  go_loopw [13] (fun i wr=>∃ k:Nat,i=.int .i64 k∧k≤2∧Hid (PoW lo X (b++mkB m k) ver hs M w wr)) (fun i _=>2-iOf i)
  case atStart=>exact ⟨0,rfl,by omega,by rw [mkB,List.append_nil];exact ⟨M,HH.o.1.keep HG.o,fun c h=>.inl h,Fr.of_G HG.o⟩⟩
  case round=>
   obtain ⟨k,rfl,hk,HR⟩:=hrel
   by_cases hk2:k<2
   ·have hkI:(k:Int)<2:=by omega
    obtain ⟨M1,hS1,hM1,hf1⟩:=HR.o
    obtain ⟨Bk,hBk⟩:∃ Bk,wr.heap.size=Bk:=⟨_,rfl⟩
    have hnB:¬ M1 Bk:=by
     obtain ⟨u1,vh1,hW1,hM1'⟩:=hS1
     intro h
     rw [hM1'] at h
     have:=(hW1.lt.2 Bk h).2
     omega
    have N4:=qX wr 26 z26 #[.int .i64 ((mN m k:Nat):Int),.int .i64 ((mS m k:Nat):Int)]
    rw [hBk] at N4
    have HQ:=hid (⟨hS1,hM1,hf1,hnB,N4⟩:_∧_∧_∧_∧_)
    clear hS1 hM1 hf1 hnB N4 HR
    go_upto_region 4 with (first
     | ((with_reducible refine jA (.agg #[.int .i64 ((mN m k:Nat):Int),.int .i64 ((mS m k:Nat):Int)]) ?_ ?_);exact pR _ _ rfl m HH.o.2.2 k hk2 rfl rfl _)
     | ((with_reducible refine jF (.pointer (some ⟨Bk,0,none⟩)) (wr.alloc (.cells z26 26)) ?_ ?_);exact jG 26 z26 rfl zero26 _ _ hBk)
     | ((with_reducible refine jC ((wr.alloc (.cells z26 26)).setRow Bk #[.int .i64 ((mN m k:Nat):Int),.int .i64 ((mS m k:Nat):Int)]) ?_ ?_);exact jL 26 _ _ rfl Bk _ z26 rfl rfl _ (by rw [← hBk];exact World.alloc_heap_new wr _) (by rw [siz26];rfl) rfl (by simp [Value.oneCell'])))
    try simp only [Act.put,List.setIfInBounds_toArray,List.set_cons_zero,List.set_cons_succ]
    generalize (wr.alloc (.cells z26 26)).setRow Bk #[.int .i64 ((mN m k:Nat):Int),.int .i64 ((mS m k:Nat):Int)]=w4 at *
    have q4:=jB (jD HQ.o.2.2.2.2.2.1) 0 _ rfl
    go_wp2_with (first
     | (go_at_call 56;first
      | (refine (kq (mN m k) (by obtain ⟨a1,a2,a3,a4⟩:=HH.o.2.2;unfold mN;split<;>omega) (HQ.o.1.keep HQ.o.2.2.2.2.1) (by have:=HH.o.2.1;have:=ia m HH.o.2.2 k;simp only [lA];omega)).mono ?_;rintro e w5 ⟨rfl,M5,h1,h2,h3⟩;have q5:=jB (jD ((h3.same Bk (by have:=HQ.o.2.2.2.2.2.2;omega) HQ.o.2.2.2.1).trans HQ.o.2.2.2.2.2.1)) 1 _ rfl;have HO:=hid (⟨h1,h2,h3⟩:_∧_∧_);clear h1 h2 h3 q4)
      | (refine (kq (mS m k) (by obtain ⟨a1,a2,a3,a4⟩:=HH.o.2.2;unfold mS;split<;>omega) HO.o.1 (by have:=HH.o.2.1;have:=ia m HH.o.2.2 k;have:=jT (n:=mN m k) (by obtain ⟨a1,a2,a3,a4⟩:=HH.o.2.2;unfold mN;split<;>omega);simp only [lA];omega)).mono ?_;rintro e w6 ⟨rfl,h6⟩;have HP:=hid h6;clear h6 q5)))
    go_roundw
    case rel=>
     refine ⟨k+1,by go_num,by omega,?_⟩
     have e:b++mkB m (k+1)=b++mkB m k++encN (mN m k)++encN (mS m k):=by simp [mkB]
     rw [e]
     obtain ⟨M6,g1,g2,g3⟩:=HP.o
     obtain ⟨hS1,hM1,hf1,_,hg4,_⟩:=HQ.o
     obtain ⟨k1,k2,k3⟩:=HO.o
     have m5:∀ c,M5 c→M c∨w.heap.size≤c:=fun c h=>(k2 c h).elim (hM1 c) fun h=>.inr (by have:=hf1.size;have:=hg4.size;omega)
     have f5:Fr M w w5:=(hf1.trans hM1 (Fr.of_G hg4)).trans hM1 k3
     exact ⟨M6,g1,fun c h=>(g2 c h).elim (m5 c) fun h=>.inr (Nat.le_trans f5.size h),f5.trans m5 g3⟩
    case measure=>simp;omega
   ·have hkI:¬ (k:Int)<2:=by omega
    obtain rfl:k=2:=by omega
    go_wp2_with fail
    go_end0
    exact ⟨rfl,HR.o⟩
theorem ic {lo X:Nat} {b nm:List Nat} {ver:Int} {hs:List (List Nat)} {M:Nat→Prop} {w:World} {x:Value} (p:Nat) (v:Vd) (m:Md) (k:K) (hT:AtT w p v m k) (hk:v.kind=3) (hv:vOk v) (hS:Ws lo X b ver hs M w) (hxM:∀ W,Fr M w W→Su.Has W x nm) (hl:b.length+nm.length+200≤16777216):
  Calls Tryz.prog 57 #[.pointer (some ⟨X,0,none⟩),x,.pointer (some ⟨p,0,none⟩)] w fun e w'=>e=.returned (.tuple #[])∧PoW lo X (b++([3]++(nm++(encN v.size.toNat++v.sum)))) ver hs M w w':=by
 have CV:=ym p v m k w hT
 have HX:Hid ((vx v).toArray.size=35∧(vx v).toArray.all (·.oneCell')=true∧(vx v).toArray[0]?=some (.int .i64 v.kind)):=⟨by simp [je],xC v,aY v⟩
 rw [hk] at HX
 have HH:=hid (⟨hS,hv,hl,hxM⟩:_∧_∧_∧_)
 have HC:Hid (∀ (b':List Nat) (M':Nat→Prop) (W:World),Ws lo X b' ver hs M' W→b'.length+64≤16777216→Calls Tryz.prog 87 #[.pointer (some ⟨X,0,none⟩),.agg (vx v).toArray] W fun e w'=>e=.returned (.tuple #[])∧PoW lo X (b'++(encN v.size.toNat++v.sum)) ver hs M' W w'):=fun b' M' W h1 h2=>xy v hv.2.1 h1 h2
 generalize encN v.size.toNat++v.sum=cb at *
 generalize (vx v).toArray=XV at *
 clear hT hk hv hS hxM hl
 go_enter Tryz.func57,Tryz.ntmps57
 go_upto_region 1 with (first
  | (go_at_call 19;refine CV.mono ?_;rintro e w2 ⟨rfl,hg2⟩;have HG2:=hid hg2;clear hg2 CV;obtain ⟨B5,hB5⟩:∃ B5,w2.heap.size=B5:=⟨_,rfl⟩)
  | ((with_reducible refine jF (.pointer (some ⟨B5,0,none⟩)) (w2.alloc (.cells z24 24)) ?_ ?_);exact jG 24 z24 rfl dv _ _ hB5)
  | ((with_reducible refine jC ((w2.alloc (.cells z24 24)).setRow B5 XV) ?_ ?_);exact jL 24 _ _ rfl B5 XV z24 rfl rfl _ (by rw [← hB5];exact World.alloc_heap_new w2 _) (by rw [il,HX.o.1]) (by rw [zr,HX.o.1]) HX.o.2.1))
 try simp only [Act.put,sA,sB,sC]
 have N4:=qX w2 24 z24 XV
 rw [hB5] at N4
 generalize (w2.alloc (.cells z24 24)).setRow B5 XV=w4 at *
 have H4:Hid (G w w4∧w4.heap[B5]?=some (.cells XV 24 (0,0))∧w.heap.size≤B5∧¬ M B5):=by
  have hz:=HG2.o.size
  refine ⟨HG2.o.trans N4.1,N4.2.1,by omega,fun h=>?_⟩
  obtain ⟨u,vh,hW,hM⟩:=HH.o.1
  rw [hM] at h
  have:=(hW.lt.2 B5 h).2
  omega
 clear N4 HG2 hB5
 have q0:=jB (jD H4.o.2.1) 0 _ HX.o.2.2
 obtain ⟨B6,hB6⟩:∃ B6,w4.heap.size=B6:=⟨_,rfl⟩
 go_upto_region 2 with (go_at_call 55;refine (qk (t:=[3]) ((HH.o.1.keep H4.o.1).keep (G.alloc w4 (.cells #[Su.vb 3] 5))) (by have:=(zq w4 3).has;rw [hB6] at this;exact this) (by have:=HH.o.2.2.1;simp only [lC,lN];omega)).mono ?_;rintro e w5 ⟨rfl,h5⟩;have H5:=hid h5;clear h5)
 try simp only [Act.put,sA,sB,sC]
 obtain ⟨M5,s5,m5,f5⟩:=H5.o
 have l5:B5<w4.heap.size:=(gS H4.o.2.1)
 have F5:Fr M w w5:=(Fr.of_G (H4.o.1.trans (G.alloc _ _))).trans (fun c h=>.inl h) f5
 have n5:¬ M5 B5:=fun h=>(m5 B5 h).elim H4.o.2.2.2 fun h=>by rw [World.size_alloc] at h;omega
 have h5B:w5.heap[B5]?=some (.cells XV 24 (0,0)):=(f5.same B5 (by rw [World.size_alloc];omega) H4.o.2.2.2).trans (((G.alloc w4 _).block B5 l5).trans H4.o.2.1)
 have x5:=HH.o.2.2.2 w5 F5
 have M5w:∀ c,M5 c→M c∨w.heap.size≤c:=fun c h=>(m5 c h).imp id fun h=>by have:=H4.o.1.size;rw [World.size_alloc] at h;omega
 have H6:=hid (⟨s5,x5,n5,h5B,F5,M5w⟩:_∧_∧_∧_∧_∧_)
 clear s5 m5 f5 F5 n5 h5B x5 l5 q0 H5 M5w
 go_upto_region 3 with (go_at_call 55;refine (qk H6.o.1 H6.o.2.1 (by have:=HH.o.2.2.1;simp only [lA,lC,lN];omega)).mono ?_;rintro e w6 ⟨rfl,h6⟩;have H7:=hid h6;clear h6)
 try simp only [Act.put,sA,sB,sC]
 obtain ⟨M6,s6,m6,f6⟩:=H7.o
 have l6:B5<w5.heap.size:=(gS H6.o.2.2.2.1)
 have h6B:w6.heap[B5]?=some (.cells XV 24 (0,0)):=(f6.same B5 l6 H6.o.2.2.1).trans H6.o.2.2.2.1
 have q6:=jB (jD h6B) 0 _ HX.o.2.2
 have H8:=hid (⟨s6,m6,f6,h6B⟩:_∧_∧_∧_)
 clear s6 m6 f6 h6B l6 H7
 go_wp2_with (first
  | ((with_reducible refine jA (.agg XV) ?_ ?_);exact jJ _ rfl B5 0 rfl XV HX.o.1 (jD H8.o.2.2.2))
  | (go_at_call 87;refine (HC.o _ _ w6 H8.o.1 (by have:=HH.o.2.2.1;simp only [lA,lC,lN];omega)).mono ?_;rintro e w7 ⟨rfl,h7⟩;have H9:=hid h7;clear h7))
 go_end0
 refine ⟨rfl,?_⟩
 obtain ⟨M7,s7,m7,f7⟩:=H9.o
 obtain ⟨_,m6,f6,_⟩:=H8.o
 obtain ⟨_,_,_,_,F5,M5w⟩:=H6.o
 have M6w:∀ c,M6 c→M c∨w.heap.size≤c:=fun c h=>(m6 c h).elim (M5w c) fun h=>.inr (Nat.le_trans F5.size h)
 have F6:Fr M w w6:=F5.trans M5w f6
 exact ⟨M7,by simpa using s7,fun c h=>(m7 c h).elim (M6w c) fun h=>.inr (Nat.le_trans F6.size h),F6.trans M6w f7⟩
theorem ie {lo X:Nat} {b nm:List Nat} {ver:Int} {hs:List (List Nat)} {M:Nat→Prop} {w:World} {x:Value} (p:Nat) (v:Vd) (m:Md) (k:K) (hT:AtT w p v m k) (hk:v.kind=2) (hv:vOk v) (hS:Ws lo X b ver hs M w) (hxM:∀ W,Fr M w W→Su.Has W x nm) (hTM:∀ W,Fr M w W→AtT W p v m k) (hmd:0≤v.mode∧v.mode<256) (hm:mOk m) (hl:b.length+nm.length+200≤16777216):
  Calls Tryz.prog 57 #[.pointer (some ⟨X,0,none⟩),x,.pointer (some ⟨p,0,none⟩)] w fun e w'=>e=.returned (.tuple #[])∧PoW lo X (b++([2]++(nm++((encN v.size.toNat++v.sum)++((if 2≤ver then [v.mode.toNat] else [])++(if ver<3 then [] else mkB m 2)))))) ver hs M w w':=by
 have CV:=ym p v m k w hT
 have HX:Hid ((vx v).toArray.size=35∧(vx v).toArray.all (·.oneCell')=true∧(vx v).toArray[0]?=some (.int .i64 v.kind)):=⟨by simp [je],xC v,aY v⟩
 rw [hk] at HX
 have HH:=hid (⟨hS,hv,hl,hxM⟩:_∧_∧_∧_)
 have HC:Hid (∀ (b':List Nat) (M':Nat→Prop) (W:World),Ws lo X b' ver hs M' W→b'.length+64≤16777216→Calls Tryz.prog 87 #[.pointer (some ⟨X,0,none⟩),.agg (vx v).toArray] W fun e w'=>e=.returned (.tuple #[])∧PoW lo X (b'++(encN v.size.toNat++v.sum)) ver hs M' W w'):=fun b' M' W h1 h2=>xy v hv.2.1 h1 h2
 have HM:Hid (∀ (b':List Nat) (M':Nat→Prop) (W:World),Ws lo X b' ver hs M' W→b'.length+16≤16777216→Calls Tryz.prog 85 #[.pointer (some ⟨X,0,none⟩),.agg (vx v).toArray] W fun e w'=>e=.returned (.tuple #[])∧PoW lo X (b'++(if 2≤ver then [v.mode.toNat] else [])) ver hs M' W w'):=fun b' M' W h1 h2=>dm v hmd h1 h2
 have HK:Hid (∀ (b':List Nat) (M':Nat→Prop) (W:World),Fr M w W→Ws lo X b' ver hs M' W→b'.length+64≤16777216→Calls Tryz.prog 88 #[.pointer (some ⟨X,0,none⟩),.pointer (some ⟨p,0,none⟩)] W fun e w'=>e=.returned (.tuple #[])∧PoW lo X (b'++(if ver<3 then [] else mkB m 2)) ver hs M' W w'):=fun b' M' W h0 h1 h2=>ib p v m k (hTM W h0) hm h1 h2
 have HLc:Hid ((encN v.size.toNat++v.sum).length≤42∧(if 2≤ver then [v.mode.toNat] else []).length≤1):=⟨by have:=jT (n:=v.size.toNat) (by have:=hv.2.1;omega);simp only [lA,v.len];omega,by split<;>simp⟩
 generalize encN v.size.toNat++v.sum=cb at *
 generalize (if 2≤ver then [v.mode.toNat] else [])=mb at *
 generalize (if ver<3 then [] else mkB m 2)=kb at *
 generalize (vx v).toArray=XV at *
 clear hT hk hv hS hxM hl hTM hmd hm
 go_enter Tryz.func57,Tryz.ntmps57
 go_upto_region 1 with (first
  | (go_at_call 19;refine CV.mono ?_;rintro e w2 ⟨rfl,hg2⟩;have HG2:=hid hg2;clear hg2 CV;obtain ⟨B5,hB5⟩:∃ B5,w2.heap.size=B5:=⟨_,rfl⟩)
  | ((with_reducible refine jF (.pointer (some ⟨B5,0,none⟩)) (w2.alloc (.cells z24 24)) ?_ ?_);exact jG 24 z24 rfl dv _ _ hB5)
  | ((with_reducible refine jC ((w2.alloc (.cells z24 24)).setRow B5 XV) ?_ ?_);exact jL 24 _ _ rfl B5 XV z24 rfl rfl _ (by rw [← hB5];exact World.alloc_heap_new w2 _) (by rw [il,HX.o.1]) (by rw [zr,HX.o.1]) HX.o.2.1))
 try simp only [Act.put,sA,sB,sC]
 have N4:=qX w2 24 z24 XV
 rw [hB5] at N4
 generalize (w2.alloc (.cells z24 24)).setRow B5 XV=w4 at *
 have H4:Hid (G w w4∧w4.heap[B5]?=some (.cells XV 24 (0,0))∧w.heap.size≤B5∧¬ M B5):=by
  have hz:=HG2.o.size
  refine ⟨HG2.o.trans N4.1,N4.2.1,by omega,fun h=>?_⟩
  obtain ⟨u,vh,hW,hM⟩:=HH.o.1
  rw [hM] at h
  have:=(hW.lt.2 B5 h).2
  omega
 clear N4 HG2 hB5
 have q0:=jB (jD H4.o.2.1) 0 _ HX.o.2.2
 obtain ⟨B6,hB6⟩:∃ B6,w4.heap.size=B6:=⟨_,rfl⟩
 go_upto_region 2 with (go_at_call 55;refine (qk (t:=[2]) ((HH.o.1.keep H4.o.1).keep (G.alloc w4 (.cells #[Su.vb 2] 5))) (by have:=(zq w4 2).has;rw [hB6] at this;exact this) (by have:=HH.o.2.2.1;simp only [lC,lN];omega)).mono ?_;rintro e w5 ⟨rfl,h5⟩;have H5:=hid h5;clear h5)
 try simp only [Act.put,sA,sB,sC]
 obtain ⟨M5,s5,m5,f5⟩:=H5.o
 have l5:B5<w4.heap.size:=(gS H4.o.2.1)
 have F5:Fr M w w5:=(Fr.of_G (H4.o.1.trans (G.alloc _ _))).trans (fun c h=>.inl h) f5
 have n5:¬ M5 B5:=fun h=>(m5 B5 h).elim H4.o.2.2.2 fun h=>by rw [World.size_alloc] at h;omega
 have h5B:w5.heap[B5]?=some (.cells XV 24 (0,0)):=(f5.same B5 (by rw [World.size_alloc];omega) H4.o.2.2.2).trans (((G.alloc w4 _).block B5 l5).trans H4.o.2.1)
 have x5:=HH.o.2.2.2 w5 F5
 have M5w:∀ c,M5 c→M c∨w.heap.size≤c:=fun c h=>(m5 c h).imp id fun h=>by have:=H4.o.1.size;rw [World.size_alloc] at h;omega
 have H6:=hid (⟨s5,x5,n5,h5B,F5,M5w⟩:_∧_∧_∧_∧_∧_)
 clear s5 m5 f5 F5 n5 h5B x5 l5 q0 H5 M5w
 go_upto_region 3 with (go_at_call 55;refine (qk H6.o.1 H6.o.2.1 (by have:=HH.o.2.2.1;simp only [lA,lC,lN];omega)).mono ?_;rintro e w6 ⟨rfl,h6⟩;have H7:=hid h6;clear h6)
 try simp only [Act.put,sA,sB,sC]
 obtain ⟨M6,s6,m6,f6⟩:=H7.o
 have l6:B5<w5.heap.size:=(gS H6.o.2.2.2.1)
 have h6B:w6.heap[B5]?=some (.cells XV 24 (0,0)):=(f6.same B5 l6 H6.o.2.2.1).trans H6.o.2.2.2.1
 have q6:=jB (jD h6B) 0 _ HX.o.2.2
 have H8:=hid (⟨s6,m6,f6,h6B⟩:_∧_∧_∧_)
 clear s6 m6 f6 h6B l6 H7
 obtain ⟨_,m6,f6,_⟩:=H8.o
 obtain ⟨_,_,n5,_,F5,M5w⟩:=H6.o
 have M6w:∀ c,M6 c→M c∨w.heap.size≤c:=fun c h=>(m6 c h).elim (M5w c) fun h=>.inr (Nat.le_trans F5.size h)
 have F6:Fr M w w6:=F5.trans M5w f6
 have l5:B5<w5.heap.size:=(gS H6.o.2.2.2.1)
 have n6:¬ M6 B5:=fun h=>(m6 B5 h).elim n5 fun h=>by omega
 have H8':=hid (⟨M6w,F6,n6⟩:_∧_∧_)
 clear m6 f6 n5 F5 M5w M6w F6 n6 l5
 go_upto_region 9 with (first
  | ((with_reducible refine jA (.agg XV) ?_ ?_);exact jJ _ rfl B5 0 rfl XV HX.o.1 (jD H8.o.2.2.2))
  | (go_at_call 87;refine (HC.o _ _ w6 H8.o.1 (by have:=HH.o.2.2.1;simp only [lA,lC,lN];omega)).mono ?_;rintro e w7 ⟨rfl,h7⟩;have H9:=hid h7;clear h7))
 try simp only [Act.put,sA,sB,sC]
 obtain ⟨M7,s7,m7,f7⟩:=H9.o
 have l6:B5<w6.heap.size:=(gS H8.o.2.2.2)
 have h7B:w7.heap[B5]?=some (.cells XV 24 (0,0)):=(f7.same B5 l6 H8'.o.2.2).trans H8.o.2.2.2
 have M7w:∀ c,M7 c→M c∨w.heap.size≤c:=fun c h=>(m7 c h).elim (H8'.o.1 c) fun h=>.inr (Nat.le_trans H8'.o.2.1.size h)
 have F7:Fr M w w7:=H8'.o.2.1.trans H8'.o.1 f7
 have H10:=hid (⟨s7,M7w,F7,h7B⟩:_∧_∧_∧_)
 clear s7 m7 f7 h7B l6 M7w F7 H9
 go_wp2_with (first
  | ((with_reducible refine jA (.agg XV) ?_ ?_);exact jJ _ rfl B5 0 rfl XV HX.o.1 (jD H10.o.2.2.2))
  | (go_at_call 85;refine (HM.o _ _ w7 H10.o.1 (by have:=HH.o.2.2.1;have:=HLc.o;simp only [lA,lC,lN];omega)).mono ?_;rintro e w8 ⟨rfl,M8,s8,m8,f8⟩;have H11:=hid (⟨s8,(fun c h=>(m8 c h).elim (H10.o.2.1 c) fun h=>.inr (Nat.le_trans H10.o.2.2.1.size h):∀ c,M8 c→M c∨w.heap.size≤c),H10.o.2.2.1.trans H10.o.2.1 f8⟩:_∧_∧_);clear s8 m8 f8)
  | (go_at_call 88;refine (HK.o _ _ w8 H11.o.2.2 H11.o.1 (by have:=HH.o.2.2.1;have:=HLc.o;simp only [lA,lC,lN];omega)).mono ?_;rintro e w9 ⟨rfl,h9⟩;have H12:=hid h9;clear h9))
 go_end0
 refine ⟨rfl,?_⟩
 obtain ⟨M9,s9,m9,f9⟩:=H12.o
 obtain ⟨_,M8w,F8⟩:=H11.o
 exact ⟨M9,by simpa using s9,fun c h=>(m9 c h).elim (M8w c) fun h=>.inr (Nat.le_trans F8.size h),F8.trans M8w f9⟩
end Go.Proofs.YtjikkhbcbfpocaaGreatDoor
namespace Go.Proofs.YtjikkhbcbfpocaaGreatDoor
open Go.RowKit Go.Shelf
def modB (ver:Int) (v:Vd):List Nat:=if 2≤ver then [v.mode.toNat] else []
def marB (ver:Int) (m:Md):List Nat:=if ver<3 then [] else mkB m 2
def conB (v:Vd):List Nat:=encN v.size.toNat++v.sum
def oneB (ver:Int) (nm:List Nat) (v:Vd) (m:Md) (count:Nat) (h ks:List Nat):List Nat:=
 if v.kind=1 then [1]++(nm++(modB ver v++(encN count++(h++ks)))) else if v.kind=2 then [2]++(nm++(conB v++(modB ver v++marB ver m))) else [3]++(nm++conB v)
def namB (nm:ByteArray):List Nat:=encN nm.size++strN nm
def encF (ver:Int):F→List Nat
 | .nil=>[]
 | .cons nm v m ks r=>oneB ver (namB nm) v m ks.len (jt v ks).1 (encF ver ks)++encF ver r
def encT (ver:Int) (nm:List Nat) (v:Vd) (m:Md) (ks:F):List Nat:=oneB ver nm v m ks.len (jt v ks).1 (encF ver ks)
theorem zV (ver:Int) (nm:ByteArray) (v:Vd) (m:Md) (ks r:F):encF ver (.cons nm v m ks r)=encT ver (namB nm) v m ks++encF ver r:=rfl
theorem mC (ver:Int):∀ f g:F,encF ver (f.app g)=encF ver f++encF ver g
 | .nil,g=>rfl
 | .cons nm v m ks r,g=>by rw [F.app,zV,zV,mC ver r g,List.append_assoc]
def dirF (f:F):List (List Nat):=dirs (kr f).2
def dirT (v:Vd) (ks:F):List (List Nat):=dirs (jt v ks).2
theorem xQ (a b:List (List Nat)):dirs (a++b)=dirs a++dirs b:=by unfold dirs;rw [List.filter_append,List.map_append]
theorem gD {ts:List (List Nat)} (h:∀ t∈ts,t.getD 0 0≠68):dirs ts=[]:=by
 unfold dirs
 rw [List.filter_eq_nil_iff.2 (fun t ht=>by simpa only [beq_iff_eq] using h t ht)]
 rfl
theorem ee:∀ (n:Nat) (l:List (ByteArray × List Nat)),l.length≤n→∀ t∈(topT l).2,t.getD 0 0≠68
 | _,[],_,t,h=>by rw [topT] at h;cases h
 | _,[x],_,t,h=>by
  rw [topT] at h
  simp only [List.mem_singleton] at h
  subst h
  simp [zK]
 | 0,x::y::r,hn,t,h=>by simp at hn
 | n+1,x::y::r,hn,t,h=>by
  have hh:=ae (n:=(x::y::r).length) (by simp)
  rw [topT] at h
  simp only [List.mem_append,List.mem_singleton] at h
  rcases h with h | h | h
  ·exact ee n _ (by rw [List.length_take];omega) t h
  ·exact ee n _ (by rw [List.length_drop];omega) t h
  ·subst h;simp [yM]
theorem mD {v:Vd} (h:v.kind=1) (ks:F):dirT v ks=dirF ks++[(jt v ks).1]:=by
 unfold dirT dirF jt
 rw [if_pos h]
 simp only
 rw [xQ,xQ,gD (ee _ _ (Nat.le_refl _)),List.nil_append]
 congr 1
 have e:(ownT v (kr ks).1.length (topT (kr ks).1).1).getD 0 0=68:=by
  unfold ownT
  rw [if_neg (by omega),if_neg (by omega)];rfl
 unfold dirs
 rw [List.filter_cons_of_pos (by simp only [e,beq_self_eq_true])]
 rfl
theorem xw {v:Vd} (h:v.kind≠1) (ks:F) (hk:v.kind=2∨v.kind=3):dirT v ks=[]:=by
 unfold dirT jt
 rw [if_neg h]
 refine gD fun t ht=>?_
 simp only [List.mem_singleton] at ht
 subst ht
 unfold ownT
 rcases hk with hk | hk
 ·rw [if_pos hk];simp
 ·rw [if_neg (by omega),if_pos hk];simp
theorem xx (nm:ByteArray) (v:Vd) (m:Md) (ks r:F):dirF (.cons nm v m ks r)=dirT v ks++dirF r:=by
 unfold dirF dirT
 rw [yF,xQ]
theorem mF:∀ f g:F,dirF (f.app g)=dirF f++dirF g
 | .nil,g=>rfl
 | .cons nm v m ks r,g=>by rw [F.app,xx,xx,mF r g,List.append_assoc]
def encI (ver:Int) (l:List Kid):List Nat:=(l.map fun x=>encT ver (namB x.nm) x.v x.m x.k.flat).flatten
def dirI (l:List Kid):List (List Nat):=(l.map fun x=>dirT x.v x.k.flat).flatten
theorem zp (ver:Int):∀ k:K,encI ver k.items=encF ver k.flat
 | .nil=>rfl
 | .node q p nm v m kids ah be=>by
  have h1:=zp ver ah
  have h2:=zp ver be
  unfold encI at h1 h2 ⊢
  rw [K.items,K.flat,mC,zV,List.map_append,List.flatten_append,h1,List.map_cons,List.flatten_cons,h2]
theorem aX:∀ k:K,dirI k.items=dirF k.flat
 | .nil=>rfl
 | .node q p nm v m kids ah be=>by
  have h1:=aX ah
  have h2:=aX be
  unfold dirI at h1 h2 ⊢
  rw [K.items,K.flat,mF,xx,List.map_append,List.flatten_append,h1,List.map_cons,List.flatten_cons,h2]
theorem pS (ver:Int) (l:List Kid) (x:Kid):encI ver (l++[x])=encI ver l++encT ver (namB x.nm) x.v x.m x.k.flat:=by simp [encI]
attribute [local go_sem] Oper.semAt_some
theorem StR.at {w:World} {M:Nat→Prop}:∀ {st:List Stp} {xs:List Value},StR w M st xs→∀ (j:Nat) (hj:j<st.length),∃ b,(∀ i u,(stc b st[j])[i]?=some u→xs[j*34+i]?=some u)∧st[j].hash.length=32∧st[j].names.length≤64∧(∀ x∈st[j].names,x.size≤255)∧Spot w M st[j].names b
 | [],_,_,j,hj=>by cases hj
 | s::r,xs,⟨b,xs',h1,h2,h3,h4,h5,h6⟩,0,_=>by
  refine ⟨b,fun i u hi=>?_,h2,h3,h4,h5⟩
  have hl:i<(stc b s).length:=(List.getElem?_eq_some_iff.1 hi).1
  rw [h1,Nat.zero_mul,Nat.zero_add,List.getElem?_append_left hl]
  exact hi
 | s::r,xs,⟨b,xs',h1,h2,h3,h4,h5,h6⟩,j+1,hj=>by
  obtain ⟨b',q1,q2⟩:=StR.at h6 j (by simpa using hj)
  refine ⟨b',fun i u hi=>?_,q2⟩
  have hl:(stc b s).length=34:=by simp [stc,h2]
  rw [h1,List.getElem?_append_right (by omega),hl,show (j+1)*34+i-34=j*34+i by omega]
  exact q1 i u hi
theorem oa:∀ (hs:List (List Nat)),(∀ h∈hs,h.length=32)→∀ (j:Nat) (hj:j<hs.length) (i:Nat) (u:Value),(hs[j].map Su.vb)[i]?=some u→(hrow hs)[j*32+i]?=some u
 | [],_,j,hj,_,_,_=>by cases hj
 | h::hs,hh,0,_,i,u,hi=>by
  have hl:i<(h.map Su.vb).length:=(List.getElem?_eq_some_iff.1 hi).1
  unfold hrow
  rw [List.map_cons,List.flatten_cons,Nat.zero_mul,Nat.zero_add,List.getElem?_append_left hl]
  exact hi
 | h::hs,hh,j+1,hj,i,u,hi=>by
  have q:=oa hs (fun x hx=>hh x (by simp [hx])) j (by simpa using hj) i u hi
  have hl:(h.map Su.vb).length=32:=by rw [List.length_map];exact hh h (by simp)
  unfold hrow at q ⊢
  rw [List.map_cons,List.flatten_cons,List.getElem?_append_right (by omega),hl,show (j+1)*32+i-32=j*32+i by omega]
  exact q
theorem vE (ts:List (List Nat)):∀ h∈dirs ts,h.length=32:=fun h hh=>by
 unfold dirs at hh
 obtain ⟨t,_,rfl⟩:=List.mem_map.1 hh
 exact qg t
theorem xJ {o:Oper} {a:Act} (x y:Operand) (ho:o.op=.binOp .neq 22 x y 22) (X Y:Array Value) (hx:a.eval x=.agg X) (hy:a.eval y=.agg Y) (l m:List Nat) (hX:X=(l.map vb).toArray) (hY:Y=(m.map vb).toArray) (hl:l.length=32) (hm:m.length=32) (b:Bool) (hb:(!decide (l=m))=b) (w:World):
  (execOp a.eval o).run Tryz.prog w=.ok (.value (.bool b)) w:=by
 subst hX hY
 have h':(Op.equal 22 (.agg (l.map vb).toArray) (.agg (m.map vb).toArray)).run Tryz.prog w=.ok (decide (l=m)) w:=eq22 9998 l m hl hm w
 have hg:Tryz.prog.eqGuardType Tryz.prog.depth 22=false:=by kernel_rfl
 unfold execOp
 simp only [ho,hx,hy,eqGuard,binOp,Sem.run_bind]
 simp [Result.andThen,hg,h',hb]
def FstP (st:List Stp) (hs:List (List Nat)) (g k:Nat) (fp:Value):Prop:=
 (fp=.pointer none∧∀ j,j<k→(st.map (·.hash))[j]?=hs[j]?)∨(∃ (j:Nat) (_:j<st.length),j<k∧fp=.pointer (some ⟨g,j*34,none⟩)∧(st.map (·.hash))[j]?≠hs[j]?)
def WrongP (st:List Stp) (hs:List (List Nat)) (e:Ending) (w':World):Prop:=
 (st.map (·.hash)=hs∧e=.returned (.pointer none))∨(st.map (·.hash)≠hs∧∃ s∈st,∃ fb pt,e=.returned (.pointer (some ⟨fb,0,none⟩))∧w'.heap[fb]?=some (.cells #[.int .i64 (s.pl:Int),.string pt,.int .i64 65] 93 (0,0)))
theorem eN {c:Rp} {r:Rv} {M:Nat→Prop} {w:World} (hS:Rs c r M w) (p:Nat) (v:Vd) (m:Md) (k:K) (hA:AtT w p v m k) (hv:vOk v) (hf:fOk k.flat) (hsz:k.flat.size≤100000) (hT:Su.Tabs w) (hlen:r.st.length=(dirT v k.flat).length) (hlb:r.st.length≤100000000):
  Calls Tryz.prog 37 #[.pointer (some ⟨c.X,0,none⟩),.pointer (some ⟨p,0,none⟩)] w fun e w'=>G w w'∧WrongP r.st (dirT v k.flat) e w':=by
 obtain ⟨fpp,sv,xs,hRo⟩:=hS
 have CH:=aw p v m k w hA hv hf hsz hT
 have h32:∀ h∈dirT v k.flat,h.length=32:=vE _
 rw [show dirs (jt v k.flat).2=dirT v k.flat from rfl] at CH
 generalize dirT v k.flat=hs at *
 obtain ⟨Z,hZ⟩:∃ Z,hs.length=Z:=⟨_,rfl⟩
 rw [hZ] at CH
 have hZs:r.st.length=Z:=by omega
 have hZb:(Z:Int)≤100000000:=by omega
 have q4:=jB hRo.lies 4 _ rfl
 obtain ⟨sa,sc,hsv⟩:=kO hRo.ow
 subst hsv
 rw [hZs] at q4
 obtain ⟨g,hg0⟩:∃ g,0<Z→sa=some ⟨g,0,none⟩:=by
  obtain ⟨_,⟨e,h0⟩ | ⟨g',cp,cur,rv,_⟩⟩:=hRo.ow
  ·exact ⟨0,fun h=>by omega⟩
  ·injection rv with e1
   exact ⟨g',fun _=>e1⟩
 have HH:=hid (⟨hRo,h32,hZ,hZs,hg0⟩:_∧_∧_∧_∧_)
 have y22:=jx
 have y128:=li
 clear hA hv hf hsz hT hlen hRo h32 hZ hZs hg0 hlb
 go_enter Tryz.func37,Tryz.ntmps37
 go_wp2_with (go_at_call 54;refine CH.mono ?_;rintro e w1 ⟨u,rfl,ho,hg⟩;obtain ⟨ua,uc,hu⟩:=kO ho;subst hu;have HU:=hid (⟨ho,hg⟩:_∧_);clear ho hg CH)
 obtain ⟨gh,hgh⟩:∃ gh,0<Z→ua=some ⟨gh,0,none⟩:=by
  obtain ⟨_,⟨e,h0⟩ | ⟨g',cp,cur,rv,_⟩⟩:=HU.o.1
  ·exact ⟨0,fun h=>by omega⟩
  ·injection rv with e1
   exact ⟨g',fun _=>e1⟩
 have HGH:=hid hgh
 clear hgh
 go_loopw [5,12] (fun fp i wr=>∃ (j:Nat),i=.int .i64 j∧j≤Z∧Hid (G w1 wr∧FstP r.st hs g j fp)) (fun _ i _=>Z-iOf i)
 case atStart=>exact ⟨0,rfl,Nat.zero_le _,G.refl _,.inl ⟨rfl,fun j h=>absurd h (Nat.not_lt_zero _)⟩⟩
 case round=>
  obtain ⟨j,rfl,hj,HI⟩:=hrel
  by_cases hlt:j<Z
  ·have hltI:(j:Int)<(Z:Int):=by omega
   have hsa:=HH.o.2.2.2.2 (by omega)
   have hua:=HGH.o (by omega)
   subst hsa hua
   have hjs:j<r.st.length:=by rw [HH.o.2.2.2.1];exact hlt
   have hjh:j<hs.length:=by rw [HH.o.2.2.1];exact hlt
   obtain ⟨sb,hst,s32,sn,sx,ssp⟩:=HH.o.1.st.at j hjs
   have hGw:G w wr:=G.trans HU.o.2 HI.o.1
   have q4r:=hGw.cell q4
   have hLs:Lies wr g (j*34) (stc sb r.st[j]).toArray:=fun i u hi=>by
    have h1:=World.ownsRow.cells HH.o.1.ow (g:=g) rfl (j*34+i) u (hst i u (by simpa using hi))
    rw [Addr.add_mid,Nat.zero_add] at h1
    exact hGw.cell h1
   obtain ⟨SH,hSH⟩:∃ SH,(r.st[j].hash.map vb).toArray=SH:=⟨_,rfl⟩
   have hL2:Lies wr g (j*34+2) SH:=fun i u hi=>by
    have h1:=hLs (2+i) u (by rw [← hSH] at hi;simp only [stc,List.getElem?_toArray] at hi ⊢;rw [show 2+i=i+1+1 by omega];exact hi)
    rw [← Nat.add_assoc] at h1
    exact h1
   have qa:wr.cell? ⟨g,j*34+1,none⟩=some (.int .i64 (r.st[j].pl:Int)):=hLs 1 _ rfl
   obtain ⟨HJ,hHJ⟩:∃ HJ,(hs[j].map vb).toArray=HJ:=⟨_,rfl⟩
   have hLh:Lies wr gh (j*32) HJ:=fun i u hi=>by
    have h1:=World.ownsRow.cells HU.o.1 (g:=gh) rfl (j*32+i) u (oa hs HH.o.2.1 j hjh i u (by rw [← hHJ,List.getElem?_toArray] at hi;exact hi))
    rw [Addr.add_mid,Nat.zero_add] at h1
    exact HI.o.1.cell h1
   have hj32:hs[j].length=32:=HH.o.2.1 _ (List.getElem_mem hjh)
   have hHs:HJ.size=32:=by rw [← hHJ];simpa using hj32
   have hH1:HJ.all (·.oneCell')=true:=by rw [← hHJ];exact kV _
   have hSs:SH.size=32:=by rw [← hSH];simpa using s32
   obtain ⟨D,hD⟩:∃ D,wr.heap.size=D:=⟨_,rfl⟩
   have hnv:=qX wr 22 z22 HJ
   rw [hD] at hnv
   have HV:=hid (⟨hLh,hHs,hH1,hnv⟩:_∧_∧_∧_)
   have hget:(r.st.map (·.hash))[j]?=some r.st[j].hash∧hs[j]?=some hs[j]:=⟨by simp [hjs],by simp [hjh]⟩
   have HSX:=hid (⟨hL2,hSs,hSH.symm,hHJ.symm,s32,hj32,hget,hjs⟩:_∧_∧_∧_∧_∧_∧_∧_)
   clear hst sn sx ssp hLs hL2 hLh hHs hH1 hnv hSs hSH hHJ s32 hj32
   go_upto_region 5 with (first
    | ((with_reducible refine jA (.agg HJ) ?_ ?_);exact qn _ rfl gh (j*32) rfl HJ HV.o.2.1 HV.o.1)
    | ((with_reducible refine jF (.pointer (some ⟨D,0,none⟩)) (wr.alloc (.cells z22 22)) ?_ ?_);exact jG 22 z22 rfl qm _ _ hD)
    | ((with_reducible refine jC ((wr.alloc (.cells z22 22)).setRow D HJ) ?_ ?_);exact jL 22 _ _ rfl D HJ z22 rfl rfl _ (by rw [← hD];exact World.alloc_heap_new wr _) (by rw [jx,HV.o.2.1]) (by rw [HV.o.2.1];rfl) HV.o.2.2.1))
   have q4s:=HV.o.2.2.2.1.cell q4r
   have qas:=HV.o.2.2.2.1.cell qa
   have HW0:=hid (⟨HV.o.2.2.2.1,jD HV.o.2.2.2.2.1,HV.o.2.2.2.1.lies HSX.o.1,HV.o.2.1⟩:_∧_∧_∧_)
   clear HV
   generalize (wr.alloc (.cells z22 22)).setRow D HJ=w2 at *
   clear hD qa q4r
   go_upto_region 6 with fail
   have HW:Hid (Lies w2.drew g (j*34+2) SH∧Lies w2.drew D 0 HJ∧True∧SH.size=32∧HJ.size=32∧SH=(r.st[j].hash.map vb).toArray∧HJ=(hs[j].map vb).toArray∧r.st[j].hash.length=32∧hs[j].length=32):=⟨(G.drew w2).lies HW0.o.2.2.1,(G.drew w2).lies HW0.o.2.1,trivial,HSX.o.2.1,HW0.o.2.2.2,HSX.o.2.2.1,HSX.o.2.2.2.1,HSX.o.2.2.2.2.1,HSX.o.2.2.2.2.2.1⟩
   have qad:=(G.drew w2).cell qas
   have HGW:Hid (G w1 w2.drew):=G.trans HI.o.1 (G.trans HW0.o.1 (G.drew w2))
   have hFP:=HI.o.2
   refine qO ?_
   generalize w2.drew=w3 at *
   clear HW0 q4s qas HI
   by_cases heq:r.st[j].hash=hs[j]
   ·have hne:(!decide (r.st[j].hash=hs[j]))=false:=by simp [heq]
    have HFN:Hid (FstP r.st hs g (j+1) u5):=by
     rcases hFP with ⟨e,h⟩ | ⟨i,hi,h1,h2,h3⟩
     ·refine .inl ⟨e,fun i hi=>?_⟩
      rcases Nat.lt_or_ge i j with q | q
      ·exact h i q
      ·obtain rfl:i=j:=by omega
       rw [HSX.o.2.2.2.2.2.2.1.1,HSX.o.2.2.2.2.2.2.1.2,heq]
     ·exact .inr ⟨i,hi,by omega,h2,h3⟩
    clear hFP heq
    refine gG 0 23 (.pointer (some ⟨g,j*34,none⟩)) ?_
    refine gG 1 24 (.pointer (some ⟨g,j*34,none⟩)) ?_
    refine gG 2 25 (.pointer (some ⟨g,j*34+2,none⟩)) ?_
    refine qx 3 26 (.agg SH) (fun wz hz=>?_) ?_
    ·exact qn _ rfl g (j*34+2) rfl SH HW.o.2.2.2.1 (hz.lies HW.o.1)
    refine qx 4 27 (.agg HJ) (fun wz hz=>?_) ?_
    ·exact qn _ rfl D 0 rfl HJ HW.o.2.2.2.2.1 (hz.lies HW.o.2.1)
    refine qx 5 28 (.bool false) (fun wz hz=>?_) ?_
    ·exact xJ _ _ rfl SH HJ rfl rfl _ _ HW.o.2.2.2.2.2.1 HW.o.2.2.2.2.2.2.1 HW.o.2.2.2.2.2.2.2.1 HW.o.2.2.2.2.2.2.2.2 false hne _
    refine fG 6 29 (.bool false) ?_
    clear hne
    refine qu 7 30 ?_
    refine qu 8 31 ?_
    refine qu 9 32 ?_
    refine qu 10 33 ?_
    refine qu 11 34 ?_
    refine qu 12 35 ?_
    refine qu 13 36 ?_
    refine qu 14 37 ?_
    refine qu 15 38 ?_
    refine qu 16 39 ?_
    refine qu 17 40 ?_
    refine qu 18 41 ?_
    refine qu 19 42 ?_
    refine fG 20 43 (.bool false) ?_
    refine bL (by kernel_rfl) (fun w9 hg9=>?_)
    have HG9:=hid (G.trans HGW.o hg9)
    clear hg9
    go_wp2
    go_roundw
    case rel=>exact ⟨j+1,by go_num,by omega,HG9.o,HFN.o⟩
    case measure=>simp;omega
   ·have hne:(!decide (r.st[j].hash=hs[j]))=true:=by simp [heq]
    have hwr:(r.st.map (·.hash))[j]?≠hs[j]?:=by rw [HSX.o.2.2.2.2.2.2.1.1,HSX.o.2.2.2.2.2.2.1.2];exact fun e=>heq (by injection e)
    have HFJ:Hid (FstP r.st hs g (j+1) (.pointer (some ⟨g,j*34,none⟩))):=.inr ⟨j,HSX.o.2.2.2.2.2.2.2,by omega,rfl,hwr⟩
    clear heq hwr
    rcases hFP with ⟨rfl,_⟩ | ⟨i,hi,h1,rfl,h3⟩
    ·clear qad
     refine gG 0 23 (.pointer (some ⟨g,j*34,none⟩)) ?_
     refine gG 1 24 (.pointer (some ⟨g,j*34,none⟩)) ?_
     refine gG 2 25 (.pointer (some ⟨g,j*34+2,none⟩)) ?_
     refine qx 3 26 (.agg SH) (fun wz hz=>?_) ?_
     ·exact qn _ rfl g (j*34+2) rfl SH HW.o.2.2.2.1 (hz.lies HW.o.1)
     refine qx 4 27 (.agg HJ) (fun wz hz=>?_) ?_
     ·exact qn _ rfl D 0 rfl HJ HW.o.2.2.2.2.1 (hz.lies HW.o.2.1)
     refine qx 5 28 (.bool true) (fun wz hz=>?_) ?_
     ·exact xJ _ _ rfl SH HJ rfl rfl _ _ HW.o.2.2.2.2.2.1 HW.o.2.2.2.2.2.2.1 HW.o.2.2.2.2.2.2.2.1 HW.o.2.2.2.2.2.2.2.2 true hne _
     refine fG 6 29 (.bool true) ?_
     clear hne
     refine fG 7 30 (.pointer none) ?_
     refine gG 8 31 (.bool true) ?_
     refine fG 9 32 (.bool true) ?_
     refine qu 10 33 ?_
     refine qu 11 34 ?_
     refine qu 12 35 ?_
     refine qu 13 36 ?_
     refine qu 14 37 ?_
     refine qu 15 38 ?_
     refine qu 16 39 ?_
     refine qu 17 40 ?_
     refine qu 18 41 ?_
     refine fG 19 42 (.bool true) ?_
     refine fG 20 43 (.bool true) ?_
     refine bL (by kernel_rfl) (fun w9 hg9=>?_)
     have HG9:=hid (G.trans HGW.o hg9)
     clear hg9
     go_wp2
     go_roundw
     case rel=>exact ⟨j+1,by go_num,by omega,HG9.o,HFJ.o⟩
     case measure=>simp;omega
    ·have HFI:Hid (FstP r.st hs g (j+1) (.pointer (some ⟨g,i*34,none⟩))):=.inr ⟨i,hi,by omega,rfl,h3⟩
     have qi:w3.cell? ⟨g,i*34+1,none⟩=some (.int .i64 (r.st[i].pl:Int)):=by
      obtain ⟨sb2,hst2,_⟩:=HH.o.1.st.at i hi
      have h9:=World.ownsRow.cells HH.o.1.ow (g:=g) rfl (i*34+1) _ (hst2 1 _ rfl)
      rw [Addr.add_mid,Nat.zero_add] at h9
      exact (G.trans HU.o.2 HGW.o).cell h9
     obtain ⟨a1,ha1⟩:∃ a1:Nat,r.st[j].pl=a1:=⟨_,rfl⟩
     obtain ⟨a2,ha2⟩:∃ a2:Nat,r.st[i].pl=a2:=⟨_,rfl⟩
     rw [ha1] at qad
     rw [ha2] at qi
     clear ha1 ha2 h3 h1
     have HQ:=hid (⟨qad,qi⟩:_∧_)
     clear qad qi
     refine gG 0 23 (.pointer (some ⟨g,j*34,none⟩)) ?_
     refine gG 1 24 (.pointer (some ⟨g,j*34,none⟩)) ?_
     refine gG 2 25 (.pointer (some ⟨g,j*34+2,none⟩)) ?_
     refine qx 3 26 (.agg SH) (fun wz hz=>?_) ?_
     ·exact qn _ rfl g (j*34+2) rfl SH HW.o.2.2.2.1 (hz.lies HW.o.1)
     refine qx 4 27 (.agg HJ) (fun wz hz=>?_) ?_
     ·exact qn _ rfl D 0 rfl HJ HW.o.2.2.2.2.1 (hz.lies HW.o.2.1)
     refine qx 5 28 (.bool true) (fun wz hz=>?_) ?_
     ·exact xJ _ _ rfl SH HJ rfl rfl _ _ HW.o.2.2.2.2.2.1 HW.o.2.2.2.2.2.2.1 HW.o.2.2.2.2.2.2.2.1 HW.o.2.2.2.2.2.2.2.2 true hne _
     refine fG 6 29 (.bool true) ?_
     clear hne
     refine fG 7 30 (.pointer (some ⟨g,i*34,none⟩)) ?_
     refine gG 8 31 (.bool false) ?_
     refine fG 9 32 (.bool false) ?_
     refine fG 10 33 (.pointer (some ⟨g,j*34,none⟩)) ?_
     refine gG 11 34 (.pointer (some ⟨g,j*34,none⟩)) ?_
     refine gG 12 35 (.pointer (some ⟨g,j*34+1,none⟩)) ?_
     refine qx 13 36 (.int .i64 (a1:Int)) (fun wz hz=>?_) ?_
     ·have y:=hz.cell HQ.o.1;go_simp
     refine fG 14 37 (.pointer (some ⟨g,i*34,none⟩)) ?_
     refine gG 15 38 (.pointer (some ⟨g,i*34,none⟩)) ?_
     refine gG 16 39 (.pointer (some ⟨g,i*34+1,none⟩)) ?_
     refine qx 17 40 (.int .i64 (a2:Int)) (fun wz hz=>?_) ?_
     ·have y:=hz.cell HQ.o.2;go_simp
     refine gG 18 41 (.bool (decide ((a1:Int)<(a2:Int)))) ?_
     refine fG 19 42 (.bool (decide ((a1:Int)<(a2:Int)))) ?_
     refine fG 20 43 (.bool (decide ((a1:Int)<(a2:Int)))) ?_
     refine bL (by kernel_rfl) (fun w9 hg9=>?_)
     have HG9:=hid (G.trans HGW.o hg9)
     clear hg9
     by_cases hb:(a1:Int)<(a2:Int)
     ·rw [decide_eq_true hb]
      go_wp2
      go_roundw
      case rel=>exact ⟨j+1,by go_num,by omega,HG9.o,HFJ.o⟩
      case measure=>simp;omega
     ·rw [decide_eq_false hb]
      go_wp2
      go_roundw
      case rel=>exact ⟨j+1,by go_num,by omega,HG9.o,HFI.o⟩
      case measure=>simp;omega
  ·have hltI:¬ (j:Int)<(Z:Int):=by omega
   obtain rfl:j=Z:=by omega
   have hGw:G w wr:=G.trans HU.o.2 HI.o.1
   rcases HI.o.2 with ⟨rfl,h⟩ | ⟨i,hi,h1,rfl,h3⟩
   ·have hall:r.st.map (·.hash)=hs:=by
     refine List.ext_getElem? fun i=>?_
     rcases Nat.lt_or_ge i j with q | q
     ·exact h i q
     ·rw [List.getElem?_eq_none (by rw [List.length_map,HH.o.2.2.2.1];exact q),List.getElem?_eq_none (by rw [HH.o.2.2.1];exact q)]
    have HE:=hid (⟨hGw,hall⟩:_∧_)
    clear hGw hall h HI
    go_wp2
    go_ret
    exact ⟨HE.o.1,.inl ⟨HE.o.2,rfl⟩⟩
   ·obtain ⟨sb,hst,s32,sn,sx,ssp⟩:=HH.o.1.st.at i hi
    have qa:wr.cell? ⟨g,i*34+1,none⟩=some (.int .i64 (r.st[i].pl:Int)):=by
     have h9:=World.ownsRow.cells HH.o.1.ow (g:=g) (by rw [HH.o.2.2.2.2 (by omega)];rfl) (i*34+1) _ (hst 1 _ rfl)
     rw [Addr.add_mid,Nat.zero_add] at h9
     exact hGw.cell h9
    have qd:wr.cell? ⟨g,i*34,none⟩=some (.pointer (some ⟨sb,0,none⟩)):=by
     have h9:=World.ownsRow.cells HH.o.1.ow (g:=g) (by rw [HH.o.2.2.2.2 (by omega)];rfl) (i*34+0) _ (hst 0 _ rfl)
     rw [Addr.add_mid,Nat.zero_add] at h9
     exact hGw.cell h9
    have hbad:r.st.map (·.hash)≠hs:=fun e=>h3 (by rw [e])
    obtain ⟨a1,ha1⟩:∃ a1:Nat,r.st[i].pl=a1:=⟨_,rfl⟩
    rw [ha1] at qa
    have CP:Hid (∀ w4,G wr.drew w4→Calls Tryz.prog 70 #[.pointer (some ⟨sb,0,none⟩)] w4 fun e w'=>∃ s,e=.returned (.string s)∧G w4 w'):=fun w4 h4=>se (D:=M) r.st[i].names sb w4 (ssp.keep (fun _ q=>q) fun b cs _ hb=>(G.trans (G.trans hGw (G.drew wr)) h4).block b (gS hb)) sn sx
    have HE:=hid (⟨hGw,hbad,ha1,hi⟩:_∧_∧_∧_)
    clear hGw hbad ha1 h1 h3 hst s32 sn sx ssp HI
    go_upto_region 11 with fail
    refine qO ?_
    have qad:=(G.drew wr).cell qa
    have qdd:=(G.drew wr).cell qd
    have HGW:Hid (G wr wr.drew):=G.drew wr
    generalize wr.drew=w3 at *
    have HQ:=hid (⟨qad,qdd⟩:_∧_)
    clear qad qdd qa qd
    refine fG 0 48 (.pointer (some ⟨g,i*34,none⟩)) ?_
    refine gG 1 49 (.pointer (some ⟨g,i*34,none⟩)) ?_
    refine gG 2 50 (.pointer (some ⟨g,i*34+1,none⟩)) ?_
    refine qx 3 51 (.int .i64 (a1:Int)) (fun wz hz=>?_) ?_
    ·have y:=hz.cell HQ.o.1;go_simp
    refine fG 4 52 (.pointer (some ⟨g,i*34,none⟩)) ?_
    refine gG 5 53 (.pointer (some ⟨g,i*34,none⟩)) ?_
    refine gG 6 54 (.pointer (some ⟨g,i*34,none⟩)) ?_
    refine qx 7 55 (.pointer (some ⟨sb,0,none⟩)) (fun wz hz=>?_) ?_
    ·have y:=hz.cell HQ.o.2;go_simp
    have CP2:Hid (∀ w4,G w3 w4→Calls Tryz.prog 70 #[.pointer (some ⟨sb,0,none⟩)] w4 fun e w'=>∃ s,e=.returned (.string s)∧G w4 w'):=CP.o
    refine xo [8] (by kernel_rfl) (by simp) fun w4 hg4=>?_
    refine AllG.call 8 56 70 #[.pointer (some ⟨sb,0,none⟩)] rfl rfl (by kernel_rfl) (by go_simp) ((CP2.o w4 hg4).mono ?_) AllG.nil
    rintro e w5 ⟨pt,rfl,hg5⟩
    refine ⟨_,rfl,hg5,?_⟩
    have HG5:=hid (G.trans HGW.o (G.trans hg4 hg5))
    clear hg4 hg5 CP2
    try simp only [Act.put,sA,sB,sC]
    refine gG 9 57 (.agg #[.int .i64 (a1:Int),.string pt,.int .i64 65]) ?_
    refine xo [10] (by kernel_rfl) (by simp) fun w6 hg6=>?_
    refine AllG.value 10 58 (.pointer (some ⟨w6.heap.size,0,none⟩)) (w6.alloc (.cells #[.int .i64 (a1:Int),.string pt,.int .i64 65] 93)) rfl rfl (by kernel_rfl) (by go_simp) (G.alloc _ _) ?_ AllG.nil
    have HG6:=hid (G.trans HG5.o hg6)
    clear hg6
    obtain ⟨E6,hE6⟩:∃ E6,w6.heap.size=E6:=⟨_,rfl⟩
    have hb6:=World.alloc_heap_new w6 (.cells #[.int .i64 (a1:Int),.string pt,.int .i64 65] 93)
    rw [hE6] at hb6 ⊢
    have HB6:=hid (⟨hb6,G.trans HG6.o (G.alloc w6 (.cells #[.int .i64 (a1:Int),.string pt,.int .i64 65] 93))⟩:_∧_)
    clear hb6 hE6
    generalize w6.alloc (.cells #[.int .i64 (a1:Int),.string pt,.int .i64 65] 93)=w7 at *
    try simp only [Act.put,sA,sB,sC]
    refine gG 11 4 (.pointer (some ⟨E6,0,none⟩)) ?_
    refine bL (by kernel_rfl) (fun w9 hg9=>?_)
    have HG9:=hid hg9
    clear hg9
    go_wp2
    go_ret
    exact ⟨G.trans HE.o.1 (G.trans HB6.o.2 HG9.o),.inr ⟨HE.o.2.1,r.st[i],List.getElem_mem _,E6,pt,rfl,by rw [HE.o.2.2.1];exact (HG9.o.block E6 (gS HB6.o.1)).trans HB6.o.1⟩⟩
end Go.Proofs.YtjikkhbcbfpocaaGreatDoor
namespace Go.Proofs.YtjikkhbcbfpocaaGreatDoor
open Go.RowKit Go.Shelf
theorem slice109 (g o n cap:Nat) (h:1≤n) (wz:World):(Instr.sliceAt 109 (.slice (some ⟨g,o,none⟩) n cap) (some (.int .i64 1)) none none).run Tryz.prog wz=.ok (.slice (some (if cap=1 then ⟨g,o,none⟩ else ⟨g,o+32,none⟩)) (n-1) (cap-1)) wz:=by
 have h1:(Tryz.prog.info? 22).map (·.size)=some 32:=jx
 cases hq:Tryz.prog.info? 22 with
 | none=>simp [hq] at h1
 | some i=>
  have hs:i.size=32:=by simpa [hq] using h1
  have hmI:(1:Int)≤(n:Int):=by omega
  rw [run_sliceAt_slice _ 109 _ _ _ _ Tryz.underlying109]
  simp [Instr.slice,run_underlying Tryz.underlying109,Instr.sliceBounds,run_sliceBound,sizeOf,typeInfo,hq,hs,hmI,Result.andThen]
  split<;>simp_all [Addr.add]
theorem Wr.hash {lo X:Nat} {b h:List Nat} {ver:Int} {hs:List (List Nat)} {u vh:Value} {w:World} (hW:Wr lo X b ver (h::hs) u vh w) (hh:h.length=32):∃ g o n cap,vh=.slice (some ⟨g,o*32,none⟩) n cap∧1≤n∧n≤cap∧lo≤g∧HsAt w g o n cap (h::hs)∧∀ j v,(h.map Su.vb)[j]?=some v→w.cell? ⟨g,o*32+j,none⟩=some v:=by
 rcases hW.hv with ⟨_,_,_,e⟩ | ⟨g,o,n,cap,hv,hl,hA⟩
 ·cases e
 ·have hA0:=hA
  obtain ⟨h1,h2,cur,h3,h4,h5⟩:=hA
  have hn:1≤n:=by rw [← h1];simp
  refine ⟨g,o,n,cap,hv,hn,h2,hl,hA0,fun j v hj=>?_⟩
  have hj32:j<32:=by have:=(List.getElem?_eq_some_iff.1 hj).1;simpa [hh] using this
  have e1:(hrow (h::hs))[j]?=some v:=by
   show (h.map Su.vb++hrow hs)[j]?=_
   rw [List.getElem?_append_left (by simpa [hh] using hj32)];exact hj
  rw [← h4,List.getElem?_take,if_pos (by omega),List.getElem?_drop] at e1
  unfold World.cell?
  rw [h3]
  simpa using e1
theorem Wr.copied {lo X:Nat} {b z r h:List Nat} {ver:Int} {hs:List (List Nat)} {u vh:Value} {w:World} (hW:Wr lo X (b++(z++r)) ver (h::hs) u vh w) (hz:z.length=32) (hh:h.length=32):
  ∃ g c cur,u=.slice (some ⟨g,0,none⟩) (b.length+(32+r.length)) c∧w.heap[g]?=some (.cells cur 5 (0,0))∧b.length+(32+r.length)≤c∧b.length+32≤cur.size∧
   Wr lo X (b++(h++r)) ver (h::hs) u vh (w.setRow g (cur.toList.take b.length++h.map Su.vb++cur.toList.drop (b.length+32)).toArray)∧Fr (MW8 X u vh) w (w.setRow g (cur.toList.take b.length++h.map Su.vb++cur.toList.drop (b.length+32)).toArray):=by
 have hl:(b++(z++r)).length=b.length+(32+r.length):=by simp [hz]
 obtain ⟨h1,⟨_,h2⟩ | ⟨g,c,cur,rv,rg,rh,rn,rm,rs,rt⟩⟩:=hW.ow
 ·rw [hl] at h2;omega
 ·rw [hl] at rv rn rt
  simp only [Nat.mul_one] at rs rt
  have hsz:b.length+32≤cur.size:=by omega
  obtain ⟨new,hnew⟩:∃ new,(cur.toList.take b.length++h.map Su.vb++cur.toList.drop (b.length+32)).toArray=new:=⟨_,rfl⟩
  have hns:new.size=cur.size:=by
   rw [← hnew];simp [hh];omega
  have hnt:new.toList.take (b.length+(32+r.length))=(b++(h++r)).map Su.vb:=by
   have e0:cur.toList.take b.length=b.map Su.vb:=by
    have:=congrArg (List.take b.length) rt
    rw [List.take_take,Nat.min_eq_left (by omega)] at this
    rw [this,List.map_append,List.take_left' (by simp)]
   have e1:(cur.toList.drop (b.length+32)).take r.length=r.map Su.vb:=by
    have:=congrArg (List.drop (b.length+32)) rt
    rw [List.drop_take,show b.length+(32+r.length)-(b.length+32)=r.length from by omega] at this
    rw [this,List.map_append,List.map_append,← List.append_assoc,List.drop_left' (by simp [hz])]
   rw [← hnew]
   simp only [e0]
   rw [List.map_append,List.map_append,← e1,List.append_assoc,List.take_append,List.take_of_length_le (by simp),List.take_append,List.take_of_length_le (by simp [hh])]
   simp [hh]
  have hX:=hW.neX
  have hgX:X≠g:=fun e=>by
   rw [rv] at hX
   exact hX (by rw [e];rfl)
  have oth:∀ k:Nat,k≠g→(w.setRow g new).heap[k]?=w.heap[k]?:=fun k hk=>setRow_other w g k new hk
  refine ⟨g,c,cur,rv,rh,rn,hsz,?_⟩
  rw [hnew]
  refine ⟨⟨(oth X hgX).trans hW.at_,?_,?_,hW.lx⟩,⟨rfl,rfl,rfl,by simp [World.setRow],fun k _ hk=>oth k fun e=>hk (.inr (.inl (by rw [rv,e];rfl)))⟩⟩
  ·refine ⟨by simp,.inr ⟨g,c,new,by rw [rv];simp [hh],rg,setRow_heap w g cur new 5 _ rh,by simp [hh];omega,rm,by rw [hns];simpa using rs,by simpa [hh] using hnt⟩⟩
  ·rcases hW.hv with e | ⟨g',o,n,cap,hv,hlg,a1,a2,cur',a3,a4⟩
   ·exact .inl e
   ·have hne:=hW.neH hv
    exact .inr ⟨g',o,n,cap,hv,hlg,a1,a2,cur',(oth g' fun e=>hne.1 (by rw [rv,e];rfl)).trans a3,a4⟩
theorem Wr.cut {lo X:Nat} {b h:List Nat} {ver:Int} {hs:List (List Nat)} {u:Value} {w:World} {g o n cap:Nat} (hW:Wr lo X b ver (h::hs) u (.slice (some ⟨g,o*32,none⟩) n cap) w) (hh:h.length=32):
  ∃ M',Ws lo X b ver hs M' (w.setCell ⟨X,2,none⟩ (.slice (some (if cap=1 then ⟨g,o*32,none⟩ else ⟨g,o*32+32,none⟩)) (n-1) (cap-1)))∧(∀ c,M' c→MW8 X u (.slice (some ⟨g,o*32,none⟩) n cap) c)∧Fr (MW8 X u (.slice (some ⟨g,o*32,none⟩) n cap)) w (w.setCell ⟨X,2,none⟩ (.slice (some (if cap=1 then ⟨g,o*32,none⟩ else ⟨g,o*32+32,none⟩)) (n-1) (cap-1))):=by
 obtain ⟨vn,hvn⟩:∃ vn,Value.slice (some (if cap=1 then (⟨g,o*32,none⟩:Addr) else ⟨g,o*32+32,none⟩)) (n-1) (cap-1)=vn:=⟨_,rfl⟩
 rw [hvn]
 have oth:∀ k:Nat,k≠X→(w.setCell ⟨X,2,none⟩ vn).heap[k]?=w.heap[k]?:=fun k hk=>Below.heap_setCell _ _ _ _ hk
 have hu:u.ownBlock≠some X:=fun e=>hW.neX e.symm
 have hne:=hW.neH rfl
 refine ⟨MW8 X u vn,⟨u,vn,⟨?_,hW.ow.block fun k hk=>oth k fun e=>hu (by rw [← e];exact hk),?_,hW.lx⟩,rfl⟩,?_,⟨rfl,rfl,rfl,by rw [World.size_setCell];exact Nat.le_refl _,fun k _ hk=>oth k fun e=>hk (.inl e)⟩⟩
 ·have h1:=hW.at_
  unfold World.setCell
  simp only []
  rw [Array.getElem?_modify]
  simp [h1]
 ·rcases hW.hv with ⟨_,_,e,_⟩ | ⟨g',o',n',cap',e,hlg,a1,a2,cur,a3,a4,a5⟩
  ·cases e
  ·simp only [Value.slice.injEq,Option.some.injEq,Addr.mk.injEq,and_true] at e
   obtain ⟨⟨rfl,eo⟩,rfl,rfl⟩:=e
   have eo':o'=o:=by omega
   subst eo'
   have hn1:1≤n:=by rw [← a1];simp
   have ha3:(w.setCell ⟨X,2,none⟩ vn).heap[g]?=some (.cells cur 22 (0,0)):=(oth g hne.2).trans a3
   have htl:(cur.toList.drop (o'*32+32)).take ((n-1)*32)=hrow hs:=by
    have e2:=congrArg (List.drop 32) a4
    have e3:(hrow (h::hs)).drop 32=hrow hs:=by
     show (h.map Su.vb++hrow hs).drop 32=_
     rw [List.drop_left' (by simpa using hh)]
    rw [e3,List.drop_take,List.drop_drop,show n*32-32=(n-1)*32 from by omega] at e2
    exact e2
   by_cases hc:cap=1
   ·have hn:n=1:=by omega
    rw [if_pos hc] at hvn
    refine .inr ⟨g,o',n-1,cap-1,hvn.symm,hlg,by rw [← a1];simp,by omega,cur,ha3,?_,by omega⟩
    have:hs=[]:=by
     have:=a1;rw [hn] at this
     exact List.length_eq_zero_iff.1 (by simpa using this)
    rw [this,hn]
    simp [hrow]
   ·rw [if_neg hc] at hvn
    refine .inr ⟨g,o'+1,n-1,cap-1,by rw [← hvn,show (o'+1)*32=o'*32+32 from by omega],hlg,by rw [← a1];simp,by omega,cur,ha3,by rw [show (o'+1)*32=o'*32+32 from by omega];exact htl,by omega⟩
 ·rintro c (hc | hc | ⟨g',o',n',c',hv,rfl⟩)
  ·exact .inl hc
  ·exact .inr (.inl hc)
  ·refine .inr (.inr ⟨g,o*32,n,cap,rfl,?_⟩)
   rw [← hvn] at hv
   simp only [Value.slice.injEq,Option.some.injEq] at hv
   have:=hv.1
   split at this
   ·cases this;rfl
   ·cases this;rfl
end Go.Proofs.YtjikkhbcbfpocaaGreatDoor
