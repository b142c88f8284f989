import Derived.Test.YtdeanahpiigonaaGreatDoorHE
set_option maxRecDepth 100000
set_option maxHeartbeats 8000000
namespace Go.Proofs.YtdeanahpiigonaaGreatDoor
open Go.RowKit Hm
attribute [local go_sem] Oper.semAt_some
theorem lG {c:Rq} {r:Pv} {w:World} (h:PvAt c r w) (C:Nat) (hC:c.Q<C) (nv sv dv:Value) (cm:Cm) (hcl:ClI C nv cm sv dv w) (v:Vd):
  Calls Tryz.prog 89 #[.pointer (some ⟨c.Q,0,none⟩),.pointer (some ⟨C,0,none⟩),.agg (vx v).toArray] w fun e w'=>e=.returned (.tuple #[])∧PvAt c (yf c.l v cm r).2 w'∧ClI C nv (yf c.l v cm r).1 sv dv w'∧Kp (c.in_ C) w w':=by
 obtain ⟨X,hX⟩:∃ X:Array Value,X=(vx v).toArray:=⟨_,rfl⟩
 have HX:Hid (X.size=35∧X.all (·.oneCell')=true∧X.toList=vx v∧X[0]?=some (.int .i64 v.kind)):=by subst hX;exact ⟨jx v,eH v,by simp,rfl⟩
 rw [← hX]
 have HI:=hid (⟨h,hcl⟩:_∧_)
 have hQ:=h.Qlt
 have hCl:=hcl.lt
 clear hX h hcl
 have hlen:=fun t (ht:t.length=32)=>yW nv sv cm.value (cm.count:Int) t dv ht
 unfold yf
 by_cases hk:v.kind=1
 ·rw [if_pos hk]
  simp only
  have C1:Hid (∀ W,PvAt c r W→Calls Tryz.prog 109 #[.pointer (some ⟨c.Q,0,none⟩),.int .i64 1048576] W fun e w'=>e=.returned (.int .i64 ((numP c.l 1048576 r).1:Nat))∧PvAt c (numP c.l 1048576 r).2 w'∧Kp c.own W w'):=fun W q=>qE q 1048576 1048576 rfl (by decide)
  have l1:=qt c.l r 1048576
  generalize numP c.l 1048576 r=A at *
  obtain ⟨n,rA⟩:=A
  simp only at C1 l1 ⊢
  have C2:Hid (∀ W,PvAt c rA W→Calls Tryz.prog 111 #[.pointer (some ⟨c.Q,0,none⟩)] W fun e w'=>e=.returned (.agg (hA (sumP c.l rA).1))∧PvAt c (sumP c.l rA).2 w'∧Kp c.own W w'):=fun W q=>yr q
  have hl:(sumP c.l rA).1.length=32:=qO _
  generalize sumP c.l rA=A at *
  obtain ⟨hh,rB⟩:=A
  simp only at C2 hl ⊢
  have HS:=hid hl
  obtain ⟨Hc,hHc⟩:∃ Hc:Array Value,Hc=hA hh:=⟨_,rfl⟩
  have HH:Hid (Hc=hA hh∧Hc.size=32∧Hc.all (·.oneCell')=true∧Hc.toList=hh.map Su.vb):=⟨hHc,by rw [hHc];exact jG hl,by rw [hHc];exact jn _,by rw [hHc];simp [hA]⟩
  rw [← hHc] at C2
  have hkI:(v.kind !=1)=false:=by simp [hk]
  rw [hk] at HX
  clear hHc hk hl
  have CM:Hid (∀ b,∀ W,PvAt c rB W→Calls Tryz.prog 112 #[.pointer (some ⟨c.Q,0,none⟩),.bool b] W fun e w'=>e=.returned (.tuple #[])∧PvAt c (qd b rB) w'∧Kp c.own W w'):=fun b W q=>aP q b
  by_cases hn:0<n
  ·have hnI:(0:Int)<n:=by omega
   have hd:(decide (0<n)||decide (hh=j7))=true:=by simp [hn]
   rw [hd]
   clear hd
   go_enter Tryz.func89,Tryz.ntmps89
   go_wp2_with (first
    | ((with_reducible refine jt 5 24 (.tmp 2) X ?_ ?_ ?_ ?_ ?_);rfl;rfl;kernel_rfl;rfl;intro w1 b1 H1;have HC0:Hid (ClI C nv cm sv dv w1∧PvAt c r w1∧w1.heap[b1]?=some (.cells X 24 (0,0))∧C<b1∧b1<w1.heap.size):=(by obtain ⟨p1,p2,p3,p4⟩:=H1.o;exact ⟨HI.o.2.up p2,HI.o.1.up p2,p3,by omega,by omega⟩))
    | ((with_reducible refine jE 7 24 (.tmp 5) b1 0 X _ ?_ ?_ ?_ ?_ ?_ jR ?_ ?_ ?_);rfl;rfl;kernel_rfl;rfl;exact Lies.of_heap HC0.o.2.2.1;rfl;exact (by rw [qU,HX.o.1]))
    | ((with_reducible refine aN 24 (.tmp 9) (.tmp 7) C 2 X 117 (clc nv sv cm.value (cm.count:Int) cm.top dv) ?_ ?_ ?_ ?_ ?_ ?_ ?_ ?_ ?_ ?_);rfl;rfl;kernel_rfl;rfl;rfl;exact HC0.o.1.at_;exact (by rw [HX.o.1,yW _ _ _ _ _ _ HC0.o.1.tl];decide);exact (by rw [qU,HX.o.1]);exact HX.o.2.1;intro w2 H2;have HV:Hid (ClI C nv { cm with value:=v } sv dv w2):=HC0.o.1.re H2.o.1 rfl rfl HC0.o.1.tl (by rw [H2.o.2.1,HX.o.2.2.1,xK]);have hz2:w2.cell? ⟨b1,0,none⟩=some (.int .i64 1):=(by rw [j9 ((H2.o.1.block b1 HC0.o.2.2.2.2 (by have:=HC0.o.2.2.2.1;omega)).trans HC0.o.2.2.1)];exact HX.o.2.2.2))
    | (go_at_call 109;refine (C1.o _ ((HC0.o.2.1).kp H2.o.1 (fun b e q=>by have:=q.2;omega))).mono ?_;rintro e w3 ⟨rfl,p1,p2⟩;have H3:Hid (PvAt c rA w3∧ClI C nv { cm with value:=v } sv dv w3):=⟨p1,HV.o.kp p2 hC⟩;have K3:=hid p2;clear p1 p2)
    | (go_at_call 111;refine (C2.o _ H3.o.1).mono ?_;rintro e w4 ⟨rfl,p1,p2⟩;have H4:Hid (PvAt c rB w4∧ClI C nv { cm with value:=v } sv dv w4∧Kp c.own w2 w4):=⟨p1,H3.o.2.kp p2 hC,K3.o.trans p2 fun _ _ e=>e⟩;clear p1 p2)
    | ((with_reducible refine xP 3 (.tmp 20) (.tmp 16) C 37 (.int .i64 (n:Int)) 117 (clc nv sv v (cm.count:Int) cm.top dv).toArray ?_ ?_ ?_ ?_ ?_ ?_);rfl;rfl;kernel_rfl;(have hc9:=(show w4.cell? ⟨C,37,none⟩=some _ by rw [j9 H4.o.2.1.at_];exact yA _ _ _ _ _ _);have hf9:=(show w4.frozen? ⟨C,37,none⟩=false by simp [World.frozen?,H4.o.2.1.at_]);unfold execOp;simp [hc9,hf9,go_sem]);exact H4.o.2.1.at_;intro w5 H5;have V5:Hid (ClI C nv { cm with value:=v,count:=n } sv dv w5):=H4.o.2.1.re H5.o.1 rfl rfl H4.o.2.1.tl (by rw [H5.o.2.1,aa]))
    | ((with_reducible refine aN 22 (.tmp 22) (.tmp 18) C 38 Hc 117 (clc nv sv v (n:Int) cm.top dv) ?_ ?_ ?_ ?_ ?_ ?_ ?_ ?_ ?_ ?_);rfl;rfl;kernel_rfl;rfl;rfl;exact V5.o.at_;exact (by rw [HH.o.2.1,yW _ _ _ _ _ _ V5.o.tl];decide);exact (by rw [jK,HH.o.2.1]);exact HH.o.2.2.1;intro w6 H6;have V6:Hid (ClI C nv { cm with value:=v,count:=n,top:=hh } sv dv w6∧PvAt c rB w6∧Kp (c.in_ C) w w6):=(by have n1:=HC0.o.2.2.2;have s4:=H4.o.2.2.size;exact ⟨V5.o.re H6.o.1 rfl rfl HS.o (by rw [H6.o.2.1,HH.o.2.2.2,lD _ _ _ _ _ _ _ V5.o.tl HS.o]),(H4.o.1.kp H5.o.1 (fun b e q=>by have:=q.2;omega)).kp H6.o.1 (fun b e q=>by have:=q.2;omega),(((Kp.of H1.o.2.1).trans H2.o.1 (fun b hb e=>Or.inr (by omega))).trans (H4.o.2.2.mono (fun b _ e=>Or.inl e):Kp (c.in_ C) w2 w4) (fun _ _ e=>e)).trans H5.o.1 (fun b hb e=>Or.inr (by omega)) |>.trans H6.o.1 (fun b hb e=>Or.inr (by omega))⟩);have hz6:w6.cell? ⟨C,37,none⟩=some (.int .i64 (n:Int)):=(by rw [j9 V6.o.1.at_];exact yA _ _ _ _ _ _))
    | (go_at_call 112;refine (CM.o true _ V6.o.2.1).mono ?_;rintro e w7 ⟨rfl,p1,p2⟩;have H7:=hid (⟨p1,p2⟩:_∧_);clear p1 p2))
   go_end0
   exact ⟨rfl,H7.o.1,V6.o.1.kp H7.o.2 hC,V6.o.2.2.trans H7.o.2 fun _ _ e=>.inl e⟩
  ·have hnI:¬ (0:Int)<n:=by omega
   obtain ⟨bq,hq⟩:∃ bq,decide (hh=j7)=bq:=⟨_,rfl⟩
   have hd:(decide (0<n)||decide (hh=j7))=bq:=by simp [hn,hq]
   rw [hd]
   have HQ:=hid hq
   clear hd hq
   go_enter Tryz.func89,Tryz.ntmps89
   go_wp2_with (first
    | ((with_reducible refine jt 5 24 (.tmp 2) X ?_ ?_ ?_ ?_ ?_);rfl;rfl;kernel_rfl;rfl;intro w1 b1 H1;have HC0:Hid (ClI C nv cm sv dv w1∧PvAt c r w1∧w1.heap[b1]?=some (.cells X 24 (0,0))∧C<b1∧b1<w1.heap.size):=(by obtain ⟨p1,p2,p3,p4⟩:=H1.o;exact ⟨HI.o.2.up p2,HI.o.1.up p2,p3,by omega,by omega⟩))
    | ((with_reducible refine jE 7 24 (.tmp 5) b1 0 X _ ?_ ?_ ?_ ?_ ?_ jR ?_ ?_ ?_);rfl;rfl;kernel_rfl;rfl;exact Lies.of_heap HC0.o.2.2.1;rfl;exact (by rw [qU,HX.o.1]))
    | ((with_reducible refine aN 24 (.tmp 9) (.tmp 7) C 2 X 117 (clc nv sv cm.value (cm.count:Int) cm.top dv) ?_ ?_ ?_ ?_ ?_ ?_ ?_ ?_ ?_ ?_);rfl;rfl;kernel_rfl;rfl;rfl;exact HC0.o.1.at_;exact (by rw [HX.o.1,yW _ _ _ _ _ _ HC0.o.1.tl];decide);exact (by rw [qU,HX.o.1]);exact HX.o.2.1;intro w2 H2;have HV:Hid (ClI C nv { cm with value:=v } sv dv w2):=HC0.o.1.re H2.o.1 rfl rfl HC0.o.1.tl (by rw [H2.o.2.1,HX.o.2.2.1,xK]);have hz2:w2.cell? ⟨b1,0,none⟩=some (.int .i64 1):=(by rw [j9 ((H2.o.1.block b1 HC0.o.2.2.2.2 (by have:=HC0.o.2.2.2.1;omega)).trans HC0.o.2.2.1)];exact HX.o.2.2.2))
    | (go_at_call 109;refine (C1.o _ ((HC0.o.2.1).kp H2.o.1 (fun b e q=>by have:=q.2;omega))).mono ?_;rintro e w3 ⟨rfl,p1,p2⟩;have H3:Hid (PvAt c rA w3∧ClI C nv { cm with value:=v } sv dv w3):=⟨p1,HV.o.kp p2 hC⟩;have K3:=hid p2;clear p1 p2)
    | (go_at_call 111;refine (C2.o _ H3.o.1).mono ?_;rintro e w4 ⟨rfl,p1,p2⟩;have H4:Hid (PvAt c rB w4∧ClI C nv { cm with value:=v } sv dv w4∧Kp c.own w2 w4):=⟨p1,H3.o.2.kp p2 hC,K3.o.trans p2 fun _ _ e=>e⟩;clear p1 p2)
    | ((with_reducible refine xP 3 (.tmp 20) (.tmp 16) C 37 (.int .i64 (n:Int)) 117 (clc nv sv v (cm.count:Int) cm.top dv).toArray ?_ ?_ ?_ ?_ ?_ ?_);rfl;rfl;kernel_rfl;(have hc9:=(show w4.cell? ⟨C,37,none⟩=some _ by rw [j9 H4.o.2.1.at_];exact yA _ _ _ _ _ _);have hf9:=(show w4.frozen? ⟨C,37,none⟩=false by simp [World.frozen?,H4.o.2.1.at_]);unfold execOp;simp [hc9,hf9,go_sem]);exact H4.o.2.1.at_;intro w5 H5;have V5:Hid (ClI C nv { cm with value:=v,count:=n } sv dv w5):=H4.o.2.1.re H5.o.1 rfl rfl H4.o.2.1.tl (by rw [H5.o.2.1,aa]))
    | ((with_reducible refine aN 22 (.tmp 22) (.tmp 18) C 38 Hc 117 (clc nv sv v (n:Int) cm.top dv) ?_ ?_ ?_ ?_ ?_ ?_ ?_ ?_ ?_ ?_);rfl;rfl;kernel_rfl;rfl;rfl;exact V5.o.at_;exact (by rw [HH.o.2.1,yW _ _ _ _ _ _ V5.o.tl];decide);exact (by rw [jK,HH.o.2.1]);exact HH.o.2.2.1;intro w6 H6;have V6:Hid (ClI C nv { cm with value:=v,count:=n,top:=hh } sv dv w6∧PvAt c rB w6∧Kp (c.in_ C) w w6):=(by have n1:=HC0.o.2.2.2;have s4:=H4.o.2.2.size;exact ⟨V5.o.re H6.o.1 rfl rfl HS.o (by rw [H6.o.2.1,HH.o.2.2.2,lD _ _ _ _ _ _ _ V5.o.tl HS.o]),(H4.o.1.kp H5.o.1 (fun b e q=>by have:=q.2;omega)).kp H6.o.1 (fun b e q=>by have:=q.2;omega),(((Kp.of H1.o.2.1).trans H2.o.1 (fun b hb e=>Or.inr (by omega))).trans (H4.o.2.2.mono (fun b _ e=>Or.inl e):Kp (c.in_ C) w2 w4) (fun _ _ e=>e)).trans H5.o.1 (fun b hb e=>Or.inr (by omega)) |>.trans H6.o.1 (fun b hb e=>Or.inr (by omega))⟩);have hz6:w6.cell? ⟨C,37,none⟩=some (.int .i64 (n:Int)):=(by rw [j9 V6.o.1.at_];exact yA _ _ _ _ _ _))
    | ((with_reducible refine jE 33 22 (.tmp 32) C 38 Hc _ ?_ ?_ ?_ ?_ ?_ Tryz.underlying22 ?_ ?_ ?_);rfl;rfl;kernel_rfl;rfl;exact (by have:=(Lies.of_heap V6.o.1.at_).part 38 70;rw [sI _ _ _ _ _ _ HS.o,← HH.o.1] at this;exact this);rfl;exact (by rw [jK,HH.o.2.1]))
    | ((with_reducible refine jT 34 (.agg (hA j7)) w6 ?_ ?_ ?_ ?_);rfl;kernel_rfl;exact xI 22 rfl (hA j7) (yS _))
    | ((with_reducible refine jT 35 (.bool bq) w6 ?_ ?_ ?_ ?_);rfl;kernel_rfl;exact xp (.tmp 33) (.tmp 34) rfl Hc (hA j7) rfl rfl hh j7 HH.o.1 rfl HS.o jC bq HQ.o _)
    | (go_at_call 112;refine (CM.o bq _ V6.o.2.1).mono ?_;rintro e w7 ⟨rfl,p1,p2⟩;have H7:=hid (⟨p1,p2⟩:_∧_);clear p1 p2))
   go_end0
   exact ⟨rfl,H7.o.1,V6.o.1.kp H7.o.2 hC,V6.o.2.2.trans H7.o.2 fun _ _ e=>.inl e⟩
 ·rw [if_neg hk]
  have hkI:¬ v.kind=1:=hk
  go_enter Tryz.func89,Tryz.ntmps89
  go_wp2_with (first
   | ((with_reducible refine jt 5 24 (.tmp 2) X ?_ ?_ ?_ ?_ ?_);rfl;rfl;kernel_rfl;rfl;intro w1 b1 H1;have HC0:Hid (ClI C nv cm sv dv w1∧PvAt c r w1∧w1.heap[b1]?=some (.cells X 24 (0,0))∧C<b1∧b1<w1.heap.size):=(by obtain ⟨p1,p2,p3,p4⟩:=H1.o;exact ⟨HI.o.2.up p2,HI.o.1.up p2,p3,by omega,by omega⟩))
   | ((with_reducible refine jE 7 24 (.tmp 5) b1 0 X _ ?_ ?_ ?_ ?_ ?_ jR ?_ ?_ ?_);rfl;rfl;kernel_rfl;rfl;exact Lies.of_heap HC0.o.2.2.1;rfl;exact (by rw [qU,HX.o.1]))
   | ((with_reducible refine aN 24 (.tmp 9) (.tmp 7) C 2 X 117 (clc nv sv cm.value (cm.count:Int) cm.top dv) ?_ ?_ ?_ ?_ ?_ ?_ ?_ ?_ ?_ ?_);rfl;rfl;kernel_rfl;rfl;rfl;exact HC0.o.1.at_;exact (by rw [HX.o.1,yW _ _ _ _ _ _ HC0.o.1.tl];decide);exact (by rw [qU,HX.o.1]);exact HX.o.2.1;intro w2 H2;have HV:Hid (ClI C nv { cm with value:=v } sv dv w2):=HC0.o.1.re H2.o.1 rfl rfl HC0.o.1.tl (by rw [H2.o.2.1,HX.o.2.2.1,xK]);have hz2:w2.cell? ⟨b1,0,none⟩=some (.int .i64 v.kind):=(by rw [j9 ((H2.o.1.block b1 HC0.o.2.2.2.2 (by have:=HC0.o.2.2.2.1;omega)).trans HC0.o.2.2.1)];exact HX.o.2.2.2)))
  refine bodyPost_ret (results_none rfl _ _ _) rfl ?_
  exact ⟨rfl,(HI.o.1.up H1.o.2.1).kp H2.o.1 (fun b e q=>by have:=q.2;omega),HV.o,(Kp.of H1.o.2.1).trans H2.o.1 fun b hb e=>.inr (by omega)⟩
theorem wU (nv sv:Value) (k m z k2:Int) (s:List Nat) (hs:s.length=32) (cnt:Int) (top:List Nat) (dv:Value):(clc nv sv ⟨k,m,z,s,hs⟩ cnt top dv).toArray.setIfInBounds 2 (.int .i64 k2)=(clc nv sv ⟨k2,m,z,s,hs⟩ cnt top dv).toArray:=by
 rw [List.setIfInBounds_toArray];rfl
theorem a2k (nv sv:Value) (k m z k2:Int) (s:List Nat) (hs:s.length=32) (cnt:Int) (top:List Nat) (dv:Value):(clc nv sv ⟨k,m,z,s,hs⟩ cnt top dv).toArray.setIfInBounds 3 (.int .i64 k2)=(clc nv sv ⟨k,k2,z,s,hs⟩ cnt top dv).toArray:=by
 rw [List.setIfInBounds_toArray];rfl
theorem wV (nv sv:Value) (k m z k2:Int) (s:List Nat) (hs:s.length=32) (cnt:Int) (top:List Nat) (dv:Value):(clc nv sv ⟨k,m,z,s,hs⟩ cnt top dv).toArray.setIfInBounds 4 (.int .i64 k2)=(clc nv sv ⟨k,m,k2,s,hs⟩ cnt top dv).toArray:=by
 rw [List.setIfInBounds_toArray];rfl
theorem wW (nv sv:Value) (k m z:Int) (s s2:List Nat) (hs:s.length=32) (hs2:s2.length=32) (cnt:Int) (top:List Nat) (dv:Value):over (clc nv sv ⟨k,m,z,s,hs⟩ cnt top dv) 5 (s2.map Su.vb)=clc nv sv ⟨k,m,z,s2,hs2⟩ cnt top dv:=
 aQ [nv,sv,.int .i64 k,.int .i64 m,.int .i64 z] (s.map Su.vb) (s2.map Su.vb) _ 5 rfl (by simp [hs,hs2])
theorem dG {l:List Int} (hB:Wire.Bytes l) (s:Wi.St):0≤(Wi.byteS l s).1∧(Wi.byteS l s).1<256:=by
 unfold Wi.byteS
 split
 ·simp
 ·split
  ·exact hB.at (by assumption)
  ·simp
theorem lI {c:Rq} {r:Pv} {w:World} (h:PvAt c r w) (C:Nat) (hC:c.Q<C) (nv sv dv:Value) (cm:Cm) (hv0:cm.value=vz) (hcl:ClI C nv cm sv dv w):
  Calls Tryz.prog 91 #[.pointer (some ⟨c.Q,0,none⟩),.pointer (some ⟨C,0,none⟩)] w fun e w'=>e=.returned (.tuple #[])∧PvAt c (zo c.l cm r).2 w'∧ClI C nv (zo c.l cm r).1 sv dv w'∧Kp (c.in_ C) w w':=by
 have hQ:=h.Qlt
 have hCl:=hcl.lt
 have hz0:=h.cell0
 have C1:Hid (Calls Tryz.prog 87 #[.pointer (some ⟨c.R,0,none⟩)] w fun e w'=>e=.returned (.int .u8 (Wi.byteS c.l r.s).1)∧PvAt c ⟨(Wi.byteS c.l r.s).2,r.bad⟩ w'∧Kp c.own w w'):=(Wi.gY c.lo c.R c.l r.s w h.rd).mono (by
  rintro e w' ⟨rfl,h1,h2⟩
  exact ⟨rfl,h.wire h1 h2⟩)
 have hrng:=dG c.hB r.s
 obtain ⟨stp,val,cnt,top,sds⟩:=cm
 simp only at hv0
 subst hv0
 have HI:=hid hcl
 clear h hcl
 unfold zo
 simp only
 generalize Wi.byteS c.l r.s=A at *
 obtain ⟨k,s1⟩:=A
 simp only at C1 hrng ⊢
 have hk0:=hrng.1
 have hk1:=hrng.2
 clear hrng
 have CM:Hid (∀ (r:Pv) b W,PvAt c r W→Calls Tryz.prog 112 #[.pointer (some ⟨c.Q,0,none⟩),.bool b] W fun e w'=>e=.returned (.tuple #[])∧PvAt c (qd b r) w'∧Kp c.own W w'):=fun r b W q=>aP q b
 by_cases h2:k=2
 ·subst h2
  have hd:(decide ((2:Int)=2)||decide ((2:Int)=3))=true:=rfl
  rw [hd,if_pos rfl]
  clear hd
  obtain ⟨rM,hM⟩:∃ rM,qd true ⟨s1,r.bad⟩=rM:=⟨_,rfl⟩
  rw [hM]
  have HM:=hid hM
  clear hM
  have C2:Hid (∀ W,PvAt c rM W→Calls Tryz.prog 109 #[.pointer (some ⟨c.Q,0,none⟩),.int .i64 8] W fun e w'=>e=.returned (.int .i64 ((numP c.l 8 rM).1:Nat))∧PvAt c (numP c.l 8 rM).2 w'∧Kp c.own W w'):=fun W q=>qE q 8 8 rfl (by decide)
  have l1:=qt c.l rM 8
  generalize numP c.l 8 rM=A at *
  obtain ⟨md,rA⟩:=A
  simp only at C2 l1 ⊢
  have C3:Hid (∀ W,PvAt c rA W→Calls Tryz.prog 109 #[.pointer (some ⟨c.Q,0,none⟩),.int .i64 1099511627775] W fun e w'=>e=.returned (.int .i64 ((numP c.l 1099511627775 rA).1:Nat))∧PvAt c (numP c.l 1099511627775 rA).2 w'∧Kp c.own W w'):=fun W q=>qE q 1099511627775 1099511627775 rfl (by decide)
  generalize numP c.l 1099511627775 rA=A at *
  obtain ⟨sz,rB⟩:=A
  simp only at C3 ⊢
  have C4:Hid (∀ W,PvAt c rB W→Calls Tryz.prog 111 #[.pointer (some ⟨c.Q,0,none⟩)] W fun e w'=>e=.returned (.agg (hA (sumP c.l rB).1))∧PvAt c (sumP c.l rB).2 w'∧Kp c.own W w'):=fun W q=>yr q
  have hl:(sumP c.l rB).1.length=32:=qO _
  generalize sumP c.l rB=A at *
  obtain ⟨sm,rC⟩:=A
  simp only at C4 hl ⊢
  obtain ⟨Hc,hHc⟩:∃ Hc:Array Value,Hc=hA sm:=⟨_,rfl⟩
  have HH:Hid (Hc=hA sm∧Hc.size=32∧Hc.all (·.oneCell')=true∧Hc.toList=sm.map Su.vb):=⟨hHc,by rw [hHc];exact jG hl,by rw [hHc];exact jn _,by rw [hHc];simp [hA]⟩
  rw [← hHc] at C4
  rw [jh hl]
  have HS:=hid hl
  have C5:=fun W=>yt ⟨2,(md:Int),(sz:Int),sm,hl⟩ W
  obtain ⟨VX,hVX⟩:∃ VX:Array Value,VX=(vx ⟨2,(md:Int),(sz:Int),sm,hl⟩).toArray:=⟨_,rfl⟩
  have HV:Hid (VX=(vx ⟨2,(md:Int),(sz:Int),sm,hl⟩).toArray∧VX.size=35):=⟨hVX,by rw [hVX];exact jx _⟩
  rw [← hVX] at C5
  obtain ⟨bv,hbv⟩:∃ bv,valB ⟨2,(md:Int),(sz:Int),sm,hl⟩=bv:=⟨_,rfl⟩
  rw [hbv] at C5 ⊢
  have C5:=hid C5
  clear hVX hbv hHc
  go_enter Tryz.func91,Tryz.ntmps91
  go_wp2_with (first
   | (go_at_call 87;refine C1.o.mono ?_;rintro e w1 ⟨rfl,p1,p2⟩;have H1:Hid (PvAt c ⟨s1,r.bad⟩ w1∧ClI C nv ⟨stp,vz,cnt,top,sds⟩ sv dv w1∧Kp c.own w w1):=⟨p1,HI.o.kp p2 hC,p2⟩;clear p1 p2)
   | ((with_reducible refine xP 3 (.tmp 13) (.tmp 10) C 2 (.int .i64 2) 117 (clc nv sv vz (cnt:Int) top dv).toArray ?_ ?_ ?_ ?_ ?_ ?_);rfl;rfl;kernel_rfl;(have hc9:=(show w1.cell? ⟨C,2,none⟩=some (.int .i64 0) by rw [j9 H1.o.2.1.at_];rfl);have hf9:=(show w1.frozen? ⟨C,2,none⟩=false by simp [World.frozen?,H1.o.2.1.at_]);unfold execOp;simp [hc9,hf9,go_sem]);exact H1.o.2.1.at_;intro w2 H2;have V2:Hid (ClI C nv (⟨stp,⟨2,0,0,j7,jC⟩,cnt,top,sds⟩:Cm) sv dv w2∧PvAt c ⟨s1,r.bad⟩ w2∧Kp (c.in_ C) w w2):=⟨H1.o.2.1.re H2.o.1 rfl rfl H1.o.2.1.tl (by rw [H2.o.2.1];exact congrArg (fun a=>some (Obj.cells a 117 (0,0))) (wU _ _ _ _ _ _ _ _ _ _ _)),H1.o.1.kp H2.o.1 (fun b e q=>by have:=q.2;omega),(H1.o.2.2.mono (fun b _ e=>Or.inl e):Kp (c.in_ C) w w1).trans H2.o.1 (fun b hb e=>Or.inr (by omega))⟩;have hz2:w2.cell? ⟨C,2,none⟩=some (.int .i64 2):=(by rw [j9 V2.o.1.at_];rfl))
   | ((with_reducible refine qG 29 112 #[.pointer (some ⟨c.Q,0,none⟩),.bool true] (fun v w'=>v=.tuple #[]∧PvAt c rM w'∧Kp c.own w2 w') ?_ ?_ ?_ ?_ ?_);rfl;kernel_rfl;(unfold execOp;simp [go_sem]);exact ((CM.o ⟨s1,r.bad⟩ true _ V2.o.2.1).mono fun e w' z=>⟨_,z.1,rfl,by rw [← HM.o];exact z.2.1,z.2.2⟩);rintro v w3 ⟨rfl,p1,p2⟩;have H3:Hid (PvAt c rM w3∧ClI C nv (⟨stp,⟨2,0,0,j7,jC⟩,cnt,top,sds⟩:Cm) sv dv w3∧Kp (c.in_ C) w w3):=⟨p1,V2.o.1.kp p2 hC,V2.o.2.2.trans p2 (fun _ _ e=>Or.inl e)⟩;clear p1 p2;have hz3:w3.cell? ⟨C,2,none⟩=some (.int .i64 2):=(by rw [j9 H3.o.2.1.at_];rfl))
   | ((with_reducible refine qG 38 109 #[.pointer (some ⟨c.Q,0,none⟩),.int .i64 8] (fun v w'=>v=.int .i64 (md:Nat)∧PvAt c rA w'∧Kp c.own w3 w') ?_ ?_ ?_ ?_ ?_);rfl;kernel_rfl;(unfold execOp;simp [go_sem]);exact ((C2.o _ H3.o.1).mono fun e w' z=>⟨_,z.1,rfl,z.2⟩);rintro v w4 ⟨rfl,p1,p2⟩;have H4:Hid (PvAt c rA w4∧ClI C nv (⟨stp,⟨2,0,0,j7,jC⟩,cnt,top,sds⟩:Cm) sv dv w4∧Kp (c.in_ C) w w4):=⟨p1,H3.o.2.1.kp p2 hC,H3.o.2.2.trans p2 (fun _ _ e=>Or.inl e)⟩;clear p1 p2)
   | ((with_reducible refine xP 3 (.tmp 41) (.tmp 38) C 3 (.int .i64 (md:Int)) 117 (clc nv sv ⟨2,0,0,j7,jC⟩ (cnt:Int) top dv).toArray ?_ ?_ ?_ ?_ ?_ ?_);rfl;rfl;kernel_rfl;(have hc9:=(show w4.cell? ⟨C,3,none⟩=some (.int .i64 0) by rw [j9 H4.o.2.1.at_];rfl);have hf9:=(show w4.frozen? ⟨C,3,none⟩=false by simp [World.frozen?,H4.o.2.1.at_]);unfold execOp;simp [hc9,hf9,go_sem]);exact H4.o.2.1.at_;intro w5 H5;have V5:Hid (PvAt c rA w5∧ClI C nv (⟨stp,⟨2,(md:Int),0,j7,jC⟩,cnt,top,sds⟩:Cm) sv dv w5∧Kp (c.in_ C) w w5):=⟨H4.o.1.kp H5.o.1 (fun b e q=>by have:=q.2;omega),H4.o.2.1.re H5.o.1 rfl rfl H4.o.2.1.tl (by rw [H5.o.2.1];exact congrArg (fun a=>some (Obj.cells a 117 (0,0))) (a2k _ _ _ _ _ _ _ _ _ _ _)),H4.o.2.2.trans H5.o.1 (fun b hb e=>Or.inr (by omega))⟩)
   | ((with_reducible refine qG 45 109 #[.pointer (some ⟨c.Q,0,none⟩),.int .i64 1099511627775] (fun v w'=>v=.int .i64 (sz:Nat)∧PvAt c rB w'∧Kp c.own w5 w') ?_ ?_ ?_ ?_ ?_);rfl;kernel_rfl;(unfold execOp;simp [go_sem]);exact ((C3.o _ V5.o.1).mono fun e w' z=>⟨_,z.1,rfl,z.2⟩);rintro v w6 ⟨rfl,p1,p2⟩;have H6:Hid (PvAt c rB w6∧ClI C nv (⟨stp,⟨2,(md:Int),0,j7,jC⟩,cnt,top,sds⟩:Cm) sv dv w6∧Kp (c.in_ C) w w6):=⟨p1,V5.o.2.1.kp p2 hC,V5.o.2.2.trans p2 (fun _ _ e=>Or.inl e)⟩;clear p1 p2)
   | (go_at_call 111;refine (C4.o _ H6.o.1).mono ?_;rintro e w7 ⟨rfl,p1,p2⟩;have H7:Hid (PvAt c rC w7∧ClI C nv (⟨stp,⟨2,(md:Int),0,j7,jC⟩,cnt,top,sds⟩:Cm) sv dv w7∧Kp (c.in_ C) w w7):=⟨p1,H6.o.2.1.kp p2 hC,H6.o.2.2.trans p2 (fun _ _ e=>Or.inl e)⟩;clear p1 p2)
   | ((with_reducible refine xP 3 (.tmp 50) (.tmp 45) C 4 (.int .i64 (sz:Int)) 117 (clc nv sv ⟨2,(md:Int),0,j7,jC⟩ (cnt:Int) top dv).toArray ?_ ?_ ?_ ?_ ?_ ?_);rfl;rfl;kernel_rfl;(have hc9:=(show w7.cell? ⟨C,4,none⟩=some (.int .i64 0) by rw [j9 H7.o.2.1.at_];rfl);have hf9:=(show w7.frozen? ⟨C,4,none⟩=false by simp [World.frozen?,H7.o.2.1.at_]);unfold execOp;simp [hc9,hf9,go_sem]);exact H7.o.2.1.at_;intro w8 H8;have V8:Hid (PvAt c rC w8∧ClI C nv (⟨stp,⟨2,(md:Int),(sz:Int),j7,jC⟩,cnt,top,sds⟩:Cm) sv dv w8∧Kp (c.in_ C) w w8):=⟨H7.o.1.kp H8.o.1 (fun b e q=>by have:=q.2;omega),H7.o.2.1.re H8.o.1 rfl rfl H7.o.2.1.tl (by rw [H8.o.2.1];exact congrArg (fun a=>some (Obj.cells a 117 (0,0))) (wV _ _ _ _ _ _ _ _ _ _ _)),H7.o.2.2.trans H8.o.1 (fun b hb e=>Or.inr (by omega))⟩)
   | ((with_reducible refine aN 22 (.tmp 53) (.tmp 47) C 5 Hc 117 (clc nv sv ⟨2,(md:Int),(sz:Int),j7,jC⟩ (cnt:Int) top dv) ?_ ?_ ?_ ?_ ?_ ?_ ?_ ?_ ?_ ?_);rfl;rfl;kernel_rfl;rfl;rfl;exact V8.o.2.1.at_;exact (by rw [HH.o.2.1,yW _ _ _ _ _ _ V8.o.2.1.tl];decide);exact (by rw [jK,HH.o.2.1]);exact HH.o.2.2.1;intro w9 H9;have V9:Hid (PvAt c rC w9∧ClI C nv (⟨stp,⟨2,(md:Int),(sz:Int),sm,HS.o⟩,cnt,top,sds⟩:Cm) sv dv w9∧Kp (c.in_ C) w w9):=⟨V8.o.1.kp H9.o.1 (fun b e q=>by have:=q.2;omega),V8.o.2.1.re H9.o.1 rfl rfl V8.o.2.1.tl (by rw [H9.o.2.1,HH.o.2.2.2];exact congrArg (fun l=>some (Obj.cells (List.toArray l) 117 (0,0))) (wW _ _ _ _ _ _ _ _ _ _ _ _)),V8.o.2.2.trans H9.o.1 (fun b hb e=>Or.inr (by omega))⟩)
   | ((with_reducible refine jE 58 24 (.tmp 57) C 2 VX _ ?_ ?_ ?_ ?_ ?_ jR ?_ ?_ ?_);rfl;rfl;kernel_rfl;rfl;exact (by have:=(Lies.of_heap V9.o.2.1.at_).part 2 37;rw [fj] at this;rw [HV.o.1];exact this);rfl;exact (by rw [qU,HV.o.2]))
   | (go_at_call 65;refine (C5.o w9).mono ?_;rintro e w10 ⟨rfl,p1⟩;have H10:Hid (G w9 w10):=p1;clear p1)
   | ((with_reducible refine qG 60 112 #[.pointer (some ⟨c.Q,0,none⟩),.bool bv] (fun v w'=>v=.tuple #[]∧PvAt c (qd bv rC) w'∧Kp c.own w10 w') ?_ ?_ ?_ ?_ ?_);rfl;kernel_rfl;(unfold execOp;simp [go_sem]);exact ((CM.o rC bv _ (V9.o.1.up H10.o)).mono fun e w' z=>⟨_,z.1,rfl,z.2⟩);rintro v w11 ⟨rfl,p1,p2⟩;have H11:=hid (⟨p1,p2⟩:_∧_);clear p1 p2))
  go_end0
  exact ⟨rfl,H11.o.1,(V9.o.2.1.up H10.o).kp H11.o.2 hC,((V9.o.2.2.trans (Kp.of (S:=c.in_ C) H10.o) fun _ _ e=>e).trans H11.o.2 fun _ _ e=>Or.inl e)⟩
 ·rw [if_neg h2]
  by_cases h3:k=3
  ·subst h3
   have hd:(decide ((3:Int)=2)||decide ((3:Int)=3))=true:=rfl
   rw [hd]
   clear hd h2
   obtain ⟨rM,hM⟩:∃ rM,qd true ⟨s1,r.bad⟩=rM:=⟨_,rfl⟩
   rw [hM]
   have HM:=hid hM
   clear hM
   have C3:Hid (∀ W,PvAt c rM W→Calls Tryz.prog 109 #[.pointer (some ⟨c.Q,0,none⟩),.int .i64 1099511627775] W fun e w'=>e=.returned (.int .i64 ((numP c.l 1099511627775 rM).1:Nat))∧PvAt c (numP c.l 1099511627775 rM).2 w'∧Kp c.own W w'):=fun W q=>qE q 1099511627775 1099511627775 rfl (by decide)
   generalize numP c.l 1099511627775 rM=A at *
   obtain ⟨sz,rB⟩:=A
   simp only at C3 ⊢
   have C4:Hid (∀ W,PvAt c rB W→Calls Tryz.prog 111 #[.pointer (some ⟨c.Q,0,none⟩)] W fun e w'=>e=.returned (.agg (hA (sumP c.l rB).1))∧PvAt c (sumP c.l rB).2 w'∧Kp c.own W w'):=fun W q=>yr q
   have hl:(sumP c.l rB).1.length=32:=qO _
   generalize sumP c.l rB=A at *
   obtain ⟨sm,rC⟩:=A
   simp only at C4 hl ⊢
   obtain ⟨Hc,hHc⟩:∃ Hc:Array Value,Hc=hA sm:=⟨_,rfl⟩
   have HH:Hid (Hc=hA sm∧Hc.size=32∧Hc.all (·.oneCell')=true∧Hc.toList=sm.map Su.vb):=⟨hHc,by rw [hHc];exact jG hl,by rw [hHc];exact jn _,by rw [hHc];simp [hA]⟩
   rw [← hHc] at C4
   rw [show ((0:Nat):Int)=0 from rfl]
   rw [jh hl]
   have HS:=hid hl
   have C5:=fun W=>yt ⟨3,0,(sz:Int),sm,hl⟩ W
   obtain ⟨VX,hVX⟩:∃ VX:Array Value,VX=(vx ⟨3,0,(sz:Int),sm,hl⟩).toArray:=⟨_,rfl⟩
   have HV:Hid (VX=(vx ⟨3,0,(sz:Int),sm,hl⟩).toArray∧VX.size=35):=⟨hVX,by rw [hVX];exact jx _⟩
   rw [← hVX] at C5
   obtain ⟨bv,hbv⟩:∃ bv,valB ⟨3,0,(sz:Int),sm,hl⟩=bv:=⟨_,rfl⟩
   rw [hbv] at C5 ⊢
   have C5:=hid C5
   clear hVX hbv hHc
   go_enter Tryz.func91,Tryz.ntmps91
   go_wp2_with (first
    | (go_at_call 87;refine C1.o.mono ?_;rintro e w1 ⟨rfl,p1,p2⟩;have H1:Hid (PvAt c ⟨s1,r.bad⟩ w1∧ClI C nv ⟨stp,vz,cnt,top,sds⟩ sv dv w1∧Kp c.own w w1):=⟨p1,HI.o.kp p2 hC,p2⟩;clear p1 p2)
    | ((with_reducible refine xP 3 (.tmp 13) (.tmp 10) C 2 (.int .i64 3) 117 (clc nv sv vz (cnt:Int) top dv).toArray ?_ ?_ ?_ ?_ ?_ ?_);rfl;rfl;kernel_rfl;(have hc9:=(show w1.cell? ⟨C,2,none⟩=some (.int .i64 0) by rw [j9 H1.o.2.1.at_];rfl);have hf9:=(show w1.frozen? ⟨C,2,none⟩=false by simp [World.frozen?,H1.o.2.1.at_]);unfold execOp;simp [hc9,hf9,go_sem]);exact H1.o.2.1.at_;intro w2 H2;have V2:Hid (ClI C nv (⟨stp,⟨3,0,0,j7,jC⟩,cnt,top,sds⟩:Cm) sv dv w2∧PvAt c ⟨s1,r.bad⟩ w2∧Kp (c.in_ C) w w2):=⟨H1.o.2.1.re H2.o.1 rfl rfl H1.o.2.1.tl (by rw [H2.o.2.1];exact congrArg (fun a=>some (Obj.cells a 117 (0,0))) (wU _ _ _ _ _ _ _ _ _ _ _)),H1.o.1.kp H2.o.1 (fun b e q=>by have:=q.2;omega),(H1.o.2.2.mono (fun b _ e=>Or.inl e):Kp (c.in_ C) w w1).trans H2.o.1 (fun b hb e=>Or.inr (by omega))⟩;have hz2:w2.cell? ⟨C,2,none⟩=some (.int .i64 3):=(by rw [j9 V2.o.1.at_];rfl))
    | ((with_reducible refine qG 29 112 #[.pointer (some ⟨c.Q,0,none⟩),.bool true] (fun v w'=>v=.tuple #[]∧PvAt c rM w'∧Kp c.own w2 w') ?_ ?_ ?_ ?_ ?_);rfl;kernel_rfl;(unfold execOp;simp [go_sem]);exact ((CM.o ⟨s1,r.bad⟩ true _ V2.o.2.1).mono fun e w' z=>⟨_,z.1,rfl,by rw [← HM.o];exact z.2.1,z.2.2⟩);rintro v w3 ⟨rfl,p1,p2⟩;have H3:Hid (PvAt c rM w3∧ClI C nv (⟨stp,⟨3,0,0,j7,jC⟩,cnt,top,sds⟩:Cm) sv dv w3∧Kp (c.in_ C) w w3):=⟨p1,V2.o.1.kp p2 hC,V2.o.2.2.trans p2 (fun _ _ e=>Or.inl e)⟩;clear p1 p2;have hz3:w3.cell? ⟨C,2,none⟩=some (.int .i64 3):=(by rw [j9 H3.o.2.1.at_];rfl))
    | ((with_reducible refine qG 45 109 #[.pointer (some ⟨c.Q,0,none⟩),.int .i64 1099511627775] (fun v w'=>v=.int .i64 (sz:Nat)∧PvAt c rB w'∧Kp c.own w3 w') ?_ ?_ ?_ ?_ ?_);rfl;kernel_rfl;(unfold execOp;simp [go_sem]);exact ((C3.o _ H3.o.1).mono fun e w' z=>⟨_,z.1,rfl,z.2⟩);rintro v w6 ⟨rfl,p1,p2⟩;have H6:Hid (PvAt c rB w6∧ClI C nv (⟨stp,⟨3,0,0,j7,jC⟩,cnt,top,sds⟩:Cm) sv dv w6∧Kp (c.in_ C) w w6):=⟨p1,H3.o.2.1.kp p2 hC,H3.o.2.2.trans p2 (fun _ _ e=>Or.inl e)⟩;clear p1 p2)
    | (go_at_call 111;refine (C4.o _ H6.o.1).mono ?_;rintro e w7 ⟨rfl,p1,p2⟩;have H7:Hid (PvAt c rC w7∧ClI C nv (⟨stp,⟨3,0,0,j7,jC⟩,cnt,top,sds⟩:Cm) sv dv w7∧Kp (c.in_ C) w w7):=⟨p1,H6.o.2.1.kp p2 hC,H6.o.2.2.trans p2 (fun _ _ e=>Or.inl e)⟩;clear p1 p2)
    | ((with_reducible refine xP 3 (.tmp 50) (.tmp 45) C 4 (.int .i64 (sz:Int)) 117 (clc nv sv ⟨3,0,0,j7,jC⟩ (cnt:Int) top dv).toArray ?_ ?_ ?_ ?_ ?_ ?_);rfl;rfl;kernel_rfl;(have hc9:=(show w7.cell? ⟨C,4,none⟩=some (.int .i64 0) by rw [j9 H7.o.2.1.at_];rfl);have hf9:=(show w7.frozen? ⟨C,4,none⟩=false by simp [World.frozen?,H7.o.2.1.at_]);unfold execOp;simp [hc9,hf9,go_sem]);exact H7.o.2.1.at_;intro w8 H8;have V8:Hid (PvAt c rC w8∧ClI C nv (⟨stp,⟨3,0,(sz:Int),j7,jC⟩,cnt,top,sds⟩:Cm) sv dv w8∧Kp (c.in_ C) w w8):=⟨H7.o.1.kp H8.o.1 (fun b e q=>by have:=q.2;omega),H7.o.2.1.re H8.o.1 rfl rfl H7.o.2.1.tl (by rw [H8.o.2.1];exact congrArg (fun a=>some (Obj.cells a 117 (0,0))) (wV _ _ _ _ _ _ _ _ _ _ _)),H7.o.2.2.trans H8.o.1 (fun b hb e=>Or.inr (by omega))⟩)
    | ((with_reducible refine aN 22 (.tmp 53) (.tmp 47) C 5 Hc 117 (clc nv sv ⟨3,0,(sz:Int),j7,jC⟩ (cnt:Int) top dv) ?_ ?_ ?_ ?_ ?_ ?_ ?_ ?_ ?_ ?_);rfl;rfl;kernel_rfl;rfl;rfl;exact V8.o.2.1.at_;exact (by rw [HH.o.2.1,yW _ _ _ _ _ _ V8.o.2.1.tl];decide);exact (by rw [jK,HH.o.2.1]);exact HH.o.2.2.1;intro w9 H9;have V9:Hid (PvAt c rC w9∧ClI C nv (⟨stp,⟨3,0,(sz:Int),sm,HS.o⟩,cnt,top,sds⟩:Cm) sv dv w9∧Kp (c.in_ C) w w9):=⟨V8.o.1.kp H9.o.1 (fun b e q=>by have:=q.2;omega),V8.o.2.1.re H9.o.1 rfl rfl V8.o.2.1.tl (by rw [H9.o.2.1,HH.o.2.2.2];exact congrArg (fun l=>some (Obj.cells (List.toArray l) 117 (0,0))) (wW _ _ _ _ _ _ _ _ _ _ _ _)),V8.o.2.2.trans H9.o.1 (fun b hb e=>Or.inr (by omega))⟩)
    | ((with_reducible refine jE 58 24 (.tmp 57) C 2 VX _ ?_ ?_ ?_ ?_ ?_ jR ?_ ?_ ?_);rfl;rfl;kernel_rfl;rfl;exact (by have:=(Lies.of_heap V9.o.2.1.at_).part 2 37;rw [fj] at this;rw [HV.o.1];exact this);rfl;exact (by rw [qU,HV.o.2]))
    | (go_at_call 65;refine (C5.o w9).mono ?_;rintro e w10 ⟨rfl,p1⟩;have H10:Hid (G w9 w10):=p1;clear p1)
    | ((with_reducible refine qG 60 112 #[.pointer (some ⟨c.Q,0,none⟩),.bool bv] (fun v w'=>v=.tuple #[]∧PvAt c (qd bv rC) w'∧Kp c.own w10 w') ?_ ?_ ?_ ?_ ?_);rfl;kernel_rfl;(unfold execOp;simp [go_sem]);exact ((CM.o rC bv _ (V9.o.1.up H10.o)).mono fun e w' z=>⟨_,z.1,rfl,z.2⟩);rintro v w11 ⟨rfl,p1,p2⟩;have H11:=hid (⟨p1,p2⟩:_∧_);clear p1 p2))
   go_end0
   exact ⟨rfl,H11.o.1,(V9.o.2.1.up H10.o).kp H11.o.2 hC,((V9.o.2.2.trans (Kp.of (S:=c.in_ C) H10.o) fun _ _ e=>e).trans H11.o.2 fun _ _ e=>Or.inl e)⟩
  ·have hd:(decide (k=2)||decide (k=3))=false:=by simp [h2,h3]
   rw [hd]
   clear hd
   have hb2:(k==2)=false:=by simp [h2]
   have hb3:(k==3)=false:=by simp [h3]
   obtain ⟨rM,hM⟩:∃ rM,qd false ⟨s1,r.bad⟩=rM:=⟨_,rfl⟩
   rw [hM]
   have HM:=hid hM
   clear hM
   have C3:Hid (∀ W,PvAt c rM W→Calls Tryz.prog 109 #[.pointer (some ⟨c.Q,0,none⟩),.int .i64 1099511627775] W fun e w'=>e=.returned (.int .i64 ((numP c.l 1099511627775 rM).1:Nat))∧PvAt c (numP c.l 1099511627775 rM).2 w'∧Kp c.own W w'):=fun W q=>qE q 1099511627775 1099511627775 rfl (by decide)
   generalize numP c.l 1099511627775 rM=A at *
   obtain ⟨sz,rB⟩:=A
   simp only at C3 ⊢
   have C4:Hid (∀ W,PvAt c rB W→Calls Tryz.prog 111 #[.pointer (some ⟨c.Q,0,none⟩)] W fun e w'=>e=.returned (.agg (hA (sumP c.l rB).1))∧PvAt c (sumP c.l rB).2 w'∧Kp c.own W w'):=fun W q=>yr q
   have hl:(sumP c.l rB).1.length=32:=qO _
   generalize sumP c.l rB=A at *
   obtain ⟨sm,rC⟩:=A
   simp only at C4 hl ⊢
   obtain ⟨Hc,hHc⟩:∃ Hc:Array Value,Hc=hA sm:=⟨_,rfl⟩
   have HH:Hid (Hc=hA sm∧Hc.size=32∧Hc.all (·.oneCell')=true∧Hc.toList=sm.map Su.vb):=⟨hHc,by rw [hHc];exact jG hl,by rw [hHc];exact jn _,by rw [hHc];simp [hA]⟩
   rw [← hHc] at C4
   rw [show ((0:Nat):Int)=0 from rfl]
   rw [jh hl]
   have HS:=hid hl
   have C5:=fun W=>yt ⟨k,0,(sz:Int),sm,hl⟩ W
   obtain ⟨VX,hVX⟩:∃ VX:Array Value,VX=(vx ⟨k,0,(sz:Int),sm,hl⟩).toArray:=⟨_,rfl⟩
   have HV:Hid (VX=(vx ⟨k,0,(sz:Int),sm,hl⟩).toArray∧VX.size=35):=⟨hVX,by rw [hVX];exact jx _⟩
   rw [← hVX] at C5
   obtain ⟨bv,hbv⟩:∃ bv,valB ⟨k,0,(sz:Int),sm,hl⟩=bv:=⟨_,rfl⟩
   rw [hbv] at C5 ⊢
   have C5:=hid C5
   clear hVX hbv hHc
   go_enter Tryz.func91,Tryz.ntmps91
   go_wp2_with (first
    | (go_at_call 87;refine C1.o.mono ?_;rintro e w1 ⟨rfl,p1,p2⟩;have H1:Hid (PvAt c ⟨s1,r.bad⟩ w1∧ClI C nv ⟨stp,vz,cnt,top,sds⟩ sv dv w1∧Kp c.own w w1):=⟨p1,HI.o.kp p2 hC,p2⟩;clear p1 p2)
    | ((with_reducible refine xP 3 (.tmp 13) (.tmp 10) C 2 (.int .i64 k) 117 (clc nv sv vz (cnt:Int) top dv).toArray ?_ ?_ ?_ ?_ ?_ ?_);rfl;rfl;kernel_rfl;(have hc9:=(show w1.cell? ⟨C,2,none⟩=some (.int .i64 0) by rw [j9 H1.o.2.1.at_];rfl);have hf9:=(show w1.frozen? ⟨C,2,none⟩=false by simp [World.frozen?,H1.o.2.1.at_]);unfold execOp;simp [hc9,hf9,go_sem]);exact H1.o.2.1.at_;intro w2 H2;have V2:Hid (ClI C nv (⟨stp,⟨k,0,0,j7,jC⟩,cnt,top,sds⟩:Cm) sv dv w2∧PvAt c ⟨s1,r.bad⟩ w2∧Kp (c.in_ C) w w2):=⟨H1.o.2.1.re H2.o.1 rfl rfl H1.o.2.1.tl (by rw [H2.o.2.1];exact congrArg (fun a=>some (Obj.cells a 117 (0,0))) (wU _ _ _ _ _ _ _ _ _ _ _)),H1.o.1.kp H2.o.1 (fun b e q=>by have:=q.2;omega),(H1.o.2.2.mono (fun b _ e=>Or.inl e):Kp (c.in_ C) w w1).trans H2.o.1 (fun b hb e=>Or.inr (by omega))⟩;have hz2:w2.cell? ⟨C,2,none⟩=some (.int .i64 k):=(by rw [j9 V2.o.1.at_];rfl))
    | ((with_reducible refine qG 29 112 #[.pointer (some ⟨c.Q,0,none⟩),.bool false] (fun v w'=>v=.tuple #[]∧PvAt c rM w'∧Kp c.own w2 w') ?_ ?_ ?_ ?_ ?_);rfl;kernel_rfl;(unfold execOp;simp [go_sem]);exact ((CM.o ⟨s1,r.bad⟩ false _ V2.o.2.1).mono fun e w' z=>⟨_,z.1,rfl,by rw [← HM.o];exact z.2.1,z.2.2⟩);rintro v w3 ⟨rfl,p1,p2⟩;have H3:Hid (PvAt c rM w3∧ClI C nv (⟨stp,⟨k,0,0,j7,jC⟩,cnt,top,sds⟩:Cm) sv dv w3∧Kp (c.in_ C) w w3):=⟨p1,V2.o.1.kp p2 hC,V2.o.2.2.trans p2 (fun _ _ e=>Or.inl e)⟩;clear p1 p2;have hz3:w3.cell? ⟨C,2,none⟩=some (.int .i64 k):=(by rw [j9 H3.o.2.1.at_];rfl))
    | ((with_reducible refine qG 45 109 #[.pointer (some ⟨c.Q,0,none⟩),.int .i64 1099511627775] (fun v w'=>v=.int .i64 (sz:Nat)∧PvAt c rB w'∧Kp c.own w3 w') ?_ ?_ ?_ ?_ ?_);rfl;kernel_rfl;(unfold execOp;simp [go_sem]);exact ((C3.o _ H3.o.1).mono fun e w' z=>⟨_,z.1,rfl,z.2⟩);rintro v w6 ⟨rfl,p1,p2⟩;have H6:Hid (PvAt c rB w6∧ClI C nv (⟨stp,⟨k,0,0,j7,jC⟩,cnt,top,sds⟩:Cm) sv dv w6∧Kp (c.in_ C) w w6):=⟨p1,H3.o.2.1.kp p2 hC,H3.o.2.2.trans p2 (fun _ _ e=>Or.inl e)⟩;clear p1 p2)
    | (go_at_call 111;refine (C4.o _ H6.o.1).mono ?_;rintro e w7 ⟨rfl,p1,p2⟩;have H7:Hid (PvAt c rC w7∧ClI C nv (⟨stp,⟨k,0,0,j7,jC⟩,cnt,top,sds⟩:Cm) sv dv w7∧Kp (c.in_ C) w w7):=⟨p1,H6.o.2.1.kp p2 hC,H6.o.2.2.trans p2 (fun _ _ e=>Or.inl e)⟩;clear p1 p2)
    | ((with_reducible refine xP 3 (.tmp 50) (.tmp 45) C 4 (.int .i64 (sz:Int)) 117 (clc nv sv ⟨k,0,0,j7,jC⟩ (cnt:Int) top dv).toArray ?_ ?_ ?_ ?_ ?_ ?_);rfl;rfl;kernel_rfl;(have hc9:=(show w7.cell? ⟨C,4,none⟩=some (.int .i64 0) by rw [j9 H7.o.2.1.at_];rfl);have hf9:=(show w7.frozen? ⟨C,4,none⟩=false by simp [World.frozen?,H7.o.2.1.at_]);unfold execOp;simp [hc9,hf9,go_sem]);exact H7.o.2.1.at_;intro w8 H8;have V8:Hid (PvAt c rC w8∧ClI C nv (⟨stp,⟨k,0,(sz:Int),j7,jC⟩,cnt,top,sds⟩:Cm) sv dv w8∧Kp (c.in_ C) w w8):=⟨H7.o.1.kp H8.o.1 (fun b e q=>by have:=q.2;omega),H7.o.2.1.re H8.o.1 rfl rfl H7.o.2.1.tl (by rw [H8.o.2.1];exact congrArg (fun a=>some (Obj.cells a 117 (0,0))) (wV _ _ _ _ _ _ _ _ _ _ _)),H7.o.2.2.trans H8.o.1 (fun b hb e=>Or.inr (by omega))⟩)
    | ((with_reducible refine aN 22 (.tmp 53) (.tmp 47) C 5 Hc 117 (clc nv sv ⟨k,0,(sz:Int),j7,jC⟩ (cnt:Int) top dv) ?_ ?_ ?_ ?_ ?_ ?_ ?_ ?_ ?_ ?_);rfl;rfl;kernel_rfl;rfl;rfl;exact V8.o.2.1.at_;exact (by rw [HH.o.2.1,yW _ _ _ _ _ _ V8.o.2.1.tl];decide);exact (by rw [jK,HH.o.2.1]);exact HH.o.2.2.1;intro w9 H9;have V9:Hid (PvAt c rC w9∧ClI C nv (⟨stp,⟨k,0,(sz:Int),sm,HS.o⟩,cnt,top,sds⟩:Cm) sv dv w9∧Kp (c.in_ C) w w9):=⟨V8.o.1.kp H9.o.1 (fun b e q=>by have:=q.2;omega),V8.o.2.1.re H9.o.1 rfl rfl V8.o.2.1.tl (by rw [H9.o.2.1,HH.o.2.2.2];exact congrArg (fun l=>some (Obj.cells (List.toArray l) 117 (0,0))) (wW _ _ _ _ _ _ _ _ _ _ _ _)),V8.o.2.2.trans H9.o.1 (fun b hb e=>Or.inr (by omega))⟩)
    | ((with_reducible refine jE 58 24 (.tmp 57) C 2 VX _ ?_ ?_ ?_ ?_ ?_ jR ?_ ?_ ?_);rfl;rfl;kernel_rfl;rfl;exact (by have:=(Lies.of_heap V9.o.2.1.at_).part 2 37;rw [fj] at this;rw [HV.o.1];exact this);rfl;exact (by rw [qU,HV.o.2]))
    | (go_at_call 65;refine (C5.o w9).mono ?_;rintro e w10 ⟨rfl,p1⟩;have H10:Hid (G w9 w10):=p1;clear p1)
    | ((with_reducible refine qG 60 112 #[.pointer (some ⟨c.Q,0,none⟩),.bool bv] (fun v w'=>v=.tuple #[]∧PvAt c (qd bv rC) w'∧Kp c.own w10 w') ?_ ?_ ?_ ?_ ?_);rfl;kernel_rfl;(unfold execOp;simp [go_sem]);exact ((CM.o rC bv _ (V9.o.1.up H10.o)).mono fun e w' z=>⟨_,z.1,rfl,z.2⟩);rintro v w11 ⟨rfl,p1,p2⟩;have H11:=hid (⟨p1,p2⟩:_∧_);clear p1 p2))
   go_end0
   exact ⟨rfl,H11.o.1,(V9.o.2.1.up H10.o).kp H11.o.2 hC,((V9.o.2.2.trans (Kp.of (S:=c.in_ C) H10.o) fun _ _ e=>e).trans H11.o.2 fun _ _ e=>Or.inl e)⟩
end Go.Proofs.YtdeanahpiigonaaGreatDoor
