import Derived.Test.YtdeanahpiigonaaGreatDoorHH2
set_option maxRecDepth 100000
set_option maxHeartbeats 16000000
namespace Go.Proofs.YtdeanahpiigonaaGreatDoor
open Go.RowKit Hm
attribute [local go_sem] Oper.semAt_some
theorem yU {ops:Array Oper} {rest:List Oper} {o:Oper} {a:Act} {w:World} {Q:Exit→Act→World→Prop} {c:Rq} {r:Pv} (hP:PvAt c r w) (hd:o.dst=none) (ho:o.op=.store 4 (.tmp 61) (.const (.bool true))) (hw:Region.wanted o (yielded ops a.tmps)=true) (hx:a.eval (.tmp 61)=.pointer (some ⟨c.Q,1,none⟩))
  (h:∀ w',PvAt c ⟨r.s,true⟩ w'→Kp c.own w w'→wpList Tryz.prog ops Q rest a w'):wpList Tryz.prog ops Q (o::rest) a w:=by
 refine xO 4 (.tmp 61) (.const (.bool true)) c.Q 1 (.bool true) 113 #[.pointer (some ⟨c.R,0,none⟩),.bool r.bad] hd ho hw ?_ hP.q ?_
 ·have hc9:=(show w.cell? ⟨c.Q,1,none⟩=some (.bool r.bad) by rw [j9 hP.q];rfl)
  have hf9:=(show w.frozen? ⟨c.Q,1,none⟩=false by simp [World.frozen?,hP.q])
  unfold execOp
  simp only [ho,hx]
  simp [hc9,hf9,go_sem]
 ·intro w5 k5 v5 _
  have hF:PvAt c ⟨r.s,true⟩ w5∧Kp c.own w w5:=hP.set k5 (by rw [v5];rfl)
  exact h w5 hF.1 hF.2
theorem lP {c:Rq} {r:Pv} {w:World} (h:PvAt c r w) (C:Nat) (hC:c.Q<C) (names:List ByteArray) (N:Nat) (hN:names.length=N) (na:Option Addr) (nc:Nat) (hnm:∀ i s,names[i]?=some s→∃ g,na=some ⟨g,0,none⟩∧g<c.lo∧w.cell? ⟨g,i,none⟩=some (.string s)) (hNl:N≤64) (hcl:ClI C (.slice na N nc) cm0 (.slice none 0 0) (.slice none 0 0) w) (v:Vd):
  Calls Tryz.prog 68 #[.pointer (some ⟨c.Q,0,none⟩),.pointer (some ⟨C,0,none⟩),.agg (vx v).toArray] w fun e w'=>e=.returned (.tuple #[])∧PvAt c (yg c.l names v r).2 w'∧(∃ sv dv,ClI C (.slice na N nc) (yg c.l names v r).1 sv dv w')∧Kp (c.in_ C) w w':=by
 obtain ⟨X,hX⟩:∃ X:Array Value,X=(vx v).toArray:=⟨_,rfl⟩
 have HX:Hid (X=(vx v).toArray∧X.size=35∧X[0]?=some (.int .i64 v.kind)):=by subst hX;exact ⟨rfl,jx v,rfl⟩
 rw [← hX]
 clear hX
 have HN:=hid (⟨hnm,hN⟩:_∧_)
 have hQ:=h.Qlt
 have hCl:=hcl.lt
 have CB:Hid (∀ rr W,PvAt c rr W→Calls Tryz.prog 87 #[.pointer (some ⟨c.R,0,none⟩)] W fun e w'=>e=.returned (.int .u8 (Wi.byteS c.l rr.s).1)∧PvAt c ⟨(Wi.byteS c.l rr.s).2,rr.bad⟩ w'∧Kp c.own W w'):=fun rr W q=>(Wi.gY c.lo c.R c.l rr.s W q.rd).mono (by
  rintro e w' ⟨rfl,h1,h2⟩
  exact ⟨rfl,q.wire h1 h2⟩)
 have HI:=hid (⟨h,hcl⟩:_∧_)
 clear h hcl hnm
 have hpp:yg c.l names v r=endP c.l names v (qS c.l N (Wi.byteS c.l r.s).1 ⟨(Wi.byteS c.l r.s).2,r.bad⟩).1 (qS c.l N (Wi.byteS c.l r.s).1 ⟨(Wi.byteS c.l r.s).2,r.bad⟩).2.1 (qS c.l N (Wi.byteS c.l r.s).1 ⟨(Wi.byteS c.l r.s).2,r.bad⟩).2.2:=by rw [← hN];rfl
 rw [hpp]
 clear hpp
 have C0:=CB.o r
 generalize Wi.byteS c.l r.s=A at *
 obtain ⟨p0,s0⟩:=A
 simp only at C0 ⊢
 have HC0:=hid C0
 clear C0
 obtain ⟨S,hS⟩:∃ S,qS c.l N p0 ⟨s0,r.bad⟩=S:=⟨_,rfl⟩
 rw [hS]
 go_enter Tryz.func68,Tryz.ntmps68
 go_upto_region 2 with (first
  | ((with_reducible refine jt 5 24 (.tmp 2) X ?_ ?_ ?_ ?_ ?_);rfl;rfl;kernel_rfl;rfl;intro w1 b1 H1;have HA:Hid (PI c r C b1 (.slice na N nc) cm0 (.slice none 0 0) (.slice none 0 0) w X w1∧C<b1):=(by obtain ⟨p1,p2,p3,p4⟩:=H1.o;exact ⟨⟨HI.o.1.up p2,HI.o.2.up p2,Kp.of p2,p3⟩,by omega⟩);have hz1:=HA.o.1.pv.cell0)
  | (go_at_call 87;refine (HC0.o _ HA.o.1.pv).mono ?_;rintro e w2 ⟨rfl,q1,q2⟩;have HB:Hid (PI c ⟨s0,r.bad⟩ C b1 (.slice na N nc) cm0 (.slice none 0 0) (.slice none 0 0) w X w2):=HA.o.1.kept q1 q2 hC HA.o.2;clear q1 q2))
 go_loopg [6] N (fun gh p6 wr=>∃ (part:Int) (m:Nat),gh=0+m∧p6=.int .u8 part∧m≤N∧Hid (∃ L rr sa sc,L.length+m=N∧S=(L++(qS c.l m part rr).1,(qS c.l m part rr).2)∧PI c rr C b1 (.slice na N nc) ⟨L,vz,0,j7,[]⟩ (.slice sa L.length sc) (.slice none 0 0) w X wr))
 case atStart=>exact ⟨p0,N,by omega,rfl,Nat.le_refl _,[],⟨s0,r.bad⟩,none,0,by simp,by rw [← hS];rfl,HB.o⟩
 case round=>
  have hb1C:=HA.o.2
  clear H1 HA HB hS HC0 hz1
  obtain ⟨part,m,rfl,rfl,hm,HR⟩:=hrel
  by_cases hgo:part=1∧0<m
  ·obtain ⟨rfl,hm0⟩:=hgo
   obtain ⟨m',rfl⟩:∃ m',m=m'+1:=⟨m-1,by omega⟩
   obtain ⟨L,rr,sa,sc,hL,hSS,hP⟩:=HR.o
   have hz1:wr.cell? ⟨C,1,none⟩=some (.slice sa L.length sc):=by rw [j9 hP.cl.at_];rfl
   have hz0:wr.cell? ⟨C,0,none⟩=some (.slice na N nc):=by rw [j9 hP.cl.at_];rfl
   obtain ⟨ln,hln⟩:∃ ln,L.length=ln:=⟨_,rfl⟩
   rw [hln] at hz1 hP
   have hlnI:(ln:Int)<N:=by omega
   have HP:=hid (⟨hL,hSS,hP,hln⟩:_∧_∧_∧_)
   clear hL hSS hP HR hln
   go_upto_region 2 with fail
   go_still_tail 13,Wi.Tryz.mixed
   obtain ⟨w3,hw3⟩:∃ w3,w3=wr.drew:=⟨_,rfl⟩
   change wpList _ _ _ _ _ wr.drew
   rw [← hw3]
   have HP3:Hid (PI c rr C b1 (.slice na N nc) ⟨L,vz,0,j7,[]⟩ (.slice sa ln sc) (.slice none 0 0) w X w3):=by rw [hw3];exact HP.o.2.2.1.up (G.drew wr)
   clear hw3 hz1 hz0
   go_upto_region 3 with fail
   have C1:Hid (∀ W,PvAt c rr W→Calls Tryz.prog 88 #[.pointer (some ⟨c.Q,0,none⟩)] W fun e w'=>∃ cs,e=.returned (.agg cs)∧StAt w' W.heap.size cs (yZ c.l rr).1∧PvAt c (yZ c.l rr).2 w'∧Kp c.own W w'):=fun W q=>oW q
   have hgo:=lO c.l m' rr
   have hSS:=HP.o.2.1
   rw [hgo] at hSS
   have C2:=CB.o (yZ c.l rr).2
   generalize yZ c.l rr=A at *
   obtain ⟨sq,rs⟩:=A
   simp only at C1 C2 hSS
   have HC2:=hid C2
   have HSS:=hid hSS
   clear hgo hSS C2
   refine regq3 C c.Q (.slice sa ln sc) (fun _ W=>PI c rr C b1 (.slice na N nc) ⟨L,vz,0,j7,[]⟩ (.slice sa ln sc) (.slice none 0 0) w X W)
    (fun r' W=>∃ cs,r' 1=.agg cs∧StAt W (C+1) cs sq∧PI c rs C b1 (.slice na N nc) ⟨L,vz,0,j7,[]⟩ (.slice sa ln sc) (.slice none 0 0) w X W)
    (fun r' W=>∃ W0 cs,StAt W0 (C+1) cs sq∧PI c rs C b1 (.slice na N nc) ⟨L,vz,0,j7,[]⟩ (.slice sa ln sc) (.slice none 0 0) w X W0∧W=W0.alloc (.cells cs 129)∧r' 2=.slice (some ⟨W0.heap.size,0,none⟩) 1 1)
    (fun r' W=>PvAt c rs W∧W.heap[C]?=some (.cells (clc (.slice na N nc) (.slice sa ln sc) vz ((0:Nat):Int) j7 (.slice none 0 0)).toArray 117 (0,0))∧StL W (C+1) (r' 3) (L++[sq])∧SdL W (C+1) (.slice none 0 0) []∧Kp (c.in_ C) w W∧W.heap[b1]?=some (.cells X 24 (0,0)))
    (fun r' W=>PI c rs C b1 (.slice na N nc) ⟨L++[sq],vz,0,j7,[]⟩ (r' 3) (.slice none 0 0) w X W)
    (fun W=>W.cell? ⟨C,1,none⟩=some (.slice sa ln sc)) _ w3 rfl rfl rfl (fun _ _ q=>by rw [j9 q.cl.at_];rfl) (fun _ _ q=>by obtain ⟨_,_,_,q⟩:=q;rw [j9 q.cl.at_];rfl) ?b2 (fun _ _ q=>by rw [j9 q.2.1];rfl) ?c1 ?c2 ?c3 ?c4 (fun _ q=>q) ?c5 ?c6
   case b2=>
    rintro _ W ⟨W0,cs,_,q,rfl,_⟩
    exact (G.alloc W0 _).cell (by rw [j9 q.cl.at_];rfl)
   case c5=>exact fun _=>HP3.o.up (G.drew _)
   case c1=>
    intro r' W q
    refine (C1.o W q.pv).mono ?_
    rintro e W' ⟨cs,rfl,g0,g1,g2⟩
    exact ⟨_,rfl,cs,by rw [jA],g0.mono (by have:=q.cl.lt;omega),q.kept g1 g2 hC hb1C⟩
   case c2=>
    rintro r' W ⟨cs,e1,g0,q⟩
    rw [e1]
    exact ⟨g0.size,W,cs,g0,q,rfl,by rw [jA]⟩
   case c3=>
    rintro r' W ⟨W0,cs,g0,q,rfl,e2⟩
    rw [e2]
    obtain ⟨u,W',p1,p2,p3,p4,p5,p6,p7⟩:=q.cl.appStL q.pv hC q.kp 114 cs sq g0 g0.size g0.one (by show L.length+1≤100000;have:=HP.o.2.2.2;omega)
    exact ⟨u,W',p1,p2,p3,by rw [jA];exact p4,p5,p6,(p7 b1 _ _ q.x (by decide)).trans q.x⟩
   case c4=>
    rintro r' W ⟨p2,p3,p4,p5,p6,p7⟩
    have hk:=Kp.set W C 1 (r' 3)
    refine ⟨⟨_,by rw [j9 p3];rfl⟩,by simp [World.frozen?,p3],(by obtain ⟨a,k,e⟩:=p4.form;exact ⟨_,_,_,e⟩),p2.kp hk (fun b e q=>by have:=q.2;omega),⟨?_,p4.keep fun b _ _ hb q _=>hk.block b (ga q).1 (by omega),p5.keep fun b _ _ hb q _=>hk.block b (ga q).1 (by omega),jC⟩,p6.trans hk (fun b _ e=>.inr (by omega)),(hk.block b1 (ga p7).1 (by omega)).trans p7⟩
    rw [jI _ p3]
    exact congrArg (fun a=>some (Obj.cells a 117 (0,0))) (lE _ _ _ _ _ _ _)
   case c6=>
    intro r' W q
    rw [foldq3]
    obtain ⟨ea,ec,hee⟩:=q.cl.st.form
    generalize hr3:r' 3=u3
    rw [hr3] at q hee
    subst hee
    have HQ:=hid q
    clear q hr3
    generalize r' 1=u1
    generalize r' 2=u2
    have hzq:=HQ.o.pv.cell0
    go_simp
    go_wp2_with (go_at_call 87;refine (HC2.o _ HQ.o.pv).mono ?_;rintro e w5 ⟨rfl,q1,q2⟩;have HF:=hid (HQ.o.kept q1 q2 hC hb1C);clear q1 q2)
    go_roundg m'
    case measure=>omega
    case rel=>
     refine ⟨_,m',by omega,rfl,by omega,L++[sq],_,ea,ec,?_,?_,HF.o⟩
     ·have:=HP.o.1;simp;omega
     ·rw [HSS.o];simp
  ·obtain ⟨L,rr,sa,sc,hL,hSS,hP⟩:=HR.o
   rw [gm c.l m part rr hgo,List.append_nil] at hSS
   obtain ⟨ln,hln⟩:∃ ln,L.length=ln:=⟨_,rfl⟩
   rw [hln] at hP hL
   have HP:=hid hP
   have HSS:=hid hSS
   have HLN:=hid hln
   have hN:=HN.o.2
   clear hP HR hSS hln
   by_cases h1:part=1
   ·subst h1
    have hz1:wr.cell? ⟨C,1,none⟩=some (.slice sa ln sc):=by rw [j9 HP.o.cl.at_];rfl
    have hz0:wr.cell? ⟨C,0,none⟩=some (.slice na N nc):=by rw [j9 HP.o.cl.at_];rfl
    have hlnN:ln=N:=by omega
    have hlnI:¬ (ln:Int)<N:=by omega
    have hab:((ln:Int)==(N:Int))=true:=by simp [hlnN]
    go_upto_region 2 with fail
    go_still_tail 13,Wi.Tryz.mixed
    obtain ⟨w3,hw3⟩:∃ w3,w3=wr.drew:=⟨_,rfl⟩
    change wpList _ _ _ _ _ wr.drew
    rw [← hw3]
    have HP3:Hid (PI c rr C b1 (.slice na N nc) ⟨L,vz,0,j7,[]⟩ (.slice sa ln sc) (.slice none 0 0) w X w3):=by rw [hw3];exact HP.o.up (G.drew wr)
    clear hw3 hz1 hz0
    have hz1:w3.cell? ⟨C,1,none⟩=some (.slice sa ln sc):=by rw [j9 HP3.o.cl.at_];rfl
    have hz0:w3.cell? ⟨C,0,none⟩=some (.slice na N nc):=by rw [j9 HP3.o.cl.at_];rfl
    have HZZ:=hid (⟨hz1,hz0⟩:_∧_)
    clear hz1 hz0
    go_upto_region 5 with fail
    refine wb C ln N sa na sc nc true _ w3 rfl rfl hab HZZ.o.1 HZZ.o.2 fun _=>?_
    rw [lQ]
    obtain ⟨w4,hw4⟩:∃ w4,w4=w3.drew:=⟨_,rfl⟩
    rw [← hw4]
    have HP4:Hid (PI c rr C b1 (.slice na N nc) ⟨L,vz,0,j7,[]⟩ (.slice sa ln sc) (.slice none 0 0) w X w4):=by rw [hw4];exact HP3.o.up (G.drew w3)
    clear hw4
    go_simp
    have hzV:w4.cell? ⟨b1,0,none⟩=some (.int .i64 v.kind):=by rw [j9 HP4.o.x];exact HX.o.2.2
    have hkq:∃ b,(v.kind==0)=b:=⟨_,rfl⟩
    obtain ⟨kb,hkb⟩:=hkq
    have HE0:endP c.l names v S.1 S.2.1 S.2.2=(⟨L,vz,0,j7,[]⟩,⟨rr.s,true⟩):=by
     rw [HSS.o]
     unfold endP
     simp only [cm0,HLN.o,hN]
     rw [if_neg (by omega),if_neg (by omega),if_neg (by omega)]
    have HE:=hid HE0
    clear HE0
    go_wp2_with (first
     | ((with_reducible refine yU HP4.o.pv ?_ ?_ ?_ ?_ ?_);rfl;rfl;kernel_rfl;rfl;intro w5 k5 v5;have HF:Hid (PvAt c ⟨rr.s,true⟩ w5∧Kp c.own w4 w5):=⟨k5,v5⟩;clear k5 v5))
    go_end0
    rw [HE.o]
    exact ⟨rfl,HF.o.1,⟨_,_,HP4.o.cl.kp HF.o.2 hC⟩,HP4.o.kp.trans HF.o.2 fun _ _ e=>.inl e⟩
   ·have hb1:(part==1)=false:=by simp [h1]
    go_upto_region 2 with fail
    refine regq2 part _ wr rfl rfl hb1 fun _=>?_
    rw [foldq2]
    obtain ⟨w3,hw3⟩:∃ w3,w3=wr.drew:=⟨_,rfl⟩
    rw [← hw3]
    have HP3:Hid (PI c rr C b1 (.slice na N nc) ⟨L,vz,0,j7,[]⟩ (.slice sa ln sc) (.slice none 0 0) w X w3):=by rw [hw3];exact HP.o.up (G.drew wr)
    clear hw3
    go_simp
    by_cases hlnN:ln=N
    ·have hab:((ln:Int)==(N:Int))=true:=by simp [hlnN]
     have hz1:w3.cell? ⟨C,1,none⟩=some (.slice sa ln sc):=by rw [j9 HP3.o.cl.at_];rfl
     have hz0:w3.cell? ⟨C,0,none⟩=some (.slice na N nc):=by rw [j9 HP3.o.cl.at_];rfl
     have HZZ:=hid (⟨hz1,hz0⟩:_∧_)
     clear hz1 hz0
     go_upto_region 5 with fail
     refine wb C ln N sa na sc nc true _ w3 rfl rfl hab HZZ.o.1 HZZ.o.2 fun _=>?_
     rw [lQ]
     obtain ⟨w4,hw4⟩:∃ w4,w4=w3.drew:=⟨_,rfl⟩
     rw [← hw4]
     have HP4:Hid (PI c rr C b1 (.slice na N nc) ⟨L,vz,0,j7,[]⟩ (.slice sa ln sc) (.slice none 0 0) w X w4):=by rw [hw4];exact HP3.o.up (G.drew w3)
     clear hw4
     go_simp
     have hzV:w4.cell? ⟨b1,0,none⟩=some (.int .i64 v.kind):=by rw [j9 HP4.o.x];exact HX.o.2.2
     by_cases hk:v.kind=0
     ·have hkb:(v.kind==0)=true:=by simp [hk]
      by_cases h2:part=2
      ·subst h2
       have HE0:endP c.l names v S.1 S.2.1 S.2.2=(⟨L,vz,0,j7,[]⟩,⟨rr.s,true⟩):=by
        rw [HSS.o]
        unfold endP
        simp only [cm0,HLN.o,hN]
        rw [if_neg (by omega),if_neg (by omega),if_neg (by omega)]
       have HE:=hid HE0
       clear HE0
       go_wp2_with (first
        | ((with_reducible refine yU HP4.o.pv ?_ ?_ ?_ ?_ ?_);rfl;rfl;kernel_rfl;rfl;intro w5 k5 v5;have HF:Hid (PvAt c ⟨rr.s,true⟩ w5∧Kp c.own w4 w5):=⟨k5,v5⟩;clear k5 v5))
       go_end0
       rw [HE.o]
       exact ⟨rfl,HF.o.1,⟨_,_,HP4.o.cl.kp HF.o.2 hC⟩,HP4.o.kp.trans HF.o.2 fun _ _ e=>.inl e⟩
      have hb2:(part==2)=false:=by simp [h2]
      by_cases h3:part=3
      ·subst h3
       have HE0:endP c.l names v S.1 S.2.1 S.2.2=(⟨L,vz,0,j7,[]⟩,⟨rr.s,true⟩):=by
        rw [HSS.o]
        unfold endP
        simp only [cm0,HLN.o,hN]
        rw [if_neg (by omega),if_neg (by omega),if_neg (by omega)]
       have HE:=hid HE0
       clear HE0
       go_wp2_with (first
        | ((with_reducible refine yU HP4.o.pv ?_ ?_ ?_ ?_ ?_);rfl;rfl;kernel_rfl;rfl;intro w5 k5 v5;have HF:Hid (PvAt c ⟨rr.s,true⟩ w5∧Kp c.own w4 w5):=⟨k5,v5⟩;clear k5 v5))
       go_end0
       rw [HE.o]
       exact ⟨rfl,HF.o.1,⟨_,_,HP4.o.cl.kp HF.o.2 hC⟩,HP4.o.kp.trans HF.o.2 fun _ _ e=>.inl e⟩
      have hb3:(part==3)=false:=by simp [h3]
      by_cases h4:part=4
      ·subst h4
       have HE0:endP c.l names v S.1 S.2.1 S.2.2=(⟨L,vz,0,j7,[]⟩,⟨rr.s,true⟩):=by
        rw [HSS.o]
        unfold endP
        simp only [cm0,HLN.o,hN]
        rw [if_neg (by omega),if_neg (by omega),if_neg (by omega)]
       have HE:=hid HE0
       clear HE0
       go_wp2_with (first
        | ((with_reducible refine yU HP4.o.pv ?_ ?_ ?_ ?_ ?_);rfl;rfl;kernel_rfl;rfl;intro w5 k5 v5;have HF:Hid (PvAt c ⟨rr.s,true⟩ w5∧Kp c.own w4 w5):=⟨k5,v5⟩;clear k5 v5))
       go_end0
       rw [HE.o]
       exact ⟨rfl,HF.o.1,⟨_,_,HP4.o.cl.kp HF.o.2 hC⟩,HP4.o.kp.trans HF.o.2 fun _ _ e=>.inl e⟩
      have hb4:(part==4)=false:=by simp [h4]
      have HE0:endP c.l names v S.1 S.2.1 S.2.2=(⟨L,vz,0,j7,[]⟩,⟨rr.s,true⟩):=by
       rw [HSS.o]
       unfold endP
       simp only [cm0,HLN.o,hN]
       rw [if_neg (by omega),if_neg (by omega),if_neg (by omega)]
      have HE:=hid HE0
      clear HE0
      go_wp2_with (first
       | ((with_reducible refine yU HP4.o.pv ?_ ?_ ?_ ?_ ?_);rfl;rfl;kernel_rfl;rfl;intro w5 k5 v5;have HF:Hid (PvAt c ⟨rr.s,true⟩ w5∧Kp c.own w4 w5):=⟨k5,v5⟩;clear k5 v5))
      go_end0
      rw [HE.o]
      exact ⟨rfl,HF.o.1,⟨_,_,HP4.o.cl.kp HF.o.2 hC⟩,HP4.o.kp.trans HF.o.2 fun _ _ e=>.inl e⟩
     ·have hkb:(v.kind==0)=false:=by simp [hk]
      by_cases h2:part=2
      ·subst h2
       have HE0:endP c.l names v S.1 S.2.1 S.2.2=yf c.l v ⟨L,vz,0,j7,[]⟩ rr:=by
        rw [HSS.o]
        unfold endP
        simp only [cm0,HLN.o,hN]
        rw [if_pos (by first | exact ⟨rfl,by omega,hk⟩ | exact ⟨trivial,by omega,hk⟩)]
       have HE:=hid HE0
       clear HE0
       have CF:Hid (∀ W,PI c rr C b1 (.slice na N nc) ⟨L,vz,0,j7,[]⟩ (.slice sa ln sc) (.slice none 0 0) w X W→Calls Tryz.prog 89 #[.pointer (some ⟨c.Q,0,none⟩),.pointer (some ⟨C,0,none⟩),.agg X] W fun e w'=>e=.returned (.tuple #[])∧PvAt c (yf c.l v ⟨L,vz,0,j7,[]⟩ rr).2 w'∧ClI C (.slice na N nc) (yf c.l v ⟨L,vz,0,j7,[]⟩ rr).1 (.slice sa ln sc) (.slice none 0 0) w'∧Kp (c.in_ C) W w'):=fun W q=>by rw [HX.o.1];exact lG q.pv C hC _ _ _ _ q.cl v
       go_wp2_with (first
        | ((with_reducible refine jE 74 24 (.tmp 5) b1 0 X _ ?_ ?_ ?_ ?_ ?_ jR ?_ ?_ ?_);rfl;rfl;kernel_rfl;rfl;exact Lies.of_heap HP4.o.x;rfl;exact (by rw [qU,HX.o.2.1]))
        | (go_at_call 89;refine (CF.o w4 HP4.o).mono ?_;rintro e w5 ⟨rfl,q1,q2,q3⟩;have HF:=hid (⟨q1,q2,q3⟩:_∧_∧_);clear q1 q2 q3))
       go_end0
       rw [HE.o]
       exact ⟨rfl,HF.o.1,⟨_,_,HF.o.2.1⟩,HP4.o.kp.trans HF.o.2.2 fun _ _ e=>e⟩
      have hb2:(part==2)=false:=by simp [h2]
      by_cases h3:part=3
      ·subst h3
       have HE0:endP c.l names v S.1 S.2.1 S.2.2=(⟨L,vz,0,j7,[]⟩,⟨rr.s,true⟩):=by
        rw [HSS.o]
        unfold endP
        simp only [cm0,HLN.o,hN]
        rw [if_neg (by omega),if_neg (by omega),if_neg (by omega)]
       have HE:=hid HE0
       clear HE0
       go_wp2_with (first
        | ((with_reducible refine yU HP4.o.pv ?_ ?_ ?_ ?_ ?_);rfl;rfl;kernel_rfl;rfl;intro w5 k5 v5;have HF:Hid (PvAt c ⟨rr.s,true⟩ w5∧Kp c.own w4 w5):=⟨k5,v5⟩;clear k5 v5))
       go_end0
       rw [HE.o]
       exact ⟨rfl,HF.o.1,⟨_,_,HP4.o.cl.kp HF.o.2 hC⟩,HP4.o.kp.trans HF.o.2 fun _ _ e=>.inl e⟩
      have hb3:(part==3)=false:=by simp [h3]
      by_cases h4:part=4
      ·subst h4
       have HE0:endP c.l names v S.1 S.2.1 S.2.2=(⟨L,vz,0,j7,[]⟩,⟨rr.s,true⟩):=by
        rw [HSS.o]
        unfold endP
        simp only [cm0,HLN.o,hN]
        rw [if_neg (by omega),if_neg (by omega),if_neg (by omega)]
       have HE:=hid HE0
       clear HE0
       go_wp2_with (first
        | ((with_reducible refine yU HP4.o.pv ?_ ?_ ?_ ?_ ?_);rfl;rfl;kernel_rfl;rfl;intro w5 k5 v5;have HF:Hid (PvAt c ⟨rr.s,true⟩ w5∧Kp c.own w4 w5):=⟨k5,v5⟩;clear k5 v5))
       go_end0
       rw [HE.o]
       exact ⟨rfl,HF.o.1,⟨_,_,HP4.o.cl.kp HF.o.2 hC⟩,HP4.o.kp.trans HF.o.2 fun _ _ e=>.inl e⟩
      have hb4:(part==4)=false:=by simp [h4]
      have HE0:endP c.l names v S.1 S.2.1 S.2.2=(⟨L,vz,0,j7,[]⟩,⟨rr.s,true⟩):=by
       rw [HSS.o]
       unfold endP
       simp only [cm0,HLN.o,hN]
       rw [if_neg (by omega),if_neg (by omega),if_neg (by omega)]
      have HE:=hid HE0
      clear HE0
      go_wp2_with (first
       | ((with_reducible refine yU HP4.o.pv ?_ ?_ ?_ ?_ ?_);rfl;rfl;kernel_rfl;rfl;intro w5 k5 v5;have HF:Hid (PvAt c ⟨rr.s,true⟩ w5∧Kp c.own w4 w5):=⟨k5,v5⟩;clear k5 v5))
      go_end0
      rw [HE.o]
      exact ⟨rfl,HF.o.1,⟨_,_,HP4.o.cl.kp HF.o.2 hC⟩,HP4.o.kp.trans HF.o.2 fun _ _ e=>.inl e⟩
    ·have hab:((ln:Int)==(N:Int))=false:=by simp;omega
     have hz1:w3.cell? ⟨C,1,none⟩=some (.slice sa ln sc):=by rw [j9 HP3.o.cl.at_];rfl
     have hz0:w3.cell? ⟨C,0,none⟩=some (.slice na N nc):=by rw [j9 HP3.o.cl.at_];rfl
     have HZZ:=hid (⟨hz1,hz0⟩:_∧_)
     clear hz1 hz0
     go_upto_region 5 with fail
     refine wb C ln N sa na sc nc false _ w3 rfl rfl hab HZZ.o.1 HZZ.o.2 fun _=>?_
     rw [lQ]
     obtain ⟨w4,hw4⟩:∃ w4,w4=w3.drew:=⟨_,rfl⟩
     rw [← hw4]
     have HP4:Hid (PI c rr C b1 (.slice na N nc) ⟨L,vz,0,j7,[]⟩ (.slice sa ln sc) (.slice none 0 0) w X w4):=by rw [hw4];exact HP3.o.up (G.drew w3)
     clear hw4
     go_simp
     have hzV:w4.cell? ⟨b1,0,none⟩=some (.int .i64 v.kind):=by rw [j9 HP4.o.x];exact HX.o.2.2
     by_cases hk:v.kind=0
     ·have hkb:(v.kind==0)=true:=by simp [hk]
      by_cases h2:part=2
      ·subst h2
       have HE0:endP c.l names v S.1 S.2.1 S.2.2=(⟨L,vz,0,j7,[]⟩,⟨rr.s,true⟩):=by
        rw [HSS.o]
        unfold endP
        simp only [cm0,HLN.o,hN]
        rw [if_neg (by omega),if_neg (by omega),if_neg (by omega)]
       have HE:=hid HE0
       clear HE0
       go_wp2_with (first
        | ((with_reducible refine yU HP4.o.pv ?_ ?_ ?_ ?_ ?_);rfl;rfl;kernel_rfl;rfl;intro w5 k5 v5;have HF:Hid (PvAt c ⟨rr.s,true⟩ w5∧Kp c.own w4 w5):=⟨k5,v5⟩;clear k5 v5))
       go_end0
       rw [HE.o]
       exact ⟨rfl,HF.o.1,⟨_,_,HP4.o.cl.kp HF.o.2 hC⟩,HP4.o.kp.trans HF.o.2 fun _ _ e=>.inl e⟩
      have hb2:(part==2)=false:=by simp [h2]
      by_cases h3:part=3
      ·subst h3
       have HE0:endP c.l names v S.1 S.2.1 S.2.2=gapP c.l (names.getD ln ⟨#[]⟩) ⟨L,vz,0,j7,[]⟩ rr:=by
        rw [HSS.o]
        unfold endP
        simp only [cm0,HLN.o,hN]
        rw [if_neg (by omega),if_pos (by first | exact ⟨rfl,by omega,hk⟩ | exact ⟨trivial,by omega,hk⟩)]
       have HE:=hid HE0
       clear HE0
       obtain ⟨nm,hnm⟩:∃ nm,names[ln]?=some nm:=⟨names[ln]'(by omega),by simp [show ln<names.length by omega]⟩
       obtain ⟨g,hg1,hg2,hg3⟩:=HN.o.1 ln nm hnm
       have hgd:names.getD ln ⟨#[]⟩=nm:=by rw [List.getD_eq_getElem?_getD,hnm];rfl
       rw [hgd] at HE
       clear hgd hnm
       subst hg1
       go_upto_region 11 with fail
       have hb9:=HP4.o.kp.block g (World.block_lt_of_cell? w _ hg3) (fun e=>by rcases e with e | e;have:=e.1;omega;have:=HI.o.1.lo;have:=HI.o.1.lt;omega)
       have hzn:w4.cell? ⟨g,ln,none⟩=some (.string nm):=by
        unfold World.cell? at hg3 ⊢
        simp only [hb9]
        exact hg3
       have HZ:=hid hzn
       clear hb9 hzn
       refine regq11 c.Q C g ln N sa sc nc nm (fun _ W=>PI c rr C b1 (.slice (some ⟨g,0,none⟩) N nc) ⟨L,vz,0,j7,[]⟩ (.slice sa ln sc) (.slice none 0 0) w X W∧W.cell? ⟨g,ln,none⟩=some (.string nm)) (fun _ W=>PvAt c (gapP c.l nm ⟨L,vz,0,j7,[]⟩ rr).2 W∧(∃ dv',ClI C (.slice (some ⟨g,0,none⟩) N nc) (gapP c.l nm ⟨L,vz,0,j7,[]⟩ rr).1 (.slice sa ln sc) dv' W)∧Kp (c.in_ C) w W) (fun W=>PI c rr C b1 (.slice (some ⟨g,0,none⟩) N nc) ⟨L,vz,0,j7,[]⟩ (.slice sa ln sc) (.slice none 0 0) w X W∧W.cell? ⟨g,ln,none⟩=some (.string nm)) _ w4 rfl rfl rfl (by omega) (fun _ _ q=>q) ?g1 (fun W q=>by rw [j9 q.1.cl.at_];rfl) (fun W q=>by rw [j9 q.1.cl.at_];rfl) (fun W q=>q.2) (fun _=>⟨HP4.o.up (G.drew w4),(G.drew w4).cell HZ.o⟩) ?g2
       case g1=>
        rintro r' W ⟨q,_⟩
        refine (wZ q.pv C hC _ _ _ _ q.cl rfl nm).mono ?_
        rintro e W' ⟨rfl,q1,q2,q3⟩
        exact ⟨_,rfl,q1,q2,q.kp.trans q3 fun _ _ e=>e⟩
       case g2=>
        intro r' w6 q
        rw [foldq11]
        generalize r' 1=u1
        have HF:=hid q
        clear q
        go_simp
        go_wp2_with fail
        go_end0
        rw [HE.o]
        exact ⟨rfl,HF.o.1,⟨_,HF.o.2.1⟩,HF.o.2.2⟩
      have hb3:(part==3)=false:=by simp [h3]
      by_cases h4:part=4
      ·subst h4
       have HE0:endP c.l names v S.1 S.2.1 S.2.2=zo c.l ⟨L,vz,0,j7,[]⟩ rr:=by
        rw [HSS.o]
        unfold endP
        simp only [cm0,HLN.o,hN]
        rw [if_neg (by omega),if_neg (by omega),if_pos (by first | exact ⟨rfl,by omega,hk⟩ | exact ⟨trivial,by omega,hk⟩)]
       have HE:=hid HE0
       clear HE0
       go_wp2_with (first
        | (go_at_call 91;refine (lI HP4.o.pv C hC _ _ _ _ rfl HP4.o.cl).mono ?_;rintro e w5 ⟨rfl,q1,q2,q3⟩;have HF:=hid (⟨q1,q2,q3⟩:_∧_∧_);clear q1 q2 q3))
       go_end0
       rw [HE.o]
       exact ⟨rfl,HF.o.1,⟨_,_,HF.o.2.1⟩,HP4.o.kp.trans HF.o.2.2 fun _ _ e=>e⟩
      have hb4:(part==4)=false:=by simp [h4]
      have HE0:endP c.l names v S.1 S.2.1 S.2.2=(⟨L,vz,0,j7,[]⟩,⟨rr.s,true⟩):=by
       rw [HSS.o]
       unfold endP
       simp only [cm0,HLN.o,hN]
       rw [if_neg (by omega),if_neg (by omega),if_neg (by omega)]
      have HE:=hid HE0
      clear HE0
      go_wp2_with (first
       | ((with_reducible refine yU HP4.o.pv ?_ ?_ ?_ ?_ ?_);rfl;rfl;kernel_rfl;rfl;intro w5 k5 v5;have HF:Hid (PvAt c ⟨rr.s,true⟩ w5∧Kp c.own w4 w5):=⟨k5,v5⟩;clear k5 v5))
      go_end0
      rw [HE.o]
      exact ⟨rfl,HF.o.1,⟨_,_,HP4.o.cl.kp HF.o.2 hC⟩,HP4.o.kp.trans HF.o.2 fun _ _ e=>.inl e⟩
     ·have hkb:(v.kind==0)=false:=by simp [hk]
      by_cases h2:part=2
      ·subst h2
       have HE0:endP c.l names v S.1 S.2.1 S.2.2=(⟨L,vz,0,j7,[]⟩,⟨rr.s,true⟩):=by
        rw [HSS.o]
        unfold endP
        simp only [cm0,HLN.o,hN]
        rw [if_neg (by omega),if_neg (by omega),if_neg (by omega)]
       have HE:=hid HE0
       clear HE0
       go_wp2_with (first
        | ((with_reducible refine yU HP4.o.pv ?_ ?_ ?_ ?_ ?_);rfl;rfl;kernel_rfl;rfl;intro w5 k5 v5;have HF:Hid (PvAt c ⟨rr.s,true⟩ w5∧Kp c.own w4 w5):=⟨k5,v5⟩;clear k5 v5))
       go_end0
       rw [HE.o]
       exact ⟨rfl,HF.o.1,⟨_,_,HP4.o.cl.kp HF.o.2 hC⟩,HP4.o.kp.trans HF.o.2 fun _ _ e=>.inl e⟩
      have hb2:(part==2)=false:=by simp [h2]
      by_cases h3:part=3
      ·subst h3
       have HE0:endP c.l names v S.1 S.2.1 S.2.2=(⟨L,vz,0,j7,[]⟩,⟨rr.s,true⟩):=by
        rw [HSS.o]
        unfold endP
        simp only [cm0,HLN.o,hN]
        rw [if_neg (by omega),if_neg (by omega),if_neg (by omega)]
       have HE:=hid HE0
       clear HE0
       go_wp2_with (first
        | ((with_reducible refine yU HP4.o.pv ?_ ?_ ?_ ?_ ?_);rfl;rfl;kernel_rfl;rfl;intro w5 k5 v5;have HF:Hid (PvAt c ⟨rr.s,true⟩ w5∧Kp c.own w4 w5):=⟨k5,v5⟩;clear k5 v5))
       go_end0
       rw [HE.o]
       exact ⟨rfl,HF.o.1,⟨_,_,HP4.o.cl.kp HF.o.2 hC⟩,HP4.o.kp.trans HF.o.2 fun _ _ e=>.inl e⟩
      have hb3:(part==3)=false:=by simp [h3]
      by_cases h4:part=4
      ·subst h4
       have HE0:endP c.l names v S.1 S.2.1 S.2.2=(⟨L,vz,0,j7,[]⟩,⟨rr.s,true⟩):=by
        rw [HSS.o]
        unfold endP
        simp only [cm0,HLN.o,hN]
        rw [if_neg (by omega),if_neg (by omega),if_neg (by omega)]
       have HE:=hid HE0
       clear HE0
       go_wp2_with (first
        | ((with_reducible refine yU HP4.o.pv ?_ ?_ ?_ ?_ ?_);rfl;rfl;kernel_rfl;rfl;intro w5 k5 v5;have HF:Hid (PvAt c ⟨rr.s,true⟩ w5∧Kp c.own w4 w5):=⟨k5,v5⟩;clear k5 v5))
       go_end0
       rw [HE.o]
       exact ⟨rfl,HF.o.1,⟨_,_,HP4.o.cl.kp HF.o.2 hC⟩,HP4.o.kp.trans HF.o.2 fun _ _ e=>.inl e⟩
      have hb4:(part==4)=false:=by simp [h4]
      have HE0:endP c.l names v S.1 S.2.1 S.2.2=(⟨L,vz,0,j7,[]⟩,⟨rr.s,true⟩):=by
       rw [HSS.o]
       unfold endP
       simp only [cm0,HLN.o,hN]
       rw [if_neg (by omega),if_neg (by omega),if_neg (by omega)]
      have HE:=hid HE0
      clear HE0
      go_wp2_with (first
       | ((with_reducible refine yU HP4.o.pv ?_ ?_ ?_ ?_ ?_);rfl;rfl;kernel_rfl;rfl;intro w5 k5 v5;have HF:Hid (PvAt c ⟨rr.s,true⟩ w5∧Kp c.own w4 w5):=⟨k5,v5⟩;clear k5 v5))
      go_end0
      rw [HE.o]
      exact ⟨rfl,HF.o.1,⟨_,_,HP4.o.cl.kp HF.o.2 hC⟩,HP4.o.kp.trans HF.o.2 fun _ _ e=>.inl e⟩
def z117:List Value:=clc (.slice none 0 0) (.slice none 0 0) vz 0 j7 (.slice none 0 0)
theorem zero117:(Tryz.prog.info? 117).bind (·.zero)=some (.agg z117.toArray):=by kernel_rfl
theorem under117:Tryz.prog.underlying 117=some (.struct (Tryz.prog.fieldsOf 117)):=by kernel_rfl
theorem plc117:(Tryz.prog.fieldsOf 117).toList.mapM (fun f=>(Tryz.prog.info? f.type).map fun i=>(f.offset,i.size))=some [(0,1),(1,1),(2,35),(37,1),(38,32),(70,1)]:=by kernel_rfl
theorem build117 (a:Option Addr) (n k:Nat) (w:World):(Instr.build 117 #[(0,.slice a n k)]).run Tryz.prog w=.ok (.agg (clc (.slice a n k) (.slice none 0 0) vz ((0:Nat):Int) j7 (.slice none 0 0)).toArray) w:=by
 refine yG 117 z117 _ under117 zero117 plc117 _ _ ?_
 show Instr.fill _ z117.toArray [(0,.slice a n k)]=_
 rw [qv _ _ 0 0 1 _ [.slice a n k] _ rfl rfl rfl (by decide),Instr.fill]
 rfl
theorem build113 (R:Nat) (w:World):(Instr.build 113 #[(0,.pointer (some ⟨R,0,none⟩))]).run Tryz.prog w=.ok (.agg #[.pointer (some ⟨R,0,none⟩),.bool false]) w:=by kernel_rfl
theorem eqnil (w:World):(binOp .eql 120 .nilIface .nilIface).run Tryz.prog w=.ok (.bool true) w:=by kernel_rfl
theorem we (w:World):(eqGuard .eql 120 (.tmp 54) (.const .nilIface) .nilIface .nilIface).run Tryz.prog w=.ok () w:=by kernel_rfl
theorem eqsome (b:Nat) (w:World):(binOp .eql 120 (.iface 190 (.pointer (some ⟨b,0,none⟩))) .nilIface).run Tryz.prog w=.ok (.bool false) w:=by kernel_rfl
theorem oY (b:Nat) (w:World):(eqGuard .eql 120 (.tmp 54) (.const .nilIface) (.iface 190 (.pointer (some ⟨b,0,none⟩))) .nilIface).run Tryz.prog w=.ok () w:=by kernel_rfl
noncomputable abbrev qI:Array Oper:=kS Tryz.f27 10
theorem sx:gj qI=true:=by kernel_rfl
theorem a1d:dstB qI 57=true:=by kernel_rfl
theorem dI:qI.size=16:=by kernel_rfl
theorem oZ:say qI 0=some (some 43,.move (.tmp 11),none):=by kernel_rfl
theorem om:say qI 1=some (some 44,.move (.tmp 10),none):=by kernel_rfl
theorem oq:say qI 2=some (some 45,.nilCheck (.tmp 44),none):=by kernel_rfl
theorem ot:say qI 3=some (some 46,.fieldAddr 113 (.tmp 45) 1,none):=by kernel_rfl
theorem ou:say qI 4=some (some 47,.load 4 (.tmp 46),none):=by kernel_rfl
theorem ox:say qI 5=some (some 48,.unOp .not 4 (.tmp 47),none):=by kernel_rfl
theorem kP:say qI 6=some (some 49,.move (.tmp 48),none):=by kernel_rfl
theorem wg:say qI 7=some (some 50,.move (.tmp 10),some (6,true)):=by kernel_rfl
theorem wh:say qI 8=some (some 51,.nilCheck (.tmp 50),some (6,true)):=by kernel_rfl
theorem wi:say qI 9=some (some 52,.fieldAddr 113 (.tmp 51) 0,some (6,true)):=by kernel_rfl
theorem lU:say qI 10=some (some 53,.load 110 (.tmp 52),some (6,true)):=by kernel_rfl
theorem lV:say qI 11=some (some 54,.call { callee:=.value (.func 70),args:=#[.tmp 53],argTypes:=#[110] },some (6,true)):=by kernel_rfl
theorem fk:say qI 12=some (some 55,.binOp .eql 120 (.tmp 54) (.const .nilIface) 120,some (6,true)):=by kernel_rfl
theorem fm:say qI 13=some (some 56,.pick (.tmp 49) (.tmp 55) (.const (.bool false)),none):=by kernel_rfl
theorem sy:say qI 14=some (some 6,.assign (.tmp 43),none):=by kernel_rfl
theorem t7:say qI 15=some (some 7,.assign (.tmp 56),none):=by kernel_rfl
def Vi1 (C Qb:Nat) (_r:Unit):Nat→Value
 | 0=>.pointer (some ⟨C,0,none⟩)
 | 1=>.pointer (some ⟨Qb,0,none⟩)
 | 2=>.pointer (some ⟨Qb,0,none⟩)
 | 3=>.pointer (some ⟨Qb,1,none⟩)
 | 4=>.bool true
 | 5=>.bool false
 | 6=>.bool false
 | 7=>undef
 | 8=>undef
 | 9=>undef
 | 10=>undef
 | 11=>undef
 | 12=>undef
 | 13=>.bool false
 | 14=>.pointer (some ⟨C,0,none⟩)
 | 15=>.bool false
 | _=>undef
theorem regi1 (C Qb:Nat)  (t0:Array Value) (wr:World) {Q:Exit→Act→World→Prop} (ht:t0.size=57) (h11:t0.getD 11 undef=.pointer (some ⟨C,0,none⟩)) (h10:t0.getD 10 undef=.pointer (some ⟨Qb,0,none⟩))
  (hl4:wr.cell? ⟨Qb,1,none⟩=some (.bool true))
  (hQ:∀ r,Q .normal ⟨fold qI (Vi1 C Qb r) t0 16,[]⟩ wr.drew):(Code.region 10 qI true).wp Tryz.prog Q ⟨t0,[]⟩ wr:=by
 have hB:dstB qI t0.size=true:=by rw [ht];exact a1d
 refine jL (by kernel_rfl) (IE qI (Vi1 C Qb) t0 ((fun (_:Unit) (_:Nat→Bool) (w:World)=>w=wr.drew) )) sx ⟨(),t0,rfl,⟨rfl,fun _ _=>rfl,fun _ _ _ _ _ h=>by cases h⟩,rfl⟩ ?_ ?_
 rotate_left 1
 ·rintro done a w ⟨r,t,rfl,hS,hM⟩ hall
  rw [hS.end hB hall,dI]
  rw [hM]
  exact hQ r
 ·rintro jz op done a w ho ⟨r,t,rfl,hS,hM⟩ hnd hdep hcl
  have e11:=hS.ol h11
  have e10:=hS.ol h10
  have hlt:jz<16:=by rw [← dI];exact (ga ho).1
  match jz,hlt,ho,hnd,hdep with
  | 0,_,ho,hnd,hdep=>
   obtain ⟨hd,hop,hgd⟩:=jB oZ ho
   refine jJ r hB ho (j0 hgd) hd hS hM ?_
   unfold execOp;simp [hop,e11,Vi1,go_sem]
  | 1,_,ho,hnd,hdep=>
   obtain ⟨hd,hop,hgd⟩:=jB om ho
   refine jJ r hB ho (j0 hgd) hd hS hM ?_
   unfold execOp;simp [hop,e10,Vi1,go_sem]
  | 2,_,ho,hnd,hdep=>
   obtain ⟨hd,hop,hgd⟩:=jB oq ho
   have x44:=hS.gt om ho hdep
   refine jJ r hB ho (j0 hgd) hd hS hM ?_
   unfold execOp;simp [hop,x44,Vi1,go_sem]
  | 3,_,ho,hnd,hdep=>
   obtain ⟨hd,hop,hgd⟩:=jB ot ho
   have x45:=hS.gt oq ho hdep
   refine jJ r hB ho (j0 hgd) hd hS hM ?_
   unfold execOp;simp [hop,x45,Vi1,go_sem]
  | 4,_,ho,hnd,hdep=>
   obtain ⟨hd,hop,hgd⟩:=jB ou ho
   have x46:=hS.gt ot ho hdep
   have cz:w.cell? ⟨Qb,1,none⟩=some (.bool true):=by rw [hM];exact hl4
   refine jJ r hB ho (j0 hgd) hd hS hM ?_
   unfold execOp;simp [hop,x46,Vi1,cz,go_sem]
  | 5,_,ho,hnd,hdep=>
   obtain ⟨hd,hop,hgd⟩:=jB ox ho
   have x47:=hS.gt ou ho hdep
   refine jJ r hB ho (j0 hgd) hd hS hM ?_
   unfold execOp;simp [hop,x47,Vi1,go_sem]
  | 6,_,ho,hnd,hdep=>
   obtain ⟨hd,hop,hgd⟩:=jB kP ho
   have x48:=hS.gt ox ho hdep
   refine jJ r hB ho (j0 hgd) hd hS hM ?_
   unfold execOp;simp [hop,x48,Vi1,go_sem]
  | 7,_,ho,hnd,hdep=>
   obtain ⟨hd,hop,hgd⟩:=jB wg ho
   have gx:=hS.gt kP ho hdep
   simp only [Vi1] at gx
   exact jW r hB ho (jH hgd (sd kP) gx rfl) hd hS hM rfl
  | 8,_,ho,hnd,hdep=>
   obtain ⟨hd,hop,hgd⟩:=jB wh ho
   have gx:=hS.gt kP ho hdep
   simp only [Vi1] at gx
   exact jW r hB ho (jH hgd (sd kP) gx rfl) hd hS hM rfl
  | 9,_,ho,hnd,hdep=>
   obtain ⟨hd,hop,hgd⟩:=jB wi ho
   have gx:=hS.gt kP ho hdep
   simp only [Vi1] at gx
   exact jW r hB ho (jH hgd (sd kP) gx rfl) hd hS hM rfl
  | 10,_,ho,hnd,hdep=>
   obtain ⟨hd,hop,hgd⟩:=jB lU ho
   have gx:=hS.gt kP ho hdep
   simp only [Vi1] at gx
   exact jW r hB ho (jH hgd (sd kP) gx rfl) hd hS hM rfl
  | 11,_,ho,hnd,hdep=>
   obtain ⟨hd,hop,hgd⟩:=jB lV ho
   have gx:=hS.gt kP ho hdep
   simp only [Vi1] at gx
   exact jW r hB ho (jH hgd (sd kP) gx rfl) hd hS hM rfl
  | 12,_,ho,hnd,hdep=>
   obtain ⟨hd,hop,hgd⟩:=jB fk ho
   have gx:=hS.gt kP ho hdep
   simp only [Vi1] at gx
   exact jW r hB ho (jH hgd (sd kP) gx rfl) hd hS hM rfl
  | 13,_,ho,hnd,hdep=>
   obtain ⟨hd,hop,hgd⟩:=jB fm ho
   have x49:=hS.gt kP ho hdep
   have x55:=hS.gt fk ho hdep
   refine jJ r hB ho (j0 hgd) hd hS hM ?_
   unfold execOp;simp [hop,x49,x55,Vi1,go_sem]
  | 14,_,ho,hnd,hdep=>
   obtain ⟨hd,hop,hgd⟩:=jB sy ho
   have x43:=hS.gt oZ ho hdep
   refine jJ r hB ho (j0 hgd) hd hS hM ?_
   unfold execOp;simp [hop,x43,Vi1,go_sem]
  | 15,_,ho,hnd,hdep=>
   obtain ⟨hd,hop,hgd⟩:=jB t7 ho
   have x56:=hS.gt fm ho hdep
   refine jJ r hB ho (j0 hgd) hd hS hM ?_
   unfold execOp;simp [hop,x56,Vi1,go_sem]
theorem foldi1 (C Qb:Nat) (r:Unit) (t0:Array Value):fold qI (Vi1 C Qb r) t0 16=((((((((((((((((t0.setIfInBounds 43 (.pointer (some ⟨C,0,none⟩))).setIfInBounds 44 (.pointer (some ⟨Qb,0,none⟩))).setIfInBounds 45 (.pointer (some ⟨Qb,0,none⟩))).setIfInBounds 46 (.pointer (some ⟨Qb,1,none⟩))).setIfInBounds 47 (.bool true)).setIfInBounds 48 (.bool false)).setIfInBounds 49 (.bool false)).setIfInBounds 50 (undef)).setIfInBounds 51 (undef)).setIfInBounds 52 (undef)).setIfInBounds 53 (undef)).setIfInBounds 54 (undef)).setIfInBounds 55 (undef)).setIfInBounds 56 (.bool false)).setIfInBounds 6 (.pointer (some ⟨C,0,none⟩))).setIfInBounds 7 (.bool false)):=by kernel_rfl
def Vi2 (C Qb R:Nat) (E:Value) (q:Bool) (_r:Nat→Value):Nat→Value
 | 0=>.pointer (some ⟨C,0,none⟩)
 | 1=>.pointer (some ⟨Qb,0,none⟩)
 | 2=>.pointer (some ⟨Qb,0,none⟩)
 | 3=>.pointer (some ⟨Qb,1,none⟩)
 | 4=>.bool false
 | 5=>.bool true
 | 6=>.bool true
 | 7=>.pointer (some ⟨Qb,0,none⟩)
 | 8=>.pointer (some ⟨Qb,0,none⟩)
 | 9=>.pointer (some ⟨Qb,0,none⟩)
 | 10=>.pointer (some ⟨R,0,none⟩)
 | 11=>E
 | 12=>.bool q
 | 13=>.bool q
 | 14=>.pointer (some ⟨C,0,none⟩)
 | 15=>.bool q
 | _=>undef
theorem a1e (C Qb R:Nat) (E:Value) (q:Bool) (F0 F1:(Nat→Value)→World→Prop) (B:World→Prop)  (t0:Array Value) (wr:World) {Q:Exit→Act→World→Prop} (ht:t0.size=57) (h11:t0.getD 11 undef=.pointer (some ⟨C,0,none⟩)) (h10:t0.getD 10 undef=.pointer (some ⟨Qb,0,none⟩))
  (hq:∀ w,(binOp .eql 120 E .nilIface).run Tryz.prog w=.ok (.bool q) w) (hgq:∀ w,(eqGuard .eql 120 (.tmp 54) (.const .nilIface) E .nilIface).run Tryz.prog w=.ok () w)
  (hb0:∀ r w,F0 r w→B w)
  (hc1:∀ r w,F0 r w→Calls Tryz.prog 70 #[.pointer (some ⟨R,0,none⟩)] w fun e w'=>e=.returned (E)∧F1 r w')
  (hl4:∀ w,B w→w.cell? ⟨Qb,1,none⟩=some (.bool false))
  (hl10:∀ w,B w→w.cell? ⟨Qb,0,none⟩=some (.pointer (some ⟨R,0,none⟩)))
  (hst0:∀ r,F0 r wr.drew)
  (hQ:∀ r w,F1 r w→Q .normal ⟨fold qI (Vi2 C Qb R E q r) t0 16,[]⟩ w):(Code.region 10 qI true).wp Tryz.prog Q ⟨t0,[]⟩ wr:=by
 have hB:dstB qI t0.size=true:=by rw [ht];exact a1d
 have hBB:∀ r done w,MC F0 [] r done w→B w:=fun r done w h=>MC.base hb0 (by intro x h;cases h) h
 refine jL (by kernel_rfl) (IE qI (Vi2 C Qb R E q) t0 (MC F0 [(11,F1)] )) sx ⟨(fun _=>undef),t0,rfl,⟨rfl,fun _ _=>rfl,fun _ _ _ _ _ h=>by cases h⟩,MC.start (hst0 _)⟩ ?_ ?_
 rotate_left 1
 ·rintro done a w ⟨r,t,rfl,hS,hM⟩ hall
  rw [hS.end hB hall,dI]
  exact hQ r w (MC.get (hall 11 (by rw [dI];decide)) [] (by simp) hM)
 ·rintro jz op done a w ho ⟨r,t,rfl,hS,hM⟩ hnd hdep hcl
  have e11:=hS.ol h11
  have e10:=hS.ol h10
  have hlt:jz<16:=by rw [← dI];exact (ga ho).1
  match jz,hlt,ho,hnd,hdep with
  | 0,_,ho,hnd,hdep=>
   refine jM oZ r hB ho hS (hM.step (by rfl)) fun hop=>?_
   unfold execOp;simp [hop,e11,Vi2,go_sem]
  | 1,_,ho,hnd,hdep=>
   refine jM om r hB ho hS (hM.step (by rfl)) fun hop=>?_
   unfold execOp;simp [hop,e10,Vi2,go_sem]
  | 2,_,ho,hnd,hdep=>
   have x44:=hS.gt om ho hdep
   refine jM oq r hB ho hS (hM.step (by rfl)) fun hop=>?_
   unfold execOp;simp [hop,x44,Vi2,go_sem]
  | 3,_,ho,hnd,hdep=>
   have x45:=hS.gt oq ho hdep
   refine jM ot r hB ho hS (hM.step (by rfl)) fun hop=>?_
   unfold execOp;simp [hop,x45,Vi2,go_sem]
  | 4,_,ho,hnd,hdep=>
   have x46:=hS.gt ot ho hdep
   have ny5:done 5=false:=j8 (by kernel_rfl) hcl hnd
   have ny6:done 6=false:=j8 (by kernel_rfl) hcl ny5
   have ny11:done 11=false:=j8 (by kernel_rfl) hcl ny6
   have cz:=hl4 w (hBB _ _ _ (MC.cut [(11,F1)] (by simp [ny11]) hM))
   refine jM ou r hB ho hS (hM.step (by rfl)) fun hop=>?_
   unfold execOp;simp [hop,x46,Vi2,cz,go_sem]
  | 5,_,ho,hnd,hdep=>
   have x47:=hS.gt ou ho hdep
   refine jM ox r hB ho hS (hM.step (by rfl)) fun hop=>?_
   unfold execOp;simp [hop,x47,Vi2,go_sem]
  | 6,_,ho,hnd,hdep=>
   have x48:=hS.gt ox ho hdep
   refine jM kP r hB ho hS (hM.step (by rfl)) fun hop=>?_
   unfold execOp;simp [hop,x48,Vi2,go_sem]
  | 7,_,ho,hnd,hdep=>
   obtain ⟨hd,hop,hgd⟩:=jB wg ho
   have gx:=hS.gt kP ho hdep
   simp only [Vi2] at gx
   refine jJ r hB ho (jN hgd (sd kP) gx) hd hS (hM.step (by rfl)) ?_
   unfold execOp;simp [hop,e10,Vi2,go_sem]
  | 8,_,ho,hnd,hdep=>
   obtain ⟨hd,hop,hgd⟩:=jB wh ho
   have gx:=hS.gt kP ho hdep
   simp only [Vi2] at gx
   have x50:=hS.gt wg ho hdep
   refine jJ r hB ho (jN hgd (sd kP) gx) hd hS (hM.step (by rfl)) ?_
   unfold execOp;simp [hop,x50,Vi2,go_sem]
  | 9,_,ho,hnd,hdep=>
   obtain ⟨hd,hop,hgd⟩:=jB wi ho
   have gx:=hS.gt kP ho hdep
   simp only [Vi2] at gx
   have x51:=hS.gt wh ho hdep
   refine jJ r hB ho (jN hgd (sd kP) gx) hd hS (hM.step (by rfl)) ?_
   unfold execOp;simp [hop,x51,Vi2,go_sem]
  | 10,_,ho,hnd,hdep=>
   obtain ⟨hd,hop,hgd⟩:=jB lU ho
   have gx:=hS.gt kP ho hdep
   simp only [Vi2] at gx
   have x52:=hS.gt wi ho hdep
   have ny11:done 11=false:=j8 (by kernel_rfl) hcl hnd
   have cz:=hl10 w (hBB _ _ _ (MC.cut [(11,F1)] (by simp [ny11]) hM))
   refine jJ r hB ho (jN hgd (sd kP) gx) hd hS (hM.step (by rfl)) ?_
   unfold execOp;simp [hop,x52,Vi2,cz,go_sem]
  | 11,_,ho,hnd,hdep=>
   obtain ⟨hd,hop,hgd⟩:=jB lV ho
   have gx:=hS.gt kP ho hdep
   simp only [Vi2] at gx
   have x53:=hS.gt lU ho hdep
   simp only [Vi2] at x53
   have hF:=MC.get0 [(11,F1)] (by simp [hnd]) hM
   refine jb r 70 #[.pointer (some ⟨R,0,none⟩)] hB ho (jN hgd (sd kP) gx) hd hS ?_ ?_
   ·skip
    unfold execOp
    simp only [hop]
    simp [x53,go_sem]
   ·skip
    refine (hc1 r w hF).mono ?_
    rintro e w' ⟨rfl,hF'⟩
    exact ⟨r,rfl,fun _ _=>rfl,MC.put hF' [] (by simp)⟩
  | 12,_,ho,hnd,hdep=>
   obtain ⟨hd,hop,hgd⟩:=jB fk ho
   have gx:=hS.gt kP ho hdep
   simp only [Vi2] at gx
   have x54:=hS.gt lV ho hdep
   simp only [Vi2] at x54
   refine jJ r hB ho (jN hgd (sd kP) gx) hd hS (hM.step (by rfl)) ?_
   unfold execOp
   simp only [hop]
   have hx:(Act.mk t []).eval (.tmp 54)=E:=(by show t.getD 54 undef=_;rw [gd];exact x54)
   have hy:(Act.mk t []).eval (.const .nilIface)=.nilIface:=rfl
   simp only [hx,hy,Sem.run_bind,hgq,Result.andThen_ok,hq,Sem.run_pure]
   rfl
  | 13,_,ho,hnd,hdep=>
   have x49:=hS.gt kP ho hdep
   have x55:=hS.gt fk ho hdep
   refine jM fm r hB ho hS (hM.step (by rfl)) fun hop=>?_
   unfold execOp;simp [hop,x49,x55,Vi2,go_sem]
  | 14,_,ho,hnd,hdep=>
   have x43:=hS.gt oZ ho hdep
   refine jM sy r hB ho hS (hM.step (by rfl)) fun hop=>?_
   unfold execOp;simp [hop,x43,Vi2,go_sem]
  | 15,_,ho,hnd,hdep=>
   have x56:=hS.gt fm ho hdep
   refine jM t7 r hB ho hS (hM.step (by rfl)) fun hop=>?_
   unfold execOp;simp [hop,x56,Vi2,go_sem]
theorem t8 (C Qb R:Nat) (E:Value) (q:Bool) (r:Nat→Value) (t0:Array Value):fold qI (Vi2 C Qb R E q r) t0 16=((((((((((((((((t0.setIfInBounds 43 (.pointer (some ⟨C,0,none⟩))).setIfInBounds 44 (.pointer (some ⟨Qb,0,none⟩))).setIfInBounds 45 (.pointer (some ⟨Qb,0,none⟩))).setIfInBounds 46 (.pointer (some ⟨Qb,1,none⟩))).setIfInBounds 47 (.bool false)).setIfInBounds 48 (.bool true)).setIfInBounds 49 (.bool true)).setIfInBounds 50 (.pointer (some ⟨Qb,0,none⟩))).setIfInBounds 51 (.pointer (some ⟨Qb,0,none⟩))).setIfInBounds 52 (.pointer (some ⟨Qb,0,none⟩))).setIfInBounds 53 (.pointer (some ⟨R,0,none⟩))).setIfInBounds 54 (E)).setIfInBounds 55 (.bool q)).setIfInBounds 56 (.bool q)).setIfInBounds 6 (.pointer (some ⟨C,0,none⟩))).setIfInBounds 7 (.bool q)):=by kernel_rfl
end Go.Proofs.YtdeanahpiigonaaGreatDoor
