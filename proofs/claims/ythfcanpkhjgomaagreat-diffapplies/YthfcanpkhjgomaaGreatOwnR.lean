import Derived.Test.YthfcanpkhjgomaaGreatOwnF
set_option maxRecDepth 100000
set_option maxHeartbeats 1000000
namespace Go.Proofs.YthfcanpkhjgomaaGreat
open Go.RowKit
theorem right_any (v:Vd) (X:Array Value) (hX:X=(vx v).toArray) (w:World):Calls Tryz.prog 78 #[.agg X] w fun e w'=>e=.returned (.bool (rightVB v))∧G w w':=by
 have HG:Hid (G w (w.alloc (.cells X 24))):=G.alloc _ _
 have hl:=jh w X 24
 have c0:=jG hl 0 (.int .i64 v.kind) (by rw [hX];rfl)
 have c1:=jG hl 1 (.int .i64 v.mode) (by rw [hX];rfl)
 have c2:=jG hl 2 (.int .i64 v.size) (by rw [hX];rfl)
 have x0:X[0]?=some (.int .i64 v.kind):=by rw [hX];rfl
 have x1:X[1]?=some (.int .i64 v.mode):=by rw [hX];rfl
 have x2:X[2]?=some (.int .i64 v.size):=by rw [hX];rfl
 obtain ⟨S,hS⟩:∃ S,(v.sum.map vb).toArray=S:=⟨_,rfl⟩
 have HL:Hid (Lies (w.alloc (.cells X 24)) w.heap.size 3 S∧S.size=32∧S=(v.sum.map vb).toArray):=by
  refine ⟨?_,by rw [← hS];simp [v.len],hS.symm⟩
  have:=hl.part 3 (3+32)
  rw [hX,vx_sum,hS] at this
  rw [hX]
  simpa using this
 obtain ⟨Z,hZ⟩:∃ Z,(zeros.map vb).toArray=Z:=⟨_,rfl⟩
 have HZ:Hid (Tryz.prog.built 22 []=some Z∧Z=(zeros.map vb).toArray):=⟨by rw [built22,hZ],hZ.symm⟩
 have HV:Hid (v.sum.length=32):=v.len
 obtain ⟨R,hR⟩:∃ R,rightVB v=R:=⟨_,rfl⟩
 rw [hR]
 have HR:Hid (rightVB v=R):=hR
 obtain ⟨b4,hb4⟩:∃ b,decide (v.sum=zeros)=b:=⟨_,rfl⟩
 have HB4:=hid hb4
 clear hR hb4 hZ hS hl hX
 obtain ⟨kd,hkd⟩:∃ k,v.kind=k:=⟨_,rfl⟩
 obtain ⟨md,hmd⟩:∃ k,v.mode=k:=⟨_,rfl⟩
 obtain ⟨sz,hsz⟩:∃ k,v.size=k:=⟨_,rfl⟩
 have HK:Hid (v.kind=kd∧v.mode=md∧v.size=sz):=⟨hkd,hmd,hsz⟩
 rw [hkd] at c0 x0
 rw [hmd] at c1 x1
 rw [hsz] at c2 x2
 clear hkd hmd hsz
 by_cases k1:kd=1
 ·subst k1
  by_cases a1:0≤md
  ·by_cases a2:md≤8
   ·by_cases a3:sz=0
    ·subst a3
     have HF:Hid (R=b4):=by
      show _=_
      rw [← HR.out,rightVB,if_pos HK.out.1];simp only [HK.out.2.1,HK.out.2.2];simp only [a1,a2,true_and,HB4.out]
     go_enter Tryz.func78,Tryz.ntmps78
     go_wp2_with (first
      | (with_reducible refine jA (.agg S) ?_ ?_ ?_;exact exec_load22 _ rfl w.heap.size 3 rfl S HL.out.2.1 HL.out.1;kernel_rfl)
      | (with_reducible refine jA (.agg Z) ?_ ?_ ?_;exact jR 22 rfl Z HZ.out.1 _;kernel_rfl)
      | (with_reducible refine jA (.bool b4) ?_ ?_ ?_;exact exec_eq22' _ _ rfl S Z rfl rfl v.sum zeros HL.out.2.2 HZ.out.2 HV.out rfl b4 HB4.out _;kernel_rfl))
     go_ret
     exact ⟨by rw [HF.out];rfl,HG.out⟩
    ·have HF:Hid (R=false):=by
      show _=_
      rw [← HR.out,rightVB,if_pos HK.out.1];simp only [HK.out.2.1,HK.out.2.2];simp;omega
     go_enter Tryz.func78,Tryz.ntmps78
     go_wp2_with fail
     go_ret
     exact ⟨by rw [HF.out];rfl,HG.out⟩
   ·have HF:Hid (R=false):=by
     show _=_
     rw [← HR.out,rightVB,if_pos HK.out.1];simp only [HK.out.2.1,HK.out.2.2];simp;omega
    go_enter Tryz.func78,Tryz.ntmps78
    go_wp2_with fail
    go_ret
    exact ⟨by rw [HF.out];rfl,HG.out⟩
  ·have HF:Hid (R=false):=by
    show _=_
    rw [← HR.out,rightVB,if_pos HK.out.1];simp only [HK.out.2.1,HK.out.2.2];simp;omega
   go_enter Tryz.func78,Tryz.ntmps78
   go_wp2_with fail
   go_ret
   exact ⟨by rw [HF.out];rfl,HG.out⟩
 ·by_cases k2:kd=2
  ·subst k2
   by_cases a1:0≤md
   ·by_cases a2:md≤8
    ·by_cases a3:0≤sz
     ·by_cases a4:sz≤1099511627775
      ·have HF:Hid (R=true):=by
        show _=_
        rw [← HR.out,rightVB,if_neg (by rw [HK.out.1];simp),if_pos HK.out.1];simp only [HK.out.2.1,HK.out.2.2];simp [a1,a2,a3,a4]
       go_enter Tryz.func78,Tryz.ntmps78
       go_wp2_with fail
       go_ret
       exact ⟨by rw [HF.out];rfl,HG.out⟩
      ·have HF:Hid (R=false):=by
        show _=_
        rw [← HR.out,rightVB,if_neg (by rw [HK.out.1];simp),if_pos HK.out.1];simp only [HK.out.2.1,HK.out.2.2];simp;omega
       go_enter Tryz.func78,Tryz.ntmps78
       go_wp2_with fail
       go_ret
       exact ⟨by rw [HF.out];rfl,HG.out⟩
     ·have HF:Hid (R=false):=by
       show _=_
       rw [← HR.out,rightVB,if_neg (by rw [HK.out.1];simp),if_pos HK.out.1];simp only [HK.out.2.1,HK.out.2.2];simp;omega
      go_enter Tryz.func78,Tryz.ntmps78
      go_wp2_with fail
      go_ret
      exact ⟨by rw [HF.out];rfl,HG.out⟩
    ·have HF:Hid (R=false):=by
      show _=_
      rw [← HR.out,rightVB,if_neg (by rw [HK.out.1];simp),if_pos HK.out.1];simp only [HK.out.2.1,HK.out.2.2];simp;omega
     go_enter Tryz.func78,Tryz.ntmps78
     go_wp2_with fail
     go_ret
     exact ⟨by rw [HF.out];rfl,HG.out⟩
   ·have HF:Hid (R=false):=by
     show _=_
     rw [← HR.out,rightVB,if_neg (by rw [HK.out.1];simp),if_pos HK.out.1];simp only [HK.out.2.1,HK.out.2.2];simp;omega
    go_enter Tryz.func78,Tryz.ntmps78
    go_wp2_with fail
    go_ret
    exact ⟨by rw [HF.out];rfl,HG.out⟩
  ·by_cases k3:kd=3
   ·subst k3
    by_cases a1:md=0
    ·by_cases a3:1≤sz
     ·by_cases a4:sz≤4095
      ·subst a1
       have HF:Hid (R=true):=by
        show _=_
        rw [← HR.out,rightVB,if_neg (by rw [HK.out.1];simp),if_neg (by rw [HK.out.1];simp),if_pos HK.out.1];simp only [HK.out.2.1,HK.out.2.2];simp [a3,a4]
       go_enter Tryz.func78,Tryz.ntmps78
       go_wp2_with fail
       go_ret
       exact ⟨by rw [HF.out];rfl,HG.out⟩
      ·have HF:Hid (R=false):=by
        show _=_
        rw [← HR.out,rightVB,if_neg (by rw [HK.out.1];simp),if_neg (by rw [HK.out.1];simp),if_pos HK.out.1];simp only [HK.out.2.1,HK.out.2.2];simp;omega
       go_enter Tryz.func78,Tryz.ntmps78
       go_wp2_with fail
       go_ret
       exact ⟨by rw [HF.out];rfl,HG.out⟩
     ·have HF:Hid (R=false):=by
       show _=_
       rw [← HR.out,rightVB,if_neg (by rw [HK.out.1];simp),if_neg (by rw [HK.out.1];simp),if_pos HK.out.1];simp only [HK.out.2.1,HK.out.2.2];simp;omega
      go_enter Tryz.func78,Tryz.ntmps78
      go_wp2_with fail
      go_ret
      exact ⟨by rw [HF.out];rfl,HG.out⟩
    ·have HF:Hid (R=false):=by
      show _=_
      rw [← HR.out,rightVB,if_neg (by rw [HK.out.1];simp),if_neg (by rw [HK.out.1];simp),if_pos HK.out.1];simp only [HK.out.2.1,HK.out.2.2];simp;omega
     go_enter Tryz.func78,Tryz.ntmps78
     go_wp2_with fail
     go_ret
     exact ⟨by rw [HF.out];rfl,HG.out⟩
   ·have HF:Hid (R=false):=by
     show _=_
     rw [← HR.out,rightVB,if_neg (by rw [HK.out.1];exact k1),if_neg (by rw [HK.out.1];exact k2),if_neg (by rw [HK.out.1];exact k3)]
    have k1':(kd==1)=false:=by simpa using k1
    have k2':(kd==2)=false:=by simpa using k2
    have k3':(kd==3)=false:=by simpa using k3
    clear k1 k2 k3
    go_enter Tryz.func78,Tryz.ntmps78
    go_wp2_with fail
    go_ret
    exact ⟨by rw [HF.out];rfl,HG.out⟩
theorem mark_any (n s:Int) (w:World):Calls Tryz.prog 104 #[.agg #[.int .i64 n,.int .i64 s]] w fun e w'=>e=.returned (.bool (rightMB n s))∧G w w':=by
 have HG:Hid (G w (w.alloc (.cells #[.int .i64 n,.int .i64 s] 26))):=G.alloc _ _
 obtain ⟨R,hR⟩:∃ R,rightMB n s=R:=⟨_,rfl⟩
 have HR:=hid hR
 rw [hR]
 clear hR
 by_cases z:n=0∧s=0
 ·obtain ⟨rfl,rfl⟩:=z
  have HF:Hid (R=true):=by show _=_;rw [← HR.out];rfl
  go_enter Tryz.func104,Tryz.ntmps104
  go_wp2_with fail
  go_ret
  exact ⟨by rw [HF.out];rfl,HG.out⟩
 ·have HZ:Hid (¬ (n=0∧s=0)):=z
  by_cases z0:n=0
  ·subst z0
   have zs:(s==0)=false:=by simpa using z
   have HF:Hid (R=false):=by show _=_;rw [← HR.out,rightMB];simp;simpa using zs
   clear z
   go_enter Tryz.func104,Tryz.ntmps104
   go_wp2_with fail
   go_ret
   exact ⟨by rw [HF.out];rfl,HG.out⟩
  ·have z0':(n==0)=false:=by simpa using z0
   clear z
   by_cases a1:1≤n
   ·by_cases a2:n≤72057594037927935
    ·by_cases a3:1≤s
     ·by_cases a4:s≤72057594037927935
      ·have HF:Hid (R=true):=by show _=_;rw [← HR.out,rightMB];simp;omega
       clear z0
       go_enter Tryz.func104,Tryz.ntmps104
       go_wp2_with fail
       go_ret
       exact ⟨by rw [HF.out];rfl,HG.out⟩
      ·have HF:Hid (R=false):=by show _=_;rw [← HR.out,rightMB];simp;omega
       clear z0
       go_enter Tryz.func104,Tryz.ntmps104
       go_wp2_with fail
       go_ret
       exact ⟨by rw [HF.out];rfl,HG.out⟩
     ·have HF:Hid (R=false):=by show _=_;rw [← HR.out,rightMB];simp;omega
      clear z0
      go_enter Tryz.func104,Tryz.ntmps104
      go_wp2_with fail
      go_ret
      exact ⟨by rw [HF.out];rfl,HG.out⟩
    ·have HF:Hid (R=false):=by show _=_;rw [← HR.out,rightMB];simp;omega
     clear z0
     go_enter Tryz.func104,Tryz.ntmps104
     go_wp2_with fail
     go_ret
     exact ⟨by rw [HF.out];rfl,HG.out⟩
   ·have HF:Hid (R=false):=by show _=_;rw [← HR.out,rightMB];simp;omega
    clear z0
    go_enter Tryz.func104,Tryz.ntmps104
    go_wp2_with fail
    go_ret
    exact ⟨by rw [HF.out];rfl,HG.out⟩
def ownR (kd:Int) (kids b0 b1 b2 b3:Bool):Int:=
 if kd<1∨3<kd∨(kd≠1∧kids=true) then 40 else if b0=false∨b1=false∨b2=false∨(kd≠2∧b3=true) then 41 else 0
theorem ownR_eq (v:Vd) (m:Md) (kids:Bool):ownE v m kids=ownR v.kind kids (rightVB v) (rightMB m.n0 m.s0) (rightMB m.n1 m.s1) (!decide (m=Md.zero)):=by
 have hz:m=Md.zero→rightMB m.n0 m.s0=true∧rightMB m.n1 m.s1=true:=by rintro rfl;exact ⟨rfl,rfl⟩
 unfold ownE ownR
 by_cases h1:v.kind≠1∧v.kind≠2∧v.kind≠3
 ·rw [if_pos h1,if_pos (by omega)]
 ·rw [if_neg h1]
  by_cases h2:kids=true∧v.kind≠1
  ·rw [if_pos h2,if_pos (.inr (.inr ⟨h2.2,h2.1⟩))]
  ·have h0:¬ (v.kind<1∨3<v.kind∨(v.kind≠1∧kids=true)):=by
    rintro (h | h | h)
    ·omega
    ·omega
    ·exact h2 ⟨h.2,h.1⟩
   rw [if_neg h2,if_neg h0]
   by_cases h3:rightVB v=false
   ·rw [if_pos h3,if_pos (.inl h3)]
   ·rw [if_neg h3]
    by_cases h4:v.kind=2
    ·by_cases h5:rightMB m.n0 m.s0=false∨rightMB m.n1 m.s1=false
     ·rw [if_pos ⟨h4,h5⟩,if_pos (by rcases h5 with h | h;exact .inr (.inl h);exact .inr (.inr (.inl h)))]
     ·rw [if_neg (fun h=>h5 h.2),if_neg (fun h=>h.1 h4),if_neg]
      rintro (h | h | h | h)
      ·exact h3 h
      ·exact h5 (.inl h)
      ·exact h5 (.inr h)
      ·exact h.1 h4
    ·rw [if_neg (fun h=>h4 h.1)]
     by_cases h6:m=Md.zero
     ·rw [if_neg (fun h=>h.2 h6),if_neg]
      rintro (h | h | h | h)
      ·exact h3 h
      ·rw [(hz h6).1] at h;cases h
      ·rw [(hz h6).2] at h;cases h
      ·simp [h6] at h
     ·rw [if_pos ⟨h4,h6⟩,if_pos (.inr (.inr (.inr ⟨h4,by simp [h6]⟩)))]
theorem own_any (v:Vd) (m:Md) (N:Nat) (X M:Array Value) (hX:X=(vx v).toArray) (hM:M=(mx m).toArray) (w:World):
  Calls Tryz.prog 68 #[.agg X,.agg M,.int .i64 N] w fun e w'=>e=.returned (.int .i64 (ownE v m (decide (0<N))))∧G w w':=by
 have HG:Hid (G w ((w.alloc (.cells X 24)).alloc (.cells M 27))):=(G.alloc w _).trans (G.alloc _ _)
 obtain ⟨lX,lM⟩:=boxes w X M
 have c0:=jG lX 0 (.int .i64 v.kind) (by rw [hX];rfl)
 have d0:=jG lM 0 (.int .i64 m.n0) (by rw [hM];rfl)
 have d1:=jG lM 1 (.int .i64 m.s0) (by rw [hM];rfl)
 have d2:=jG lM 2 (.int .i64 m.n1) (by rw [hM];rfl)
 have d3:=jG lM 3 (.int .i64 m.s1) (by rw [hM];rfl)
 have HX:Hid (Lies ((w.alloc (.cells X 24)).alloc (.cells M 27)) w.heap.size 0 X∧X.size=35∧Lies ((w.alloc (.cells X 24)).alloc (.cells M 27)) (w.heap.size+1) 0 M∧M.size=4∧M=(mx m).toArray):=⟨lX,by rw [hX];simp [jQ],lM,by rw [hM];simp [ji],hM⟩
 obtain ⟨Z,hZ⟩:∃ Z,(mx Md.zero).toArray=Z:=⟨_,rfl⟩
 have HZ:Hid (Tryz.prog.built 27 []=some Z∧Z=(mx Md.zero).toArray):=⟨by rw [built27,hZ],hZ.symm⟩
 have HE:=hid (rfl:ownE v m (decide (0<N))=ownE v m (decide (0<N)))
 obtain ⟨R,hR⟩:∃ R,ownE v m (decide (0<N))=R:=⟨_,rfl⟩
 rw [hR]
 have HR:Hid (ownE v m (decide (0<N))=R):=hR
 obtain ⟨b0,hb0⟩:∃ b,rightVB v=b:=⟨_,rfl⟩
 obtain ⟨b1,hb1⟩:∃ b,rightMB m.n0 m.s0=b:=⟨_,rfl⟩
 obtain ⟨b2,hb2⟩:∃ b,rightMB m.n1 m.s1=b:=⟨_,rfl⟩
 obtain ⟨b3,hb3⟩:∃ b,(!decide (m=Md.zero))=b:=⟨_,rfl⟩
 have HB:=hid (⟨hb0,hb1,hb2,hb3⟩:rightVB v=b0∧rightMB m.n0 m.s0=b1∧rightMB m.n1 m.s1=b2∧(!decide (m=Md.zero))=b3)
 have CR:=hid (fun W=>(by have:=right_any v X hX W;rw [hb0] at this;exact this:Calls Tryz.prog 78 #[.agg X] W fun e w'=>e=.returned (.bool b0)∧G W w'))
 have CA:=hid (fun W=>(by have:=mark_any m.n0 m.s0 W;rw [hb1] at this;exact this:Calls Tryz.prog 104 #[.agg #[.int .i64 m.n0,.int .i64 m.s0]] W fun e w'=>e=.returned (.bool b1)∧G W w'))
 have CB:=hid (fun W=>(by have:=mark_any m.n1 m.s1 W;rw [hb2] at this;exact this:Calls Tryz.prog 104 #[.agg #[.int .i64 m.n1,.int .i64 m.s1]] W fun e w'=>e=.returned (.bool b2)∧G W w'))
 clear hR hb0 hb1 hb2 hb3 hZ lX lM hX hM HE
 obtain ⟨kd,hkd⟩:∃ k,v.kind=k:=⟨_,rfl⟩
 have HK:Hid (v.kind=kd):=hkd
 rw [hkd] at c0
 clear hkd
 obtain ⟨n0,e0⟩:∃ k,m.n0=k:=⟨_,rfl⟩
 obtain ⟨s0,e1⟩:∃ k,m.s0=k:=⟨_,rfl⟩
 obtain ⟨n1,e2⟩:∃ k,m.n1=k:=⟨_,rfl⟩
 obtain ⟨s1,e3⟩:∃ k,m.s1=k:=⟨_,rfl⟩
 rw [e0] at d0 CA
 rw [e1] at d1 CA
 rw [e2] at d2 CB
 rw [e3] at d3 CB
 clear e0 e1 e2 e3
 go_enter Tryz.func68,Tryz.ntmps68
 go_upto_region 1 with fail
 generalize hw1:(w.alloc (.cells X 24)).alloc (.cells M 27)=w1 at *
 generalize w.heap.size=H at *
 clear hw1
 have unfoldR:Hid (R=ownR v.kind (decide (0<N)) b0 b1 b2 b3):=by
  show _=_
  rw [← HR.out,ownR_eq v m _,HB.out.1,HB.out.2.1,HB.out.2.2.1,HB.out.2.2.2]
 by_cases l1:kd<1
 ·have HF:Hid (R=40):=by show _=_;rw [unfoldR.out,HK.out,ownR,if_pos (.inl l1)]
  go_wp2_with fail
  go_ret
  exact ⟨by rw [HF.out];rfl,HG.out⟩
 ·by_cases l3:3<kd
  ·have HF:Hid (R=40):=by show _=_;rw [unfoldR.out,HK.out,ownR,if_pos (.inr (.inl l3))]
   go_wp2_with fail
   go_ret
   exact ⟨by rw [HF.out];rfl,HG.out⟩
  ·by_cases k1:kd=1
   ·subst k1
    clear l1 l3
    cases b0 with
    | false=>
     have HF:Hid (R=41):=by show _=_;rw [unfoldR.out,HK.out];simp [ownR]
     go_wp2_with (first
      | (with_reducible refine jA (.agg X) ?_ ?_ ?_;exact jE _ rfl H 0 rfl X HX.out.2.1 HX.out.1;kernel_rfl)
      | (go_at_call 78;refine (CR.out _).mono ?_;rintro e w2 ⟨rfl,g2⟩;have y0:=g2.cell c0;have y1:=g2.cell d0;have y2:=g2.cell d1;have y3:=g2.cell d2;have y4:=g2.cell d3;have HG2:Hid (G w w2∧Lies w2 (H+1) 0 M):=⟨HG.out.trans g2,g2.lies HX.out.2.2.1⟩;clear g2 c0 d0 d1 d2 d3))
     go_ret
     exact ⟨by rw [HF.out];rfl,HG2.out.1⟩
    | true=>
     cases b1 with
     | false=>
      have HF:Hid (R=41):=by show _=_;rw [unfoldR.out,HK.out];simp [ownR]
      go_wp2_with (first
       | (with_reducible refine jA (.agg X) ?_ ?_ ?_;exact jE _ rfl H 0 rfl X HX.out.2.1 HX.out.1;kernel_rfl)
       | (go_at_call 78;refine (CR.out _).mono ?_;rintro e w2 ⟨rfl,g2⟩;have y0:=g2.cell c0;have y1:=g2.cell d0;have y2:=g2.cell d1;have y3:=g2.cell d2;have y4:=g2.cell d3;have HG2:Hid (G w w2∧Lies w2 (H+1) 0 M):=⟨HG.out.trans g2,g2.lies HX.out.2.2.1⟩;clear g2 c0 d0 d1 d2 d3)
       | (go_at_call 104;refine (CA.out _).mono ?_;rintro e w3 ⟨rfl,g3⟩;have HG3:Hid (G w w3∧Lies w3 (H+1) 0 M):=⟨HG2.out.1.trans g3,g3.lies HG2.out.2⟩;have z0:=g3.cell y0;have z3:=g3.cell y3;have z4:=g3.cell y4;clear g3 y0 y1 y2 y3 y4))
      go_ret
      exact ⟨by rw [HF.out];rfl,HG3.out.1⟩
     | true=>
      cases b2 with
      | false=>
       have HF:Hid (R=41):=by show _=_;rw [unfoldR.out,HK.out];simp [ownR]
       go_wp2_with (first
        | (with_reducible refine jA (.agg X) ?_ ?_ ?_;exact jE _ rfl H 0 rfl X HX.out.2.1 HX.out.1;kernel_rfl)
        | (go_at_call 78;refine (CR.out _).mono ?_;rintro e w2 ⟨rfl,g2⟩;have y0:=g2.cell c0;have y1:=g2.cell d0;have y2:=g2.cell d1;have y3:=g2.cell d2;have y4:=g2.cell d3;have HG2:Hid (G w w2∧Lies w2 (H+1) 0 M):=⟨HG.out.trans g2,g2.lies HX.out.2.2.1⟩;clear g2 c0 d0 d1 d2 d3)
        | (go_at_call_of 104 (Value.agg #[Value.int .i64 n0,Value.int .i64 s0]);refine (CA.out _).mono ?_;clear CA;rintro e w3 ⟨rfl,g3⟩;have HG3:Hid (G w w3∧Lies w3 (H+1) 0 M):=⟨HG2.out.1.trans g3,g3.lies HG2.out.2⟩;have z0:=g3.cell y0;have z3:=g3.cell y3;have z4:=g3.cell y4;clear g3 y0 y1 y2 y3 y4)
        | (go_at_call 104;refine (CB.out _).mono ?_;rintro e w4 ⟨rfl,g4⟩;have HG4:Hid (G w w4∧Lies w4 (H+1) 0 M):=⟨HG3.out.1.trans g4,g4.lies HG3.out.2⟩;have x0:=g4.cell z0;clear g4 z0))
       go_ret
       exact ⟨by rw [HF.out];rfl,HG4.out.1⟩
      | true=>
       cases b3 with
       | false=>
        have HF:Hid (R=0):=by show _=_;rw [unfoldR.out,HK.out];simp [ownR]
        go_wp2_with (first
         | (with_reducible refine jA (.agg X) ?_ ?_ ?_;exact jE _ rfl H 0 rfl X HX.out.2.1 HX.out.1;kernel_rfl)
         | (go_at_call 78;refine (CR.out _).mono ?_;rintro e w2 ⟨rfl,g2⟩;have y0:=g2.cell c0;have y1:=g2.cell d0;have y2:=g2.cell d1;have y3:=g2.cell d2;have y4:=g2.cell d3;have HG2:Hid (G w w2∧Lies w2 (H+1) 0 M):=⟨HG.out.trans g2,g2.lies HX.out.2.2.1⟩;clear g2 c0 d0 d1 d2 d3)
         | (go_at_call_of 104 (Value.agg #[Value.int .i64 n0,Value.int .i64 s0]);refine (CA.out _).mono ?_;clear CA;rintro e w3 ⟨rfl,g3⟩;have HG3:Hid (G w w3∧Lies w3 (H+1) 0 M):=⟨HG2.out.1.trans g3,g3.lies HG2.out.2⟩;have z0:=g3.cell y0;have z3:=g3.cell y3;have z4:=g3.cell y4;clear g3 y0 y1 y2 y3 y4)
         | (go_at_call 104;refine (CB.out _).mono ?_;rintro e w4 ⟨rfl,g4⟩;have HG4:Hid (G w w4∧Lies w4 (H+1) 0 M):=⟨HG3.out.1.trans g4,g4.lies HG3.out.2⟩;have x0:=g4.cell z0;clear g4 z0)
         | (with_reducible refine jA (.agg M) ?_ ?_ ?_;exact jO _ rfl (H+1) 0 rfl M HX.out.2.2.2.1 HG4.out.2;kernel_rfl)
         | (with_reducible refine jA (.agg Z) ?_ ?_ ?_;exact jR 27 rfl Z HZ.out.1 _;kernel_rfl)
         | (with_reducible refine jA (.bool false) ?_ ?_ ?_;exact jn _ _ rfl M Z rfl rfl m Md.zero HX.out.2.2.2.2 HZ.out.2 false HB.out.2.2.2 _;kernel_rfl))
        go_ret
        exact ⟨by rw [HF.out];rfl,HG4.out.1⟩
       | true=>
        have HF:Hid (R=41):=by show _=_;rw [unfoldR.out,HK.out];simp [ownR]
        go_wp2_with (first
         | (with_reducible refine jA (.agg X) ?_ ?_ ?_;exact jE _ rfl H 0 rfl X HX.out.2.1 HX.out.1;kernel_rfl)
         | (go_at_call 78;refine (CR.out _).mono ?_;rintro e w2 ⟨rfl,g2⟩;have y0:=g2.cell c0;have y1:=g2.cell d0;have y2:=g2.cell d1;have y3:=g2.cell d2;have y4:=g2.cell d3;have HG2:Hid (G w w2∧Lies w2 (H+1) 0 M):=⟨HG.out.trans g2,g2.lies HX.out.2.2.1⟩;clear g2 c0 d0 d1 d2 d3)
         | (go_at_call_of 104 (Value.agg #[Value.int .i64 n0,Value.int .i64 s0]);refine (CA.out _).mono ?_;clear CA;rintro e w3 ⟨rfl,g3⟩;have HG3:Hid (G w w3∧Lies w3 (H+1) 0 M):=⟨HG2.out.1.trans g3,g3.lies HG2.out.2⟩;have z0:=g3.cell y0;have z3:=g3.cell y3;have z4:=g3.cell y4;clear g3 y0 y1 y2 y3 y4)
         | (go_at_call 104;refine (CB.out _).mono ?_;rintro e w4 ⟨rfl,g4⟩;have HG4:Hid (G w w4∧Lies w4 (H+1) 0 M):=⟨HG3.out.1.trans g4,g4.lies HG3.out.2⟩;have x0:=g4.cell z0;clear g4 z0)
         | (with_reducible refine jA (.agg M) ?_ ?_ ?_;exact jO _ rfl (H+1) 0 rfl M HX.out.2.2.2.1 HG4.out.2;kernel_rfl)
         | (with_reducible refine jA (.agg Z) ?_ ?_ ?_;exact jR 27 rfl Z HZ.out.1 _;kernel_rfl)
         | (with_reducible refine jA (.bool true) ?_ ?_ ?_;exact jn _ _ rfl M Z rfl rfl m Md.zero HX.out.2.2.2.2 HZ.out.2 true HB.out.2.2.2 _;kernel_rfl))
        go_ret
        exact ⟨by rw [HF.out];rfl,HG4.out.1⟩
   ·by_cases hn:0<N
    ·have HF:Hid (R=40):=by show _=_;rw [unfoldR.out,HK.out,ownR,if_pos (.inr (.inr ⟨k1,by simpa using hn⟩))]
     have hn':(0:Int)<(N:Int):=by omega
     have k1':(kd != 1)=true:=by simpa using k1
     clear k1
     go_wp2_with fail
     go_ret
     exact ⟨by rw [HF.out];rfl,HG.out⟩
    ·have hn':¬ (0:Int)<(N:Int):=by omega
     by_cases k2:kd=2
     ·subst k2
      clear l1 l3 k1
      cases b0 with
      | false=>
       have HF:Hid (R=41):=by show _=_;rw [unfoldR.out,HK.out];simp [ownR,hn]
       go_wp2_with (first
        | (with_reducible refine jA (.agg X) ?_ ?_ ?_;exact jE _ rfl H 0 rfl X HX.out.2.1 HX.out.1;kernel_rfl)
        | (go_at_call 78;refine (CR.out _).mono ?_;rintro e w2 ⟨rfl,g2⟩;have y0:=g2.cell c0;have y1:=g2.cell d0;have y2:=g2.cell d1;have y3:=g2.cell d2;have y4:=g2.cell d3;have HG2:Hid (G w w2∧Lies w2 (H+1) 0 M):=⟨HG.out.trans g2,g2.lies HX.out.2.2.1⟩;clear g2 c0 d0 d1 d2 d3))
       go_ret
       exact ⟨by rw [HF.out];rfl,HG2.out.1⟩
      | true=>
       cases b1 with
       | false=>
        have HF:Hid (R=41):=by show _=_;rw [unfoldR.out,HK.out];simp [ownR,hn]
        go_wp2_with (first
         | (with_reducible refine jA (.agg X) ?_ ?_ ?_;exact jE _ rfl H 0 rfl X HX.out.2.1 HX.out.1;kernel_rfl)
         | (go_at_call 78;refine (CR.out _).mono ?_;rintro e w2 ⟨rfl,g2⟩;have y0:=g2.cell c0;have y1:=g2.cell d0;have y2:=g2.cell d1;have y3:=g2.cell d2;have y4:=g2.cell d3;have HG2:Hid (G w w2∧Lies w2 (H+1) 0 M):=⟨HG.out.trans g2,g2.lies HX.out.2.2.1⟩;clear g2 c0 d0 d1 d2 d3)
         | (go_at_call 104;refine (CA.out _).mono ?_;rintro e w3 ⟨rfl,g3⟩;have HG3:Hid (G w w3∧Lies w3 (H+1) 0 M):=⟨HG2.out.1.trans g3,g3.lies HG2.out.2⟩;have z0:=g3.cell y0;have z3:=g3.cell y3;have z4:=g3.cell y4;clear g3 y0 y1 y2 y3 y4))
        go_ret
        exact ⟨by rw [HF.out];rfl,HG3.out.1⟩
       | true=>
        cases b2 with
        | false=>
         have HF:Hid (R=41):=by show _=_;rw [unfoldR.out,HK.out];simp [ownR,hn]
         go_wp2_with (first
          | (with_reducible refine jA (.agg X) ?_ ?_ ?_;exact jE _ rfl H 0 rfl X HX.out.2.1 HX.out.1;kernel_rfl)
          | (go_at_call 78;refine (CR.out _).mono ?_;rintro e w2 ⟨rfl,g2⟩;have y0:=g2.cell c0;have y1:=g2.cell d0;have y2:=g2.cell d1;have y3:=g2.cell d2;have y4:=g2.cell d3;have HG2:Hid (G w w2∧Lies w2 (H+1) 0 M):=⟨HG.out.trans g2,g2.lies HX.out.2.2.1⟩;clear g2 c0 d0 d1 d2 d3)
          | (go_at_call_of 104 (Value.agg #[Value.int .i64 n0,Value.int .i64 s0]);refine (CA.out _).mono ?_;clear CA;rintro e w3 ⟨rfl,g3⟩;have HG3:Hid (G w w3∧Lies w3 (H+1) 0 M):=⟨HG2.out.1.trans g3,g3.lies HG2.out.2⟩;have z0:=g3.cell y0;have z3:=g3.cell y3;have z4:=g3.cell y4;clear g3 y0 y1 y2 y3 y4)
          | (go_at_call 104;refine (CB.out _).mono ?_;rintro e w4 ⟨rfl,g4⟩;have HG4:Hid (G w w4∧Lies w4 (H+1) 0 M):=⟨HG3.out.1.trans g4,g4.lies HG3.out.2⟩;have x0:=g4.cell z0;clear g4 z0))
         go_ret
         exact ⟨by rw [HF.out];rfl,HG4.out.1⟩
        | true=>
         have HF:Hid (R=0):=by show _=_;rw [unfoldR.out,HK.out];simp [ownR,hn]
         go_wp2_with (first
          | (with_reducible refine jA (.agg X) ?_ ?_ ?_;exact jE _ rfl H 0 rfl X HX.out.2.1 HX.out.1;kernel_rfl)
          | (go_at_call 78;refine (CR.out _).mono ?_;rintro e w2 ⟨rfl,g2⟩;have y0:=g2.cell c0;have y1:=g2.cell d0;have y2:=g2.cell d1;have y3:=g2.cell d2;have y4:=g2.cell d3;have HG2:Hid (G w w2∧Lies w2 (H+1) 0 M):=⟨HG.out.trans g2,g2.lies HX.out.2.2.1⟩;clear g2 c0 d0 d1 d2 d3)
          | (go_at_call_of 104 (Value.agg #[Value.int .i64 n0,Value.int .i64 s0]);refine (CA.out _).mono ?_;clear CA;rintro e w3 ⟨rfl,g3⟩;have HG3:Hid (G w w3∧Lies w3 (H+1) 0 M):=⟨HG2.out.1.trans g3,g3.lies HG2.out.2⟩;have z0:=g3.cell y0;have z3:=g3.cell y3;have z4:=g3.cell y4;clear g3 y0 y1 y2 y3 y4)
          | (go_at_call 104;refine (CB.out _).mono ?_;rintro e w4 ⟨rfl,g4⟩;have HG4:Hid (G w w4∧Lies w4 (H+1) 0 M):=⟨HG3.out.1.trans g4,g4.lies HG3.out.2⟩;have x0:=g4.cell z0;clear g4 z0))
         go_ret
         exact ⟨by rw [HF.out];rfl,HG4.out.1⟩
     ·obtain rfl:kd=3:=by omega
      clear l1 l3 k1 k2
      cases b0 with
      | false=>
       have HF:Hid (R=41):=by show _=_;rw [unfoldR.out,HK.out];simp [ownR,hn]
       go_wp2_with (first
        | (with_reducible refine jA (.agg X) ?_ ?_ ?_;exact jE _ rfl H 0 rfl X HX.out.2.1 HX.out.1;kernel_rfl)
        | (go_at_call 78;refine (CR.out _).mono ?_;rintro e w2 ⟨rfl,g2⟩;have y0:=g2.cell c0;have y1:=g2.cell d0;have y2:=g2.cell d1;have y3:=g2.cell d2;have y4:=g2.cell d3;have HG2:Hid (G w w2∧Lies w2 (H+1) 0 M):=⟨HG.out.trans g2,g2.lies HX.out.2.2.1⟩;clear g2 c0 d0 d1 d2 d3))
       go_ret
       exact ⟨by rw [HF.out];rfl,HG2.out.1⟩
      | true=>
       cases b1 with
       | false=>
        have HF:Hid (R=41):=by show _=_;rw [unfoldR.out,HK.out];simp [ownR,hn]
        go_wp2_with (first
         | (with_reducible refine jA (.agg X) ?_ ?_ ?_;exact jE _ rfl H 0 rfl X HX.out.2.1 HX.out.1;kernel_rfl)
         | (go_at_call 78;refine (CR.out _).mono ?_;rintro e w2 ⟨rfl,g2⟩;have y0:=g2.cell c0;have y1:=g2.cell d0;have y2:=g2.cell d1;have y3:=g2.cell d2;have y4:=g2.cell d3;have HG2:Hid (G w w2∧Lies w2 (H+1) 0 M):=⟨HG.out.trans g2,g2.lies HX.out.2.2.1⟩;clear g2 c0 d0 d1 d2 d3)
         | (go_at_call 104;refine (CA.out _).mono ?_;rintro e w3 ⟨rfl,g3⟩;have HG3:Hid (G w w3∧Lies w3 (H+1) 0 M):=⟨HG2.out.1.trans g3,g3.lies HG2.out.2⟩;have z0:=g3.cell y0;have z3:=g3.cell y3;have z4:=g3.cell y4;clear g3 y0 y1 y2 y3 y4))
        go_ret
        exact ⟨by rw [HF.out];rfl,HG3.out.1⟩
       | true=>
        cases b2 with
        | false=>
         have HF:Hid (R=41):=by show _=_;rw [unfoldR.out,HK.out];simp [ownR,hn]
         go_wp2_with (first
          | (with_reducible refine jA (.agg X) ?_ ?_ ?_;exact jE _ rfl H 0 rfl X HX.out.2.1 HX.out.1;kernel_rfl)
          | (go_at_call 78;refine (CR.out _).mono ?_;rintro e w2 ⟨rfl,g2⟩;have y0:=g2.cell c0;have y1:=g2.cell d0;have y2:=g2.cell d1;have y3:=g2.cell d2;have y4:=g2.cell d3;have HG2:Hid (G w w2∧Lies w2 (H+1) 0 M):=⟨HG.out.trans g2,g2.lies HX.out.2.2.1⟩;clear g2 c0 d0 d1 d2 d3)
          | (go_at_call_of 104 (Value.agg #[Value.int .i64 n0,Value.int .i64 s0]);refine (CA.out _).mono ?_;clear CA;rintro e w3 ⟨rfl,g3⟩;have HG3:Hid (G w w3∧Lies w3 (H+1) 0 M):=⟨HG2.out.1.trans g3,g3.lies HG2.out.2⟩;have z0:=g3.cell y0;have z3:=g3.cell y3;have z4:=g3.cell y4;clear g3 y0 y1 y2 y3 y4)
          | (go_at_call 104;refine (CB.out _).mono ?_;rintro e w4 ⟨rfl,g4⟩;have HG4:Hid (G w w4∧Lies w4 (H+1) 0 M):=⟨HG3.out.1.trans g4,g4.lies HG3.out.2⟩;have x0:=g4.cell z0;clear g4 z0))
         go_ret
         exact ⟨by rw [HF.out];rfl,HG4.out.1⟩
        | true=>
         cases b3 with
         | false=>
          have HF:Hid (R=0):=by show _=_;rw [unfoldR.out,HK.out];simp [ownR,hn]
          go_wp2_with (first
           | (with_reducible refine jA (.agg X) ?_ ?_ ?_;exact jE _ rfl H 0 rfl X HX.out.2.1 HX.out.1;kernel_rfl)
           | (go_at_call 78;refine (CR.out _).mono ?_;rintro e w2 ⟨rfl,g2⟩;have y0:=g2.cell c0;have y1:=g2.cell d0;have y2:=g2.cell d1;have y3:=g2.cell d2;have y4:=g2.cell d3;have HG2:Hid (G w w2∧Lies w2 (H+1) 0 M):=⟨HG.out.trans g2,g2.lies HX.out.2.2.1⟩;clear g2 c0 d0 d1 d2 d3)
           | (go_at_call_of 104 (Value.agg #[Value.int .i64 n0,Value.int .i64 s0]);refine (CA.out _).mono ?_;clear CA;rintro e w3 ⟨rfl,g3⟩;have HG3:Hid (G w w3∧Lies w3 (H+1) 0 M):=⟨HG2.out.1.trans g3,g3.lies HG2.out.2⟩;have z0:=g3.cell y0;have z3:=g3.cell y3;have z4:=g3.cell y4;clear g3 y0 y1 y2 y3 y4)
           | (go_at_call 104;refine (CB.out _).mono ?_;rintro e w4 ⟨rfl,g4⟩;have HG4:Hid (G w w4∧Lies w4 (H+1) 0 M):=⟨HG3.out.1.trans g4,g4.lies HG3.out.2⟩;have x0:=g4.cell z0;clear g4 z0)
           | (with_reducible refine jA (.agg M) ?_ ?_ ?_;exact jO _ rfl (H+1) 0 rfl M HX.out.2.2.2.1 HG4.out.2;kernel_rfl)
           | (with_reducible refine jA (.agg Z) ?_ ?_ ?_;exact jR 27 rfl Z HZ.out.1 _;kernel_rfl)
           | (with_reducible refine jA (.bool false) ?_ ?_ ?_;exact jn _ _ rfl M Z rfl rfl m Md.zero HX.out.2.2.2.2 HZ.out.2 false HB.out.2.2.2 _;kernel_rfl))
          go_ret
          exact ⟨by rw [HF.out];rfl,HG4.out.1⟩
         | true=>
          have HF:Hid (R=41):=by show _=_;rw [unfoldR.out,HK.out];simp [ownR,hn]
          go_wp2_with (first
           | (with_reducible refine jA (.agg X) ?_ ?_ ?_;exact jE _ rfl H 0 rfl X HX.out.2.1 HX.out.1;kernel_rfl)
           | (go_at_call 78;refine (CR.out _).mono ?_;rintro e w2 ⟨rfl,g2⟩;have y0:=g2.cell c0;have y1:=g2.cell d0;have y2:=g2.cell d1;have y3:=g2.cell d2;have y4:=g2.cell d3;have HG2:Hid (G w w2∧Lies w2 (H+1) 0 M):=⟨HG.out.trans g2,g2.lies HX.out.2.2.1⟩;clear g2 c0 d0 d1 d2 d3)
           | (go_at_call_of 104 (Value.agg #[Value.int .i64 n0,Value.int .i64 s0]);refine (CA.out _).mono ?_;clear CA;rintro e w3 ⟨rfl,g3⟩;have HG3:Hid (G w w3∧Lies w3 (H+1) 0 M):=⟨HG2.out.1.trans g3,g3.lies HG2.out.2⟩;have z0:=g3.cell y0;have z3:=g3.cell y3;have z4:=g3.cell y4;clear g3 y0 y1 y2 y3 y4)
           | (go_at_call 104;refine (CB.out _).mono ?_;rintro e w4 ⟨rfl,g4⟩;have HG4:Hid (G w w4∧Lies w4 (H+1) 0 M):=⟨HG3.out.1.trans g4,g4.lies HG3.out.2⟩;have x0:=g4.cell z0;clear g4 z0)
           | (with_reducible refine jA (.agg M) ?_ ?_ ?_;exact jO _ rfl (H+1) 0 rfl M HX.out.2.2.2.1 HG4.out.2;kernel_rfl)
           | (with_reducible refine jA (.agg Z) ?_ ?_ ?_;exact jR 27 rfl Z HZ.out.1 _;kernel_rfl)
           | (with_reducible refine jA (.bool true) ?_ ?_ ?_;exact jn _ _ rfl M Z rfl rfl m Md.zero HX.out.2.2.2.2 HZ.out.2 true HB.out.2.2.2 _;kernel_rfl))
          go_ret
          exact ⟨by rw [HF.out];rfl,HG4.out.1⟩
end Go.Proofs.YthfcanpkhjgomaaGreat
