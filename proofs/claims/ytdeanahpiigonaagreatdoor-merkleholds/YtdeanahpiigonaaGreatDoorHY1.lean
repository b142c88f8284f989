import Derived.Test.YtdeanahpiigonaaGreatDoorHX2
set_option maxRecDepth 100000
set_option maxHeartbeats 1000000
namespace Go.Proofs.YtdeanahpiigonaaGreatDoor
open Go.RowKit
theorem kM (v:Vd) (X:Array Value) (hX:X=(vx v).toArray) (w:World):Calls Tryz.prog 45 #[.agg X] w fun e w'=>e=.returned (.bool (jV v))∧G w w':=by
 have HG:Hid (G w (w.alloc (.cells X 24))):=G.alloc _ _
 have hl:=jc w X 24
 have c0:=jD hl 0 (.int .i64 v.kind) (by rw [hX];rfl)
 have c1:=jD hl 1 (.int .i64 v.mode) (by rw [hX];rfl)
 have c2:=jD hl 2 (.int .i64 v.size) (by rw [hX];rfl)
 have x0:X[0]?=some (.int .i64 v.kind):=by rw [hX];rfl
 have x1:X[1]?=some (.int .i64 v.mode):=by rw [hX];rfl
 have x2:X[2]?=some (.int .i64 v.size):=by rw [hX];rfl
 obtain ⟨S,hS⟩:∃ S,(v.sum.map vb).toArray=S:=⟨_,rfl⟩
 have HL:Hid (Lies (w.alloc (.cells X 24)) w.heap.size 3 S∧S.size=32∧S=(v.sum.map vb).toArray):=by
  refine ⟨?_,by rw [← hS];simp [v.len],hS.symm⟩
  have:=hl.part 3 (3+32)
  rw [hX,iv,hS] at this
  rw [hX]
  simpa using this
 obtain ⟨Z,hZ⟩:∃ Z,(aO.map vb).toArray=Z:=⟨_,rfl⟩
 have HZ:Hid (Tryz.prog.built 22 []=some Z∧Z=(aO.map vb).toArray):=⟨by rw [mu,hZ],hZ.symm⟩
 have HV:Hid (v.sum.length=32):=v.len
 obtain ⟨R,hR⟩:∃ R,jV v=R:=⟨_,rfl⟩
 rw [hR]
 have HR:Hid (jV v=R):=hR
 obtain ⟨b4,hb4⟩:∃ b,decide (v.sum=aO)=b:=⟨_,rfl⟩
 have HB4:=hid hb4
 clear hR hb4 hZ hS hl hX
 obtain ⟨kd,hkd⟩:∃ k,v.kind=k:=⟨_,rfl⟩
 obtain ⟨md,hmd⟩:∃ k,v.mode=k:=⟨_,rfl⟩
 obtain ⟨sz,hsz⟩:∃ k,v.size=k:=⟨_,rfl⟩
 have HK:Hid (v.kind=kd∧v.mode=md∧v.size=sz):=⟨hkd,hmd,hsz⟩
 rw [hkd] at c0 x0
 rw [hmd] at c1 x1
 rw [hsz] at c2 x2
 clear hkd hmd hsz
 by_cases k1:kd=1
 ·subst k1
  by_cases a1:0≤md
  ·by_cases a2:md≤8
   ·by_cases a3:sz=0
    ·subst a3
     have HF:Hid (R=b4):=by
      show _=_
      rw [← HR.o,jV,if_pos HK.o.1];simp only [HK.o.2.1,HK.o.2.2];simp only [a1,a2,true_and,HB4.o]
     go_enter Tryz.func45,Tryz.ntmps45
     go_wp2_with (first
      | (with_reducible refine jU (.agg S) ?_ ?_ ?_;exact av _ rfl w.heap.size 3 rfl S HL.o.2.1 HL.o.1;kernel_rfl)
      | (with_reducible refine jU (.agg Z) ?_ ?_ ?_;exact yx 22 rfl Z HZ.o.1 _;kernel_rfl)
      | (with_reducible refine jU (.bool b4) ?_ ?_ ?_;exact xp _ _ rfl S Z rfl rfl v.sum aO HL.o.2.2 HZ.o.2 HV.o rfl b4 HB4.o _;kernel_rfl))
     go_ret
     exact ⟨by rw [HF.o];rfl,HG.o⟩
    ·have HF:Hid (R=false):=by
      show _=_
      rw [← HR.o,jV,if_pos HK.o.1];simp only [HK.o.2.1,HK.o.2.2];simp;omega
     go_enter Tryz.func45,Tryz.ntmps45
     go_wp2_with fail
     go_ret
     exact ⟨by rw [HF.o];rfl,HG.o⟩
   ·have HF:Hid (R=false):=by
     show _=_
     rw [← HR.o,jV,if_pos HK.o.1];simp only [HK.o.2.1,HK.o.2.2];simp;omega
    go_enter Tryz.func45,Tryz.ntmps45
    go_wp2_with fail
    go_ret
    exact ⟨by rw [HF.o];rfl,HG.o⟩
  ·have HF:Hid (R=false):=by
    show _=_
    rw [← HR.o,jV,if_pos HK.o.1];simp only [HK.o.2.1,HK.o.2.2];simp;omega
   go_enter Tryz.func45,Tryz.ntmps45
   go_wp2_with fail
   go_ret
   exact ⟨by rw [HF.o];rfl,HG.o⟩
 ·by_cases k2:kd=2
  ·subst k2
   by_cases a1:0≤md
   ·by_cases a2:md≤8
    ·by_cases a3:0≤sz
     ·by_cases a4:sz≤1099511627775
      ·have HF:Hid (R=true):=by
        show _=_
        rw [← HR.o,jV,if_neg (by rw [HK.o.1];simp),if_pos HK.o.1];simp only [HK.o.2.1,HK.o.2.2];simp [a1,a2,a3,a4]
       go_enter Tryz.func45,Tryz.ntmps45
       go_wp2_with fail
       go_ret
       exact ⟨by rw [HF.o];rfl,HG.o⟩
      ·have HF:Hid (R=false):=by
        show _=_
        rw [← HR.o,jV,if_neg (by rw [HK.o.1];simp),if_pos HK.o.1];simp only [HK.o.2.1,HK.o.2.2];simp;omega
       go_enter Tryz.func45,Tryz.ntmps45
       go_wp2_with fail
       go_ret
       exact ⟨by rw [HF.o];rfl,HG.o⟩
     ·have HF:Hid (R=false):=by
       show _=_
       rw [← HR.o,jV,if_neg (by rw [HK.o.1];simp),if_pos HK.o.1];simp only [HK.o.2.1,HK.o.2.2];simp;omega
      go_enter Tryz.func45,Tryz.ntmps45
      go_wp2_with fail
      go_ret
      exact ⟨by rw [HF.o];rfl,HG.o⟩
    ·have HF:Hid (R=false):=by
      show _=_
      rw [← HR.o,jV,if_neg (by rw [HK.o.1];simp),if_pos HK.o.1];simp only [HK.o.2.1,HK.o.2.2];simp;omega
     go_enter Tryz.func45,Tryz.ntmps45
     go_wp2_with fail
     go_ret
     exact ⟨by rw [HF.o];rfl,HG.o⟩
   ·have HF:Hid (R=false):=by
     show _=_
     rw [← HR.o,jV,if_neg (by rw [HK.o.1];simp),if_pos HK.o.1];simp only [HK.o.2.1,HK.o.2.2];simp;omega
    go_enter Tryz.func45,Tryz.ntmps45
    go_wp2_with fail
    go_ret
    exact ⟨by rw [HF.o];rfl,HG.o⟩
  ·by_cases k3:kd=3
   ·subst k3
    by_cases a1:md=0
    ·by_cases a3:1≤sz
     ·by_cases a4:sz≤4095
      ·subst a1
       have HF:Hid (R=true):=by
        show _=_
        rw [← HR.o,jV,if_neg (by rw [HK.o.1];simp),if_neg (by rw [HK.o.1];simp),if_pos HK.o.1];simp only [HK.o.2.1,HK.o.2.2];simp [a3,a4]
       go_enter Tryz.func45,Tryz.ntmps45
       go_wp2_with fail
       go_ret
       exact ⟨by rw [HF.o];rfl,HG.o⟩
      ·have HF:Hid (R=false):=by
        show _=_
        rw [← HR.o,jV,if_neg (by rw [HK.o.1];simp),if_neg (by rw [HK.o.1];simp),if_pos HK.o.1];simp only [HK.o.2.1,HK.o.2.2];simp;omega
       go_enter Tryz.func45,Tryz.ntmps45
       go_wp2_with fail
       go_ret
       exact ⟨by rw [HF.o];rfl,HG.o⟩
     ·have HF:Hid (R=false):=by
       show _=_
       rw [← HR.o,jV,if_neg (by rw [HK.o.1];simp),if_neg (by rw [HK.o.1];simp),if_pos HK.o.1];simp only [HK.o.2.1,HK.o.2.2];simp;omega
      go_enter Tryz.func45,Tryz.ntmps45
      go_wp2_with fail
      go_ret
      exact ⟨by rw [HF.o];rfl,HG.o⟩
    ·have HF:Hid (R=false):=by
      show _=_
      rw [← HR.o,jV,if_neg (by rw [HK.o.1];simp),if_neg (by rw [HK.o.1];simp),if_pos HK.o.1];simp only [HK.o.2.1,HK.o.2.2];simp;omega
     go_enter Tryz.func45,Tryz.ntmps45
     go_wp2_with fail
     go_ret
     exact ⟨by rw [HF.o];rfl,HG.o⟩
   ·have HF:Hid (R=false):=by
     show _=_
     rw [← HR.o,jV,if_neg (by rw [HK.o.1];exact k1),if_neg (by rw [HK.o.1];exact k2),if_neg (by rw [HK.o.1];exact k3)]
    have k1':(kd==1)=false:=by simpa using k1
    have k2':(kd==2)=false:=by simpa using k2
    have k3':(kd==3)=false:=by simpa using k3
    clear k1 k2 k3
    go_enter Tryz.func45,Tryz.ntmps45
    go_wp2_with fail
    go_ret
    exact ⟨by rw [HF.o];rfl,HG.o⟩
open Hm
attribute [local go_sem] Oper.semAt_some
theorem xm (v:Vd) (h0:v.kind≠0):valB v=jV v:=by
 have hvz:decide (v=vz)=false:=by
  rw [decide_eq_false_iff_not]
  intro e
  rw [e] at h0
  exact h0 rfl
 unfold valB
 rw [hvz,Bool.false_or]
 unfold ownE
 cases hr:jV v with
 | false=>
  rw [decide_eq_false_iff_not]
  split
  ·decide
  ·rw [if_neg (by simp),if_pos rfl];decide
 | true=>
  have hk:¬ (v.kind≠1∧v.kind≠2∧v.kind≠3):=by
   rintro ⟨k1,k2,k3⟩
   unfold jV at hr
   rw [if_neg k1,if_neg k2,if_neg k3] at hr
   cases hr
  rw [if_neg hk,if_neg (by simp),if_neg (by simp),if_neg (by rintro ⟨_,h | h⟩<;>exact absurd h (by decide)),if_neg (by rintro ⟨_,h⟩;exact h rfl)]
  rfl
theorem mO (v:Vd) (h0:v.kind=0):valB v=decide (v=vz):=by
 unfold valB ownE
 rw [if_pos (by omega)]
 simp
theorem xB (v:Vd) (w:World):Calls Tryz.prog 15 #[.agg (vx v).toArray] w fun e w'=>e=.returned (.bool (valB v))∧G w w':=by
 obtain ⟨X,hX⟩:∃ X:Array Value,X=(vx v).toArray:=⟨_,rfl⟩
 obtain ⟨Z,hZ⟩:∃ Z:Array Value,Z=(vx vz).toArray:=⟨_,rfl⟩
 have HX:Hid (X=(vx v).toArray∧Z=(vx vz).toArray∧X.size=35∧(∀ W,(Instr.build 24 #[]).run Tryz.prog W=.ok (.agg Z) W)):=⟨hX,hZ,by rw [hX];simp [jq],by rw [hZ];exact fg⟩
 have CR:Hid (∀ W,Calls Tryz.prog 45 #[.agg X] W fun e w'=>e=.returned (.bool (jV v))∧G W w'):=fun W=>kM v X hX W
 rw [← hX]
 have x0:X[0]?=some (.int .i64 v.kind):=by rw [hX];rfl
 clear hX hZ
 obtain ⟨kd,hkd⟩:∃ k,v.kind=k:=⟨_,rfl⟩
 have HK:=hid hkd
 rw [hkd] at x0
 clear hkd
 by_cases hv:v=vz
 ·have hd:decide (v=vz)=true:=by simp [hv]
  have hr:valB v=true:=by unfold valB;rw [hd];rfl
  rw [hr]
  have HE:=hid hd
  clear hd hv hr
  go_enter Tryz.func15,Tryz.ntmps15
  go_wp2_with (first
   | ((with_reducible refine jt 1 24 (.tmp 0) X ?_ ?_ ?_ ?_ ?_);rfl;rfl;kernel_rfl;rfl;intro w1 b1 H1;have hzc:=show w1.cell? ⟨b1,0,none⟩=some (.int .i64 kd) from (by rw [j9 H1.o.2.2.1];exact x0))
   | ((with_reducible refine jE 3 24 (.tmp 1) b1 0 X _ ?_ ?_ ?_ ?_ ?_ jR ?_ ?_ ?_);rfl;rfl;kernel_rfl;rfl;exact Lies.of_heap H1.o.2.2.1;rfl;exact (by rw [qU,HX.o.2.2.1]))
   | ((with_reducible refine jT 4 (.agg Z) w1 ?_ ?_ ?_ ?_);rfl;kernel_rfl;exact xI 24 rfl Z (HX.o.2.2.2 _))
   | ((with_reducible refine jT 5 (.bool true) w1 ?_ ?_ ?_ ?_);rfl;kernel_rfl;exact yc _ _ rfl X Z rfl rfl v vz HX.o.1 HX.o.2.1 true HE.o _))
  go_ret
  exact ⟨rfl,H1.o.2.1⟩
 ·have hd:decide (v=vz)=false:=by simp [hv]
  have HE:=hid hd
  by_cases hk0:kd=0
  ·have hr:valB v=false:=by rw [mO v (by rw [HK.o];exact hk0)];exact hd
   rw [hr]
   subst hk0
   clear hd hv hr
   go_enter Tryz.func15,Tryz.ntmps15
   go_wp2_with (first
    | ((with_reducible refine jt 1 24 (.tmp 0) X ?_ ?_ ?_ ?_ ?_);rfl;rfl;kernel_rfl;rfl;intro w1 b1 H1;have hzc:=show w1.cell? ⟨b1,0,none⟩=some (.int .i64 0) from (by rw [j9 H1.o.2.2.1];exact x0))
    | ((with_reducible refine jE 3 24 (.tmp 1) b1 0 X _ ?_ ?_ ?_ ?_ ?_ jR ?_ ?_ ?_);rfl;rfl;kernel_rfl;rfl;exact Lies.of_heap H1.o.2.2.1;rfl;exact (by rw [qU,HX.o.2.2.1]))
    | ((with_reducible refine jT 4 (.agg Z) w1 ?_ ?_ ?_ ?_);rfl;kernel_rfl;exact xI 24 rfl Z (HX.o.2.2.2 _))
    | ((with_reducible refine jT 5 (.bool false) w1 ?_ ?_ ?_ ?_);rfl;kernel_rfl;exact yc _ _ rfl X Z rfl rfl v vz HX.o.1 HX.o.2.1 false HE.o _))
   go_ret
   exact ⟨rfl,H1.o.2.1⟩
  ·have hr:valB v=jV v:=xm v (by rw [HK.o];exact hk0)
   rw [hr]
   generalize jV v=R at *
   have hkb:(kd !=0)=true:=by simpa using hk0
   clear hd hv hr hk0
   go_enter Tryz.func15,Tryz.ntmps15
   go_wp2_with (first
    | ((with_reducible refine jt 1 24 (.tmp 0) X ?_ ?_ ?_ ?_ ?_);rfl;rfl;kernel_rfl;rfl;intro w1 b1 H1;have hzc:=show w1.cell? ⟨b1,0,none⟩=some (.int .i64 kd) from (by rw [j9 H1.o.2.2.1];exact x0))
    | ((with_reducible refine jE 3 24 (.tmp 1) b1 0 X _ ?_ ?_ ?_ ?_ ?_ jR ?_ ?_ ?_);rfl;rfl;kernel_rfl;rfl;exact Lies.of_heap H1.o.2.2.1;rfl;exact (by rw [qU,HX.o.2.2.1]))
    | ((with_reducible refine jT 4 (.agg Z) w1 ?_ ?_ ?_ ?_);rfl;kernel_rfl;exact xI 24 rfl Z (HX.o.2.2.2 _))
    | ((with_reducible refine jT 5 (.bool false) w1 ?_ ?_ ?_ ?_);rfl;kernel_rfl;exact yc _ _ rfl X Z rfl rfl v vz HX.o.1 HX.o.2.1 false HE.o _)
    | ((with_reducible refine jE 11 24 (.tmp 1) b1 0 X _ ?_ ?_ ?_ ?_ ?_ jR ?_ ?_ ?_);rfl;rfl;kernel_rfl;rfl;exact Lies.of_heap H1.o.2.2.1;rfl;exact (by rw [qU,HX.o.2.2.1]))
    | (go_at_call 45;refine (CR.o _).mono ?_;rintro e w2 ⟨rfl,p1⟩;have H2:Hid (G w1 w2):=p1;clear p1))
   go_ret
   exact ⟨rfl,G.trans H1.o.2.1 H2.o⟩
end Go.Proofs.YtdeanahpiigonaaGreatDoor
