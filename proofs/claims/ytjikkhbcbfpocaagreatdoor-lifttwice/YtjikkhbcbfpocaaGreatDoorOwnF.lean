import Derived.Test.YtjikkhbcbfpocaaGreatDoorOwn
set_option maxRecDepth 100000
set_option maxHeartbeats 1000000
namespace Go.Proofs.YtjikkhbcbfpocaaGreatDoor
open Go.RowKit
theorem boxes (w:World) (X M:Array Value):Lies ((w.alloc (.cells X 24)).alloc (.cells M 27)) w.heap.size 0 X∧Lies ((w.alloc (.cells X 24)).alloc (.cells M 27)) (w.heap.size+1) 0 M:=by
 constructor
 ·exact (jW w X 24).below ((Below.refl _ _).alloc (Nat.le_refl _) _)
 ·have:=jW (w.alloc (.cells X 24)) M 27
  rw [World.size_alloc] at this
  exact this
theorem ge (v:Vd) (m:Md) (kids:Bool) (X M:Array Value) (hX:X=(vx v).toArray) (hM:M=(mx m).toArray) (w:World):
  Calls Tryz.prog 112 #[.agg X,.agg M,.bool kids] w fun e w'=>e=.returned (.int .i64 (ownE v m kids))∧G w w':=by
 have HG:Hid (G w ((w.alloc (.cells X 24)).alloc (.cells M 27))):=(G.alloc w _).trans (G.alloc _ _)
 obtain ⟨lX,lM⟩:=boxes w X M
 have c0:=jB lX 0 (.int .i64 v.kind) (by rw [hX];rfl)
 have d0:=jB lM 0 (.int .i64 m.n0) (by rw [hM];rfl)
 have d1:=jB lM 1 (.int .i64 m.s0) (by rw [hM];rfl)
 have d2:=jB lM 2 (.int .i64 m.n1) (by rw [hM];rfl)
 have d3:=jB lM 3 (.int .i64 m.s1) (by rw [hM];rfl)
 have HX:Hid (Lies ((w.alloc (.cells X 24)).alloc (.cells M 27)) w.heap.size 0 X∧X.size=35∧Lies ((w.alloc (.cells X 24)).alloc (.cells M 27)) (w.heap.size+1) 0 M∧M.size=4∧M=(mx m).toArray):=⟨lX,by rw [hX];simp [je],lM,by rw [hM];simp [qh],hM⟩
 obtain ⟨Z,hZ⟩:∃ Z,(mx Md.zero).toArray=Z:=⟨_,rfl⟩
 have HZ:Hid (Tryz.prog.built 27 []=some Z∧Z=(mx Md.zero).toArray):=⟨by rw [built27,hZ],hZ.symm⟩
 have HE:=hid (rfl:ownE v m kids=ownE v m kids)
 obtain ⟨R,hR⟩:∃ R,ownE v m kids=R:=⟨_,rfl⟩
 rw [hR]
 have HR:Hid (ownE v m kids=R):=hR
 obtain ⟨b0,hb0⟩:∃ b,jm v=b:=⟨_,rfl⟩
 obtain ⟨b1,hb1⟩:∃ b,qD m.n0 m.s0=b:=⟨_,rfl⟩
 obtain ⟨b2,hb2⟩:∃ b,qD m.n1 m.s1=b:=⟨_,rfl⟩
 obtain ⟨b3,hb3⟩:∃ b,(!decide (m=Md.zero))=b:=⟨_,rfl⟩
 have HB:=hid (⟨hb0,hb1,hb2,hb3⟩:jm v=b0∧qD m.n0 m.s0=b1∧qD m.n1 m.s1=b2∧(!decide (m=Md.zero))=b3)
 have CR:=hid (fun W=>(by have:=dP v X hX W;rw [hb0] at this;exact this:Calls Tryz.prog 144 #[.agg X] W fun e w'=>e=.returned (.bool b0)∧G W w'))
 have CA:=hid (fun W=>(by have:=aG m.n0 m.s0 W;rw [hb1] at this;exact this:Calls Tryz.prog 145 #[.agg #[.int .i64 m.n0,.int .i64 m.s0]] W fun e w'=>e=.returned (.bool b1)∧G W w'))
 have CB:=hid (fun W=>(by have:=aG m.n1 m.s1 W;rw [hb2] at this;exact this:Calls Tryz.prog 145 #[.agg #[.int .i64 m.n1,.int .i64 m.s1]] W fun e w'=>e=.returned (.bool b2)∧G W w'))
 clear hR hb0 hb1 hb2 hb3 hZ lX lM hX hM HE
 obtain ⟨kd,hkd⟩:∃ k,v.kind=k:=⟨_,rfl⟩
 have HK:Hid (v.kind=kd):=hkd
 rw [hkd] at c0
 clear hkd
 obtain ⟨n0,e0⟩:∃ k,m.n0=k:=⟨_,rfl⟩
 obtain ⟨s0,e1⟩:∃ k,m.s0=k:=⟨_,rfl⟩
 obtain ⟨n1,e2⟩:∃ k,m.n1=k:=⟨_,rfl⟩
 obtain ⟨s1,e3⟩:∃ k,m.s1=k:=⟨_,rfl⟩
 rw [e0] at d0 CA
 rw [e1] at d1 CA
 rw [e2] at d2 CB
 rw [e3] at d3 CB
 clear e0 e1 e2 e3
 go_enter Tryz.func112,Tryz.ntmps112
 go_upto_region 1 with fail
 generalize hw1:(w.alloc (.cells X 24)).alloc (.cells M 27)=w1 at *
 generalize w.heap.size=H at *
 clear hw1
 have unfoldR:Hid (R=ownE v m kids):=HR.o.symm
 by_cases hA:kd≠1∧kd≠2∧kd≠3
 ·obtain ⟨a1,a2,a3⟩:=hA
  have HF:Hid (R=40):=by show _=_;rw [unfoldR.o,ownE,if_pos (by rw [HK.o];exact ⟨a1,a2,a3⟩)]
  have a1':(kd==1)=false:=by simpa using a1
  have a2':(kd==2)=false:=by simpa using a2
  have a3':(kd==3)=false:=by simpa using a3
  have f1:(kd !=1)=true:=by simpa using a1
  have f2:(kd !=2)=true:=by simpa using a2
  have f3:(kd !=3)=true:=by simpa using a3
  clear a1 a2 a3 a1' a2' a3'
  go_wp2_with fail
  go_ret
  exact ⟨by rw [HF.o];rfl,HG.o⟩
 ·have HA:Hid (¬ (v.kind≠1∧v.kind≠2∧v.kind≠3)):=by show ¬ _;rw [HK.o];exact hA
  by_cases hB:kids=true∧kd≠1
  ·obtain ⟨rfl,hk⟩:=hB
   have HF:Hid (R=40):=by show _=_;rw [unfoldR.o,ownE,if_neg HA.o,if_pos (by rw [HK.o];exact ⟨rfl,hk⟩)]
   have a1':(kd==1)=false:=by simpa using hk
   by_cases k2:kd=2
   ·subst k2
    clear hA hk
    go_wp2_with fail
    go_ret
    exact ⟨by rw [HF.o];rfl,HG.o⟩
   ·obtain rfl:kd=3:=by by_cases h3:kd=3;exact h3;exact absurd ⟨hk,k2,h3⟩ hA
    clear hA hk k2
    go_wp2_with fail
    go_ret
    exact ⟨by rw [HF.o];rfl,HG.o⟩
  ·have HBB:Hid (¬ (kids=true∧v.kind≠1)):=by show ¬ _;rw [HK.o];exact hB
   by_cases k1:kd=1
   ·subst k1
    clear hA hB
    cases kids with
    | false=>
     cases b0 with
     | false=>
      have HF:Hid (R=41):=by show _=_;rw [unfoldR.o,ownE,if_neg HA.o,if_neg HBB.o,if_pos HB.o.1]
      go_wp2_with (first
       | (with_reducible refine jA (.agg X) ?_ ?_;exact jJ _ rfl H 0 rfl X HX.o.2.1 HX.o.1)
       | (go_at_call 144;refine (CR.o _).mono ?_;rintro e w2 ⟨rfl,g2⟩))
      go_ret
      exact ⟨by rw [HF.o];rfl,HG.o.trans g2⟩
     | true=>
      have HV:Hid (¬ jm v=false):=by show ¬ _;rw [HB.o.1];simp
      cases b3 with
      | false=>
       have HF:Hid (R=0):=by show _=_;rw [unfoldR.o,ownE,if_neg HA.o,if_neg HBB.o,if_neg HV.o,if_neg (by rw [HK.o];simp),if_neg (by have:=HB.o.2.2.2;simp at this;simp [this])]
       go_wp2_with (first
        | (with_reducible refine jA (.agg X) ?_ ?_;exact jJ _ rfl H 0 rfl X HX.o.2.1 HX.o.1)
        | (go_at_call 144;refine (CR.o _).mono ?_;rintro e w2 ⟨rfl,g2⟩;have y0:=g2.cell c0;have y1:=g2.cell d0;have y2:=g2.cell d1;have y3:=g2.cell d2;have y4:=g2.cell d3;have HG2:Hid (G w w2∧Lies w2 (H+1) 0 M):=⟨HG.o.trans g2,g2.lies HX.o.2.2.1⟩;clear g2 c0 d0 d1 d2 d3)
        | (with_reducible refine jA (.agg M) ?_ ?_;exact jZ _ rfl (H+1) 0 rfl M HX.o.2.2.2.1 HG2.o.2)
        | (with_reducible refine jA (.agg Z) ?_ ?_;exact kF 27 rfl Z HZ.o.1 _)
        | (with_reducible refine jA (.bool false) ?_ ?_;exact qW _ _ rfl M Z rfl rfl m Md.zero HX.o.2.2.2.2 HZ.o.2 false HB.o.2.2.2 _))
       go_ret
       exact ⟨by rw [HF.o];rfl,HG2.o.1⟩
      | true=>
       have HF:Hid (R=41):=by show _=_;rw [unfoldR.o,ownE,if_neg HA.o,if_neg HBB.o,if_neg HV.o,if_neg (by rw [HK.o];simp),if_pos ⟨by rw [HK.o];simp,by have:=HB.o.2.2.2;simpa using this⟩]
       go_wp2_with (first
        | (with_reducible refine jA (.agg X) ?_ ?_;exact jJ _ rfl H 0 rfl X HX.o.2.1 HX.o.1)
        | (go_at_call 144;refine (CR.o _).mono ?_;rintro e w2 ⟨rfl,g2⟩;have y0:=g2.cell c0;have y1:=g2.cell d0;have y2:=g2.cell d1;have y3:=g2.cell d2;have y4:=g2.cell d3;have HG2:Hid (G w w2∧Lies w2 (H+1) 0 M):=⟨HG.o.trans g2,g2.lies HX.o.2.2.1⟩;clear g2 c0 d0 d1 d2 d3)
        | (with_reducible refine jA (.agg M) ?_ ?_;exact jZ _ rfl (H+1) 0 rfl M HX.o.2.2.2.1 HG2.o.2)
        | (with_reducible refine jA (.agg Z) ?_ ?_;exact kF 27 rfl Z HZ.o.1 _)
        | (with_reducible refine jA (.bool true) ?_ ?_;exact qW _ _ rfl M Z rfl rfl m Md.zero HX.o.2.2.2.2 HZ.o.2 true HB.o.2.2.2 _))
       go_ret
       exact ⟨by rw [HF.o];rfl,HG2.o.1⟩
    | true=>
     cases b0 with
     | false=>
      have HF:Hid (R=41):=by show _=_;rw [unfoldR.o,ownE,if_neg HA.o,if_neg HBB.o,if_pos HB.o.1]
      go_wp2_with (first
       | (with_reducible refine jA (.agg X) ?_ ?_;exact jJ _ rfl H 0 rfl X HX.o.2.1 HX.o.1)
       | (go_at_call 144;refine (CR.o _).mono ?_;rintro e w2 ⟨rfl,g2⟩))
      go_ret
      exact ⟨by rw [HF.o];rfl,HG.o.trans g2⟩
     | true=>
      have HV:Hid (¬ jm v=false):=by show ¬ _;rw [HB.o.1];simp
      cases b3 with
      | false=>
       have HF:Hid (R=0):=by show _=_;rw [unfoldR.o,ownE,if_neg HA.o,if_neg HBB.o,if_neg HV.o,if_neg (by rw [HK.o];simp),if_neg (by have:=HB.o.2.2.2;simp at this;simp [this])]
       go_wp2_with (first
        | (with_reducible refine jA (.agg X) ?_ ?_;exact jJ _ rfl H 0 rfl X HX.o.2.1 HX.o.1)
        | (go_at_call 144;refine (CR.o _).mono ?_;rintro e w2 ⟨rfl,g2⟩;have y0:=g2.cell c0;have y1:=g2.cell d0;have y2:=g2.cell d1;have y3:=g2.cell d2;have y4:=g2.cell d3;have HG2:Hid (G w w2∧Lies w2 (H+1) 0 M):=⟨HG.o.trans g2,g2.lies HX.o.2.2.1⟩;clear g2 c0 d0 d1 d2 d3)
        | (with_reducible refine jA (.agg M) ?_ ?_;exact jZ _ rfl (H+1) 0 rfl M HX.o.2.2.2.1 HG2.o.2)
        | (with_reducible refine jA (.agg Z) ?_ ?_;exact kF 27 rfl Z HZ.o.1 _)
        | (with_reducible refine jA (.bool false) ?_ ?_;exact qW _ _ rfl M Z rfl rfl m Md.zero HX.o.2.2.2.2 HZ.o.2 false HB.o.2.2.2 _))
       go_ret
       exact ⟨by rw [HF.o];rfl,HG2.o.1⟩
      | true=>
       have HF:Hid (R=41):=by show _=_;rw [unfoldR.o,ownE,if_neg HA.o,if_neg HBB.o,if_neg HV.o,if_neg (by rw [HK.o];simp),if_pos ⟨by rw [HK.o];simp,by have:=HB.o.2.2.2;simpa using this⟩]
       go_wp2_with (first
        | (with_reducible refine jA (.agg X) ?_ ?_;exact jJ _ rfl H 0 rfl X HX.o.2.1 HX.o.1)
        | (go_at_call 144;refine (CR.o _).mono ?_;rintro e w2 ⟨rfl,g2⟩;have y0:=g2.cell c0;have y1:=g2.cell d0;have y2:=g2.cell d1;have y3:=g2.cell d2;have y4:=g2.cell d3;have HG2:Hid (G w w2∧Lies w2 (H+1) 0 M):=⟨HG.o.trans g2,g2.lies HX.o.2.2.1⟩;clear g2 c0 d0 d1 d2 d3)
        | (with_reducible refine jA (.agg M) ?_ ?_;exact jZ _ rfl (H+1) 0 rfl M HX.o.2.2.2.1 HG2.o.2)
        | (with_reducible refine jA (.agg Z) ?_ ?_;exact kF 27 rfl Z HZ.o.1 _)
        | (with_reducible refine jA (.bool true) ?_ ?_;exact qW _ _ rfl M Z rfl rfl m Md.zero HX.o.2.2.2.2 HZ.o.2 true HB.o.2.2.2 _))
       go_ret
       exact ⟨by rw [HF.o];rfl,HG2.o.1⟩
   ·obtain rfl:kids=false:=by cases kids;rfl;exact absurd ⟨rfl,k1⟩ hB
    by_cases k2:kd=2
    ·subst k2
     clear hA hB k1
     cases b0 with
     | false=>
      have HF:Hid (R=41):=by show _=_;rw [unfoldR.o,ownE,if_neg HA.o,if_neg HBB.o,if_pos HB.o.1]
      go_wp2_with (first
       | (with_reducible refine jA (.agg X) ?_ ?_;exact jJ _ rfl H 0 rfl X HX.o.2.1 HX.o.1)
       | (go_at_call 144;refine (CR.o _).mono ?_;rintro e w2 ⟨rfl,g2⟩))
      go_ret
      exact ⟨by rw [HF.o];rfl,HG.o.trans g2⟩
     | true=>
      have HV:Hid (¬ jm v=false):=by show ¬ _;rw [HB.o.1];simp
      cases b1 with
      | false=>
       have HF:Hid (R=41):=by show _=_;rw [unfoldR.o,ownE,if_neg HA.o,if_neg HBB.o,if_neg HV.o,if_pos ⟨HK.o,.inl HB.o.2.1⟩]
       go_wp2_with (first
        | (with_reducible refine jA (.agg X) ?_ ?_;exact jJ _ rfl H 0 rfl X HX.o.2.1 HX.o.1)
        | (go_at_call 144;refine (CR.o _).mono ?_;rintro e w2 ⟨rfl,g2⟩;have y0:=g2.cell c0;have y1:=g2.cell d0;have y2:=g2.cell d1;have y3:=g2.cell d2;have y4:=g2.cell d3;have HG2:Hid (G w w2∧Lies w2 (H+1) 0 M):=⟨HG.o.trans g2,g2.lies HX.o.2.2.1⟩;clear g2 c0 d0 d1 d2 d3)
        | (go_at_call 145;refine (CA.o _).mono ?_;rintro e w3 ⟨rfl,g3⟩;have HG3:Hid (G w w3):=HG2.o.1.trans g3;have z0:=g3.cell y0;have z3:=g3.cell y3;have z4:=g3.cell y4;clear g3 y0 y1 y2 y3 y4))
       go_ret
       exact ⟨by rw [HF.o];rfl,HG3.o⟩
      | true=>
       cases b2 with
       | false=>
        have HF:Hid (R=41):=by show _=_;rw [unfoldR.o,ownE,if_neg HA.o,if_neg HBB.o,if_neg HV.o,if_pos ⟨HK.o,.inr HB.o.2.2.1⟩]
        go_upto_region 7 with (first
         | (with_reducible refine jA (.agg X) ?_ ?_;exact jJ _ rfl H 0 rfl X HX.o.2.1 HX.o.1)
         | (go_at_call 144;refine (CR.o _).mono ?_;rintro e w2 ⟨rfl,g2⟩;have y0:=g2.cell c0;have y1:=g2.cell d0;have y2:=g2.cell d1;have y3:=g2.cell d2;have y4:=g2.cell d3;have HG2:Hid (G w w2∧Lies w2 (H+1) 0 M):=⟨HG.o.trans g2,g2.lies HX.o.2.2.1⟩;clear g2 c0 d0 d1 d2 d3))
        go_wp2_with (first
         | (go_at_call_of 145 (Value.agg #[Value.int .i64 n0,Value.int .i64 s0]);refine (CA.o _).mono ?_;rintro e w3 ⟨rfl,g3⟩;clear CA;have HG3:Hid (G w w3):=HG2.o.1.trans g3;have z0:=g3.cell y0;have z3:=g3.cell y3;have z4:=g3.cell y4;clear g3 y0 y1 y2 y3 y4)
         | (go_at_call 145;refine (CB.o _).mono ?_;rintro e w4 ⟨rfl,g4⟩;have HG4:Hid (G w w4):=HG3.o.trans g4;have v0:=g4.cell z0;clear g4 z0))
        go_ret
        exact ⟨by rw [HF.o];rfl,HG4.o⟩
       | true=>
        have HF:Hid (R=0):=by show _=_;rw [unfoldR.o,ownE,if_neg HA.o,if_neg HBB.o,if_neg HV.o,if_neg (by rw [HB.o.2.1,HB.o.2.2.1];simp),if_neg (by rw [HK.o];simp)]
        go_upto_region 7 with (first
         | (with_reducible refine jA (.agg X) ?_ ?_;exact jJ _ rfl H 0 rfl X HX.o.2.1 HX.o.1)
         | (go_at_call 144;refine (CR.o _).mono ?_;rintro e w2 ⟨rfl,g2⟩;have y0:=g2.cell c0;have y1:=g2.cell d0;have y2:=g2.cell d1;have y3:=g2.cell d2;have y4:=g2.cell d3;have HG2:Hid (G w w2∧Lies w2 (H+1) 0 M):=⟨HG.o.trans g2,g2.lies HX.o.2.2.1⟩;clear g2 c0 d0 d1 d2 d3))
        go_wp2_with (first
         | (go_at_call_of 145 (Value.agg #[Value.int .i64 n0,Value.int .i64 s0]);refine (CA.o _).mono ?_;rintro e w3 ⟨rfl,g3⟩;clear CA;have HG3:Hid (G w w3):=HG2.o.1.trans g3;have z0:=g3.cell y0;have z3:=g3.cell y3;have z4:=g3.cell y4;clear g3 y0 y1 y2 y3 y4)
         | (go_at_call 145;refine (CB.o _).mono ?_;rintro e w4 ⟨rfl,g4⟩;have HG4:Hid (G w w4):=HG3.o.trans g4;have v0:=g4.cell z0;clear g4 z0))
        go_ret
        exact ⟨by rw [HF.o];rfl,HG4.o⟩
    ·obtain rfl:kd=3:=by by_cases h3:kd=3;exact h3;exact absurd ⟨k1,k2,h3⟩ hA
     clear hA hB k1 k2
     cases b0 with
     | false=>
      have HF:Hid (R=41):=by show _=_;rw [unfoldR.o,ownE,if_neg HA.o,if_neg HBB.o,if_pos HB.o.1]
      go_wp2_with (first
       | (with_reducible refine jA (.agg X) ?_ ?_;exact jJ _ rfl H 0 rfl X HX.o.2.1 HX.o.1)
       | (go_at_call 144;refine (CR.o _).mono ?_;rintro e w2 ⟨rfl,g2⟩))
      go_ret
      exact ⟨by rw [HF.o];rfl,HG.o.trans g2⟩
     | true=>
      have HV:Hid (¬ jm v=false):=by show ¬ _;rw [HB.o.1];simp
      cases b3 with
      | false=>
       have HF:Hid (R=0):=by show _=_;rw [unfoldR.o,ownE,if_neg HA.o,if_neg HBB.o,if_neg HV.o,if_neg (by rw [HK.o];simp),if_neg (by have:=HB.o.2.2.2;simp at this;simp [this])]
       go_wp2_with (first
        | (with_reducible refine jA (.agg X) ?_ ?_;exact jJ _ rfl H 0 rfl X HX.o.2.1 HX.o.1)
        | (go_at_call 144;refine (CR.o _).mono ?_;rintro e w2 ⟨rfl,g2⟩;have y0:=g2.cell c0;have y1:=g2.cell d0;have y2:=g2.cell d1;have y3:=g2.cell d2;have y4:=g2.cell d3;have HG2:Hid (G w w2∧Lies w2 (H+1) 0 M):=⟨HG.o.trans g2,g2.lies HX.o.2.2.1⟩;clear g2 c0 d0 d1 d2 d3)
        | (with_reducible refine jA (.agg M) ?_ ?_;exact jZ _ rfl (H+1) 0 rfl M HX.o.2.2.2.1 HG2.o.2)
        | (with_reducible refine jA (.agg Z) ?_ ?_;exact kF 27 rfl Z HZ.o.1 _)
        | (with_reducible refine jA (.bool false) ?_ ?_;exact qW _ _ rfl M Z rfl rfl m Md.zero HX.o.2.2.2.2 HZ.o.2 false HB.o.2.2.2 _))
       go_ret
       exact ⟨by rw [HF.o];rfl,HG2.o.1⟩
      | true=>
       have HF:Hid (R=41):=by show _=_;rw [unfoldR.o,ownE,if_neg HA.o,if_neg HBB.o,if_neg HV.o,if_neg (by rw [HK.o];simp),if_pos ⟨by rw [HK.o];simp,by have:=HB.o.2.2.2;simpa using this⟩]
       go_wp2_with (first
        | (with_reducible refine jA (.agg X) ?_ ?_;exact jJ _ rfl H 0 rfl X HX.o.2.1 HX.o.1)
        | (go_at_call 144;refine (CR.o _).mono ?_;rintro e w2 ⟨rfl,g2⟩;have y0:=g2.cell c0;have y1:=g2.cell d0;have y2:=g2.cell d1;have y3:=g2.cell d2;have y4:=g2.cell d3;have HG2:Hid (G w w2∧Lies w2 (H+1) 0 M):=⟨HG.o.trans g2,g2.lies HX.o.2.2.1⟩;clear g2 c0 d0 d1 d2 d3)
        | (with_reducible refine jA (.agg M) ?_ ?_;exact jZ _ rfl (H+1) 0 rfl M HX.o.2.2.2.1 HG2.o.2)
        | (with_reducible refine jA (.agg Z) ?_ ?_;exact kF 27 rfl Z HZ.o.1 _)
        | (with_reducible refine jA (.bool true) ?_ ?_;exact qW _ _ rfl M Z rfl rfl m Md.zero HX.o.2.2.2.2 HZ.o.2 true HB.o.2.2.2 _))
       go_ret
       exact ⟨by rw [HF.o];rfl,HG2.o.1⟩
end Go.Proofs.YtjikkhbcbfpocaaGreatDoor
