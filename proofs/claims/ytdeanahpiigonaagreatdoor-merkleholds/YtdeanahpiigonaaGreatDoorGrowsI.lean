import Derived.Test.YtdeanahpiigonaaGreatDoorOwn
set_option maxRecDepth 100000
set_option maxHeartbeats 1000000
namespace Go.Proofs.YtdeanahpiigonaaGreatDoor
open Go.RowKit
theorem boxes (w:World) (X M:Array Value):Lies ((w.alloc (.cells X 24)).alloc (.cells M 157)) w.heap.size 0 X∧Lies ((w.alloc (.cells X 24)).alloc (.cells M 157)) (w.heap.size+1) 0 M:=by
 constructor
 ·exact (jc w X 24).below ((Below.refl _ _).alloc (Nat.le_refl _) _)
 ·have:=jc (w.alloc (.cells X 24)) M 157
  rw [World.size_alloc] at this
  exact this
theorem dX (v:Vd) (m:Md) (kids:Bool) (X M:Array Value) (hX:X=(vx v).toArray) (hM:M=(mx m).toArray) (hk0:kids=false) (hm:m=Md.zero) (w:World):
  Calls Tryz.prog 120 #[.agg X,.agg M,.bool kids] w fun e w'=>e=.returned (.int .i64 (ownE v m kids))∧G w w':=by
 have HG:Hid (G w ((w.alloc (.cells X 24)).alloc (.cells M 157))):=(G.alloc w _).trans (G.alloc _ _)
 have HM:=hid hm
 clear hm
 obtain ⟨lX,lM⟩:=boxes w X M
 have c0:=jD lX 0 (.int .i64 v.kind) (by rw [hX];rfl)
 have d0:=jD lM 0 (.int .i64 m.n0) (by rw [hM];rfl)
 have d1:=jD lM 1 (.int .i64 m.s0) (by rw [hM];rfl)
 have d2:=jD lM 2 (.int .i64 m.n1) (by rw [hM];rfl)
 have d3:=jD lM 3 (.int .i64 m.s1) (by rw [hM];rfl)
 have HX:Hid (Lies ((w.alloc (.cells X 24)).alloc (.cells M 157)) w.heap.size 0 X∧X.size=35∧Lies ((w.alloc (.cells X 24)).alloc (.cells M 157)) (w.heap.size+1) 0 M∧M.size=4∧M=(mx m).toArray):=⟨lX,by rw [hX];simp [jq],lM,by rw [hM];simp [fX],hM⟩
 obtain ⟨Z,hZ⟩:∃ Z,(mx Md.zero).toArray=Z:=⟨_,rfl⟩
 have HZ:Hid (Tryz.prog.built 157 []=some Z∧Z=(mx Md.zero).toArray):=⟨by rw [built27,hZ],hZ.symm⟩
 have HE:=hid (rfl:ownE v m kids=ownE v m kids)
 obtain ⟨R,hR⟩:∃ R,ownE v m kids=R:=⟨_,rfl⟩
 rw [hR]
 have HR:Hid (ownE v m kids=R):=hR
 obtain ⟨b0,hb0⟩:∃ b,jV v=b:=⟨_,rfl⟩
 obtain ⟨b1,hb1⟩:∃ b,yw m.n0 m.s0=b:=⟨_,rfl⟩
 obtain ⟨b2,hb2⟩:∃ b,yw m.n1 m.s1=b:=⟨_,rfl⟩
 obtain ⟨b3,hb3⟩:∃ b,(!decide (m=Md.zero))=b:=⟨_,rfl⟩
 have HB:=hid (⟨hb0,hb1,hb2,hb3⟩:jV v=b0∧yw m.n0 m.s0=b1∧yw m.n1 m.s1=b2∧(!decide (m=Md.zero))=b3)
 have CR:=hid (fun W=>(by have:=bd v X hX W;rw [hb0] at this;exact this:Calls Tryz.prog 135 #[.agg X] W fun e w'=>e=.returned (.bool b0)∧G W w'))
 have CA:=hid (fun W=>(by have:=xS m.n0 m.s0 W;rw [hb1] at this;exact this:Calls Tryz.prog 136 #[.agg #[.int .i64 m.n0,.int .i64 m.s0]] W fun e w'=>e=.returned (.bool b1)∧G W w'))
 have CB:=hid (fun W=>(by have:=xS m.n1 m.s1 W;rw [hb2] at this;exact this:Calls Tryz.prog 136 #[.agg #[.int .i64 m.n1,.int .i64 m.s1]] W fun e w'=>e=.returned (.bool b2)∧G W w'))
 clear hR hb0 hb1 hb2 hb3 hZ lX lM hX hM HE
 obtain ⟨kd,hkd⟩:∃ k,v.kind=k:=⟨_,rfl⟩
 have HK:Hid (v.kind=kd):=hkd
 rw [hkd] at c0
 clear hkd
 obtain ⟨n0,e0⟩:∃ k,m.n0=k:=⟨_,rfl⟩
 obtain ⟨s0,e1⟩:∃ k,m.s0=k:=⟨_,rfl⟩
 obtain ⟨n1,e2⟩:∃ k,m.n1=k:=⟨_,rfl⟩
 obtain ⟨s1,e3⟩:∃ k,m.s1=k:=⟨_,rfl⟩
 rw [e0] at d0 CA
 rw [e1] at d1 CA
 rw [e2] at d2 CB
 rw [e3] at d3 CB
 clear e0 e1 e2 e3
 go_enter Tryz.func120,Tryz.ntmps120
 go_upto_region 1 with fail
 generalize hw1:(w.alloc (.cells X 24)).alloc (.cells M 157)=w1 at *
 generalize w.heap.size=H at *
 clear hw1
 have unfoldR:Hid (R=ownE v m kids):=HR.o.symm
 by_cases hA:kd≠1∧kd≠2∧kd≠3
 ·obtain ⟨a1,a2,a3⟩:=hA
  have HF:Hid (R=40):=by show _=_;rw [unfoldR.o,ownE,if_pos (by rw [HK.o];exact ⟨a1,a2,a3⟩)]
  have a1':(kd==1)=false:=by simpa using a1
  have a2':(kd==2)=false:=by simpa using a2
  have a3':(kd==3)=false:=by simpa using a3
  have f1:(kd !=1)=true:=by simpa using a1
  have f2:(kd !=2)=true:=by simpa using a2
  have f3:(kd !=3)=true:=by simpa using a3
  clear a1 a2 a3 a1' a2' a3'
  go_wp2_with fail
  go_ret
  exact ⟨by rw [HF.o];rfl,HG.o⟩
 ·have HA:Hid (¬ (v.kind≠1∧v.kind≠2∧v.kind≠3)):=by show ¬ _;rw [HK.o];exact hA
  by_cases hB:kids=true∧kd≠1
  ·exact absurd hB.1 (by rw [hk0];simp)
  ·have HBB:Hid (¬ (kids=true∧v.kind≠1)):=by show ¬ _;rw [HK.o];exact hB
   by_cases k1:kd=1
   ·subst k1
    clear hA hB
    cases kids with
    | false=>
     cases b0 with
     | false=>
      have HF:Hid (R=41):=by show _=_;rw [unfoldR.o,ownE,if_neg HA.o,if_neg HBB.o,if_pos HB.o.1]
      go_wp2_with (first
       | (with_reducible refine jU (.agg X) ?_ ?_ ?_;exact kA _ rfl H 0 rfl X HX.o.2.1 HX.o.1;kernel_rfl)
       | (go_at_call 135;refine (CR.o _).mono ?_;rintro e w2 ⟨rfl,g2⟩))
      go_ret
      exact ⟨by rw [HF.o];rfl,HG.o.trans g2⟩
     | true=>
      have HV:Hid (¬ jV v=false):=by show ¬ _;rw [HB.o.1];simp
      cases b3 with
      | false=>
       have HF:Hid (R=0):=by show _=_;rw [unfoldR.o,ownE,if_neg HA.o,if_neg HBB.o,if_neg HV.o,if_neg (by rw [HK.o];simp),if_neg (by have:=HB.o.2.2.2;simp at this;simp [this])]
       go_wp2_with (first
        | (with_reducible refine jU (.agg X) ?_ ?_ ?_;exact kA _ rfl H 0 rfl X HX.o.2.1 HX.o.1;kernel_rfl)
        | (go_at_call 135;refine (CR.o _).mono ?_;rintro e w2 ⟨rfl,g2⟩;have y0:=g2.cell c0;have y1:=g2.cell d0;have y2:=g2.cell d1;have y3:=g2.cell d2;have y4:=g2.cell d3;have HG2:Hid (G w w2∧Lies w2 (H+1) 0 M):=⟨HG.o.trans g2,g2.lies HX.o.2.2.1⟩;clear g2 c0 d0 d1 d2 d3)
        | (with_reducible refine jU (.agg M) ?_ ?_ ?_;exact zu _ rfl (H+1) 0 rfl M HX.o.2.2.2.1 HG2.o.2;kernel_rfl)
        | (with_reducible refine jU (.agg Z) ?_ ?_ ?_;exact yx 157 rfl Z HZ.o.1 _;kernel_rfl)
        | (with_reducible refine jU (.bool false) ?_ ?_ ?_;exact aY _ _ rfl M Z rfl rfl m Md.zero HX.o.2.2.2.2 HZ.o.2 false HB.o.2.2.2 _;kernel_rfl))
       go_ret
       exact ⟨by rw [HF.o];rfl,HG2.o.1⟩
      | true=>exact absurd HB.o.2.2.2 (by rw [HM.o];simp)
    | true=>exact absurd hk0 (by simp)
   ·obtain rfl:kids=false:=by cases kids;rfl;exact absurd ⟨rfl,k1⟩ hB
    by_cases k2:kd=2
    ·subst k2
     clear hA hB k1
     cases b0 with
     | false=>
      have HF:Hid (R=41):=by show _=_;rw [unfoldR.o,ownE,if_neg HA.o,if_neg HBB.o,if_pos HB.o.1]
      go_wp2_with (first
       | (with_reducible refine jU (.agg X) ?_ ?_ ?_;exact kA _ rfl H 0 rfl X HX.o.2.1 HX.o.1;kernel_rfl)
       | (go_at_call 135;refine (CR.o _).mono ?_;rintro e w2 ⟨rfl,g2⟩))
      go_ret
      exact ⟨by rw [HF.o];rfl,HG.o.trans g2⟩
     | true=>
      have HV:Hid (¬ jV v=false):=by show ¬ _;rw [HB.o.1];simp
      cases b1 with
      | false=>exact absurd HB.o.2.1 (by rw [HM.o];decide)
      | true=>
       cases b2 with
       | false=>exact absurd HB.o.2.2.1 (by rw [HM.o];decide)
       | true=>
        have HF:Hid (R=0):=by show _=_;rw [unfoldR.o,ownE,if_neg HA.o,if_neg HBB.o,if_neg HV.o,if_neg (by rw [HB.o.2.1,HB.o.2.2.1];simp),if_neg (by rw [HK.o];simp)]
        go_upto_region 7 with (first
         | (with_reducible refine jU (.agg X) ?_ ?_ ?_;exact kA _ rfl H 0 rfl X HX.o.2.1 HX.o.1;kernel_rfl)
         | (go_at_call 135;refine (CR.o _).mono ?_;rintro e w2 ⟨rfl,g2⟩;have y0:=g2.cell c0;have y1:=g2.cell d0;have y2:=g2.cell d1;have y3:=g2.cell d2;have y4:=g2.cell d3;have HG2:Hid (G w w2∧Lies w2 (H+1) 0 M):=⟨HG.o.trans g2,g2.lies HX.o.2.2.1⟩;clear g2 c0 d0 d1 d2 d3))
        go_wp2_with (first
         | (go_at_call_of 136 (Value.agg #[Value.int .i64 n0,Value.int .i64 s0]);refine (CA.o _).mono ?_;rintro e w3 ⟨rfl,g3⟩;clear CA;have HG3:Hid (G w w3):=HG2.o.1.trans g3;have z0:=g3.cell y0;have z3:=g3.cell y3;have z4:=g3.cell y4;clear g3 y0 y1 y2 y3 y4)
         | (go_at_call 136;refine (CB.o _).mono ?_;rintro e w4 ⟨rfl,g4⟩;have HG4:Hid (G w w4):=HG3.o.trans g4;have v0:=g4.cell z0;clear g4 z0))
        go_ret
        exact ⟨by rw [HF.o];rfl,HG4.o⟩
    ·obtain rfl:kd=3:=by by_cases h3:kd=3;exact h3;exact absurd ⟨k1,k2,h3⟩ hA
     clear hA hB k1 k2
     cases b0 with
     | false=>
      have HF:Hid (R=41):=by show _=_;rw [unfoldR.o,ownE,if_neg HA.o,if_neg HBB.o,if_pos HB.o.1]
      go_wp2_with (first
       | (with_reducible refine jU (.agg X) ?_ ?_ ?_;exact kA _ rfl H 0 rfl X HX.o.2.1 HX.o.1;kernel_rfl)
       | (go_at_call 135;refine (CR.o _).mono ?_;rintro e w2 ⟨rfl,g2⟩))
      go_ret
      exact ⟨by rw [HF.o];rfl,HG.o.trans g2⟩
     | true=>
      have HV:Hid (¬ jV v=false):=by show ¬ _;rw [HB.o.1];simp
      cases b3 with
      | false=>
       have HF:Hid (R=0):=by show _=_;rw [unfoldR.o,ownE,if_neg HA.o,if_neg HBB.o,if_neg HV.o,if_neg (by rw [HK.o];simp),if_neg (by have:=HB.o.2.2.2;simp at this;simp [this])]
       go_wp2_with (first
        | (with_reducible refine jU (.agg X) ?_ ?_ ?_;exact kA _ rfl H 0 rfl X HX.o.2.1 HX.o.1;kernel_rfl)
        | (go_at_call 135;refine (CR.o _).mono ?_;rintro e w2 ⟨rfl,g2⟩;have y0:=g2.cell c0;have y1:=g2.cell d0;have y2:=g2.cell d1;have y3:=g2.cell d2;have y4:=g2.cell d3;have HG2:Hid (G w w2∧Lies w2 (H+1) 0 M):=⟨HG.o.trans g2,g2.lies HX.o.2.2.1⟩;clear g2 c0 d0 d1 d2 d3)
        | (with_reducible refine jU (.agg M) ?_ ?_ ?_;exact zu _ rfl (H+1) 0 rfl M HX.o.2.2.2.1 HG2.o.2;kernel_rfl)
        | (with_reducible refine jU (.agg Z) ?_ ?_ ?_;exact yx 157 rfl Z HZ.o.1 _;kernel_rfl)
        | (with_reducible refine jU (.bool false) ?_ ?_ ?_;exact aY _ _ rfl M Z rfl rfl m Md.zero HX.o.2.2.2.2 HZ.o.2 false HB.o.2.2.2 _;kernel_rfl))
       go_ret
       exact ⟨by rw [HF.o];rfl,HG2.o.1⟩
      | true=>exact absurd HB.o.2.2.2 (by rw [HM.o];simp)
open Go.Shelf
section
variable {ops:Array Oper} {Q:Exit→Act→World→Prop} {md:Region.Mode} {n:Nat}
theorem km (i d:Nat) (v:Value) (w':World) {oi:Oper} {fuel:Nat} {listed:Array Bool} {a:Act} {w:World} {rs:List Nat} (hi:ops[i]?=some oi) (hd:oi.dst=some d) (hw:Region.wanted oi (yielded ops a.tmps)=true)
  (hx:(execOp a.eval oi).run Tryz.prog w=.ok (.value v) w') (h:wpAnyIn Fence.wide n Tryz.prog md ops Q fuel (listed.setIfInBounds i true) (a.put (some d) v) w')
  (hs:AllReadyIn Fence.wide n Tryz.prog md ops Q fuel listed a w rs):AllReadyIn Fence.wide n Tryz.prog md ops Q fuel listed a w (i::rs):=by
 refine AllReadyIn.cons hi (fun K hK=>?_) hs
 rw [if_pos hw]
 refine ⟨fun _ _=>trivial,?_⟩
 rw [show (Fence.wide).round=none from rfl,Oper.semAt_none,hx,Oper.uponIn_value,hd]
 exact hK _ _ h
end
end Go.Proofs.YtdeanahpiigonaaGreatDoor
namespace Go.Proofs.YtdeanahpiigonaaGreatDoor
open Go.RowKit
def yp (ops:Array Oper):Bool:=ops.all fun o=>match o.op with | .defer _=>false | _=>true
theorem kZ {ops:Array Oper} (h:yp ops=true) {i:Nat} {o:Oper} (hi:ops[i]?=some o):∀ c,o.op≠.defer c:=fun c hc=>by
 unfold yp at h
 rw [Array.all_eq_true_iff_forall_mem] at h
 have:=h o (Array.mem_of_getElem? hi)
 rw [hc] at this
 cases this
section
variable {F:Fence} {n:Nat} {md:Region.Mode} {ops:Array Oper} {Q:Exit→Act→World→Prop}
def rz (F:Fence) (n:Nat) (o:Oper) (a:Act) (w:World) (v:Value):Prop:=(execOp a.eval o).run Tryz.prog w=.ok (.value v) w∨∃ f args,(execOp a.eval o).run Tryz.prog w=.ok (.enter f args) w∧CallsIn F (n-1) Tryz.prog f args w fun e w'=>e=.returned v∧G w w'
def qs (F:Fence) (n:Nat) (ops:Array Oper) (w0:World) (o:Oper) (v:Value) (a:Act):Prop:=
 (Region.wanted o (yielded ops a.tmps)=true∧∀ w,G w0 w→rz F n o a w v)∨(Region.wanted o (yielded ops a.tmps)=false∧v=undef)
theorem qs.of_same {w0:World} {o:Oper} {v:Value} {a a':Act} (h:qs F n ops w0 o v a) (he:execOp a'.eval o=execOp a.eval o) (hw:Region.wanted o (yielded ops a'.tmps)=Region.wanted o (yielded ops a.tmps)):qs F n ops w0 o v a':=by
 unfold qs rz at *
 rw [he,hw]
 exact h
theorem qs.mono {w0 w1:World} {o:Oper} {v:Value} {a:Act} (h:qs F n ops w0 o v a) (hg:G w0 w1):qs F n ops w1 o v a:=
 h.imp (fun h=>⟨h.1,fun w hw=>h.2 w (hg.trans hw)⟩) id
theorem qs.wpOpIn (hF:∀ f,F.fn f) (hn:F.depth.isSome=true→1≤n) {w0 w:World} {i:Nat} {o:Oper} {v:Value} {a:Act} {K:Act→World→Prop} (h:qs F n ops w0 o v a) (hi:ops[i]?=some o) (hd:∀ c,o.op≠.defer c) (hg:G w0 w) (hk:∀ w',G w w'→K (a.put o.dst v) w'):wpOpIn F n Tryz.prog ops Q i K a w:=by
 unfold Go.wpOpIn
 simp only [hi]
 rcases h with ⟨hw,h⟩ | ⟨hw,rfl⟩
 ·simp only [hw,if_true,Oper.wpIn]
  refine ⟨fun f _=>hF f,?_⟩
  rw [Oper.semAt_plain _ _ _ hd]
  rcases h w hg with h | ⟨f,args,h1,h2⟩
  ·rw [h,Oper.uponIn_value];exact hk _ (G.refl _)
  ·rw [h1,Oper.uponIn_enter]
   refine ⟨hn,h2.mono ?_⟩
   rintro e w' ⟨rfl,hg'⟩
   exact hk _ hg'
 ·simp only [hw,Bool.false_eq_true,if_false]
  exact ⟨fun f _=>hF f,hk _ (G.refl _)⟩
theorem bY {w0:World} {j:Nat} {oi oj:Oper} {v:Value} (hj:ops[j]?=some oj) (hdj:∀ c,oj.op≠.defer c) (hap:oi.apart ops oj=true)
  (hsi:∀ cs b,oi.op≠.select cs b) (hsj:∀ cs b,oj.op≠.select cs b)
  (hQ:∀ c a w,Q (.panic c) (a.put oi.dst v) w→Q (.panic c) a w) {K:Act→World→Prop} {a:Act} {w:World}
  (hy:qs F n ops w0 oi v a) (h:wpOpIn F n Tryz.prog ops Q j K (a.put oi.dst v) w):
  wpOpIn F n Tryz.prog ops Q j (fun a' w'=>qs F n ops w0 oi v a'∧K (a'.put oi.dst v) w') a w:=by
 obtain ⟨h1,h2,h3⟩:=Oper.apart_spec hap
 have keep:∀ (a:Act),qs F n ops w0 oi v a→∀ u,qs F n ops w0 oi v (a.put oj.dst u):=fun a hy u=>
  hy.of_same (execOp_put oi hsi a oj.dst u h3) (wanted_put oi a oj.dst u h3)
 have keepD:∀ d,qs F n ops w0 oi v { a with defers:=d::a.defers }:=fun d=>hy.of_same rfl rfl
 unfold wpOpIn at *
 simp only [hj] at *
 rw [wanted_put oj a oi.dst v h1,about_put oj w a oi.dst v h1] at h
 split
 ·rename_i hw
  simp only [hw,if_true] at h
  unfold Oper.wpIn at *
  rw [about_put oj w a oi.dst v h1] at h
  refine ⟨h.1,?_⟩
  have h:=h.2
  rw [Oper.semAt_plain _ _ _ hdj,execOp_put oj hsj a oi.dst v h1] at h
  rw [Oper.semAt_plain _ _ _ hdj]
  generalize (execOp a.eval oj).run Tryz.prog w=r at *
  cases r with
  | ok x w'=>
   cases x<;>simp only [Oper.uponIn] at h ⊢
   case value u=>exact ⟨keep a hy u,by rw [← Act.put_comm a v u h2];exact h⟩
   case skip=>exact ⟨keep a hy _,by rw [← Act.put_comm a v undef h2];exact h⟩
   case defer d=>
    refine ⟨keep _ (keepD d) _,?_⟩
    rw [← Act.put_comm _ v undef h2,← Act.put_defers]
    exact h
   case enter f args=>
    refine ⟨h.1,CallsIn.mono h.2 fun e w'' he=>?_⟩
    cases e with
    | returned u=>exact ⟨keep a hy u,by rw [← Act.put_comm a v u h2];exact he⟩
    | panicked c=>exact hQ _ _ _ he
    | outgrown=>exact he
   case row row args=>exact ⟨h.1,RowsIn.mono h.2 fun u w'' he=>⟨keep a hy u,by rw [← Act.put_comm a v u h2];exact he⟩⟩
   case round l f tmps assign body=>
    refine ⟨h.1,RoundIn.mono h.2 fun e w'' he=>?_⟩
    cases e with
    | returned u=>exact ⟨keep a hy u,by rw [← Act.put_comm a v u h2];exact he⟩
    | panicked c=>exact hQ _ _ _ he
    | outgrown=>exact he
  | halt x w'=>
   cases x<;>simp only [Oper.uponIn] at h ⊢
   case panic u=>exact hQ _ _ _ h
 ·rename_i hw
  simp only [hw] at h
  exact ⟨h.1,keep a hy _,by rw [← Act.put_comm a v undef h2];exact h.2⟩
def wpI (F:Fence) (n:Nat) (md:Region.Mode) (ops:Array Oper) (Q:Exit→Act→World→Prop):Nat→Array Bool→Act→World→Prop
 | 0,listed,a,w0=>∀ w,G w0 w→Region.ready md ops listed=[]∧Q .normal a w
 | k+1,listed,a,w0=>∀ w,G w0 w→(Region.ready md ops listed=[]→Q .normal a w)∧
  ∀ i∈Region.ready md ops listed,wpOpIn F n Tryz.prog ops Q i (fun a' w'=>G w w'∧wpI F n md ops Q k (listed.setIfInBounds i true) a' w') a w
theorem wpI.grow {k:Nat} {listed:Array Bool} {a:Act} {w w':World} (h:wpI F n md ops Q k listed a w) (hg:G w w'):wpI F n md ops Q k listed a w':=by
 cases k with
 | zero=>exact fun x hx=>h x (hg.trans hx)
 | succ k=>exact fun x hx=>h x (hg.trans hx)
theorem wpI.any:∀ (k:Nat) (listed:Array Bool) (a:Act) (w:World),wpI F n md ops Q k listed a w→wpAnyIn F n Tryz.prog md ops Q k listed a w
 | 0,_,_,w,h=>h w (G.refl w)
 | k+1,_,_,w,h=>⟨(h w (G.refl w)).1,fun i hi=>wpOpIn_mono (fun a' w' h'=>wpI.any k _ a' w' h'.2) ((h w (G.refl w)).2 i hi)⟩
structure Lets (F:Fence) (n:Nat):Prop where
 fn:∀ f,F.fn f
 dp:F.depth.isSome=true→1≤n
theorem xH {n:Nat}:Lets Fence.wide n:=⟨fun _=>trivial,fun h=>by cases h⟩
end
end Go.Proofs.YtdeanahpiigonaaGreatDoor
