import Derived.Test.YtdeanahpiigonaaGreatDoorRb
set_option maxRecDepth 100000
set_option maxHeartbeats 8000000
namespace Go.Proofs.YtdeanahpiigonaaGreatDoor
open Go.RowKit Hm
attribute [local go_sem] Oper.semAt_some
noncomputable abbrev kJ:Array Oper:=kS Tryz.f6 22
theorem ep:kJ.size=24:=by kernel_rfl
theorem vM:say kJ 0=some (some 124,.move (.tmp 16),none):=by kernel_rfl
theorem vN:say kJ 1=some (some 125,.load 27 (.tmp 4),none):=by kernel_rfl
theorem vO:say kJ 2=some (some 126,.move (.tmp 10),none):=by kernel_rfl
theorem vP:say kJ 3=some (some 127,.move (.tmp 18),none):=by kernel_rfl
theorem vQ:say kJ 4=some (some 128,.indexAddr 58 (.tmp 126) (.tmp 127),none):=by kernel_rfl
theorem vR:say kJ 5=some (some 129,.load 9 (.tmp 128),none):=by kernel_rfl
theorem vS:say kJ 6=some (some 130,.load 27 (.tmp 4),none):=by kernel_rfl
theorem vT:say kJ 7=some (some 131,.move (.tmp 16),none):=by kernel_rfl
theorem vU:say kJ 8=some (some 132,.move (.tmp 16),none):=by kernel_rfl
theorem vV:say kJ 9=some (some 133,.call { callee:=.builtin .len,args:=#[.tmp 132],argTypes:=#[31] },none):=by kernel_rfl
theorem nF:say kJ 10=some (some 134,.binOp .sub 3 (.tmp 133) (.const (.int .i64 1)) 3,none):=by kernel_rfl
theorem nG:say kJ 11=some (some 135,.indexAddr 31 (.tmp 131) (.tmp 134),none):=by kernel_rfl
theorem nH:say kJ 12=some (some 136,.load 25 (.tmp 135),none):=by kernel_rfl
theorem nI:say kJ 13=some (some 137,.call { callee:=.value (.func 7),args:=#[.tmp 130,.tmp 136],argTypes:=#[27,25] },none):=by kernel_rfl
theorem nJ:say kJ 14=some (some 138,.call { callee:=.value (.func 22),args:=#[.tmp 129,.tmp 137],argTypes:=#[9,22] },none):=by kernel_rfl
theorem nK:say kJ 15=some (some 139,.fieldAddr 72 (.tmp 19) 1,none):=by kernel_rfl
theorem nL:say kJ 16=some (some 140,.load 3 (.tmp 139),none):=by kernel_rfl
theorem nM:say kJ 17=some (some 141,.fieldAddr 72 (.tmp 19) 2,none):=by kernel_rfl
theorem nN:say kJ 18=some (some 142,.load 3 (.tmp 141),none):=by kernel_rfl
theorem nO:say kJ 19=some (some 143,.fieldAddr 72 (.tmp 19) 3,none):=by kernel_rfl
theorem nP:say kJ 20=some (some 144,.load 70 (.tmp 143),none):=by kernel_rfl
theorem nQ:say kJ 21=some (some 145,.call { callee:=.value (.func 21),args:=#[.tmp 125,.tmp 138,.tmp 140,.tmp 142,.tmp 144],argTypes:=#[27,25,3,3,70] },none):=by kernel_rfl
theorem nR:say kJ 22=some (some 146,.call { callee:=.builtin .append,args:=#[.tmp 124,.tmp 145],argTypes:=#[31,31] },none):=by kernel_rfl
theorem cW:say kJ 23=some (some 16,.assign (.tmp 146),none):=by kernel_rfl
def Vr22 (_b4 b19 g h N nc i k c sn sk:Nat) (sa:Option Addr) (nm:ByteArray) (uv:Value) (bt cn pl:Int) (r:Nat→Value):Nat→Value
 | 0=>.slice (some ⟨h,0,none⟩) (k+1) c
 | 1=>.agg #[.int .i64 bt]
 | 2=>.slice (some ⟨g,0,none⟩) N nc
 | 3=>.int .i64 (i:Int)
 | 4=>.pointer (some ⟨g,i,none⟩)
 | 5=>.string nm
 | 6=>.agg #[.int .i64 bt]
 | 7=>.slice (some ⟨h,0,none⟩) (k+1) c
 | 8=>.slice (some ⟨h,0,none⟩) (k+1) c
 | 9=>.int .i64 ((k+1:Nat):Int)
 | 10=>.int .i64 (k:Int)
 | 11=>.pointer (some ⟨h,k,none⟩)
 | 12=>uv
 | 13=>(r 1)
 | 14=>(r 2)
 | 15=>.pointer (some ⟨b19,1,none⟩)
 | 16=>.int .i64 cn
 | 17=>.pointer (some ⟨b19,2,none⟩)
 | 18=>.int .i64 pl
 | 19=>.pointer (some ⟨b19,3,none⟩)
 | 20=>.slice sa sn sk
 | 21=>(r 3)
 | 22=>(r 4)
 | 23=>(r 4)
 | _=>undef
theorem regr22 (b4 b19 g h N nc i k c sn sk:Nat) (sa:Option Addr) (nm:ByteArray) (uv:Value) (bt cn pl:Int) (F0 F1 F2 F3 F4:(Nat→Value)→World→Prop) (B:World→Prop)  (t0:Array Value) (wr:World) {Q:Exit→Act→World→Prop} (ht:t0.size=164) (h16:t0.getD 16 undef=.slice (some ⟨h,0,none⟩) (k+1) c) (h4:t0.getD 4 undef=.pointer (some ⟨b4,0,none⟩)) (h10:t0.getD 10 undef=.slice (some ⟨g,0,none⟩) N nc) (h18:t0.getD 18 undef=.int .i64 (i:Int)) (h19:t0.getD 19 undef=.pointer (some ⟨b19,0,none⟩))
  (_:∃ a n k,uv=.slice a n k) (hkw:IntKind.i64.wrap (k:Int)=k) (hix:¬ (k:Int)+1≤k) (hin:¬ N≤i)
  (hb0:∀ r w,F0 r w→B w) (hb1:∀ r w,F1 r w→B w) (hb2:∀ r w,F2 r w→B w) (hb3:∀ r w,F3 r w→B w)
  (hc1:∀ r w,F0 r w→Calls Tryz.prog 7 #[.agg #[.int .i64 bt],uv] w fun e w'=>∃ u,e=.returned u∧F1 (ups r 1 u) w')
  (hc2:∀ r w,F1 r w→Calls Tryz.prog 22 #[.string nm,(r 1)] w fun e w'=>∃ u,e=.returned u∧F2 (ups r 2 u) w')
  (hc3:∀ r w,F2 r w→Calls Tryz.prog 21 #[.agg #[.int .i64 bt],(r 2),.int .i64 cn,.int .i64 pl,.slice sa sn sk] w fun e w'=>∃ u,e=.returned u∧F3 (ups r 3 u) w')
  (ha4:∀ r w,F3 r w→∃ u w',(Builtin.append_ #[31,31] 31 #[.slice (some ⟨h,0,none⟩) (k+1) c,r 3]).run Tryz.prog w=.ok u w'∧F4 (ups r 4 u) w')
  (hl1:∀ w,B w→Lies w b4 0 #[.int .i64 bt])
  (hl6:∀ w,B w→Lies w b4 0 #[.int .i64 bt])
  (hl5:∀ w,B w→w.cell? ⟨g,i,none⟩=some (.string nm))
  (hl12:∀ w,B w→w.cell? ⟨h,k,none⟩=some (uv))
  (hl16:∀ w,B w→w.cell? ⟨b19,1,none⟩=some (.int .i64 cn))
  (hl18:∀ w,B w→w.cell? ⟨b19,2,none⟩=some (.int .i64 pl))
  (hl20:∀ w,B w→w.cell? ⟨b19,3,none⟩=some (.slice sa sn sk))
  (hst0:∀ r,F0 r wr.drew)
  (hQ:∀ r w,F4 r w→Q .normal ⟨fold kJ (Vr22 b4 b19 g h N nc i k c sn sk sa nm uv bt cn pl r) t0 24,[]⟩ w):(Code.region 22 kJ true).wp Tryz.prog Q ⟨t0,[]⟩ wr:=by
 have hB:dstB kJ t0.size=true:=by rw [ht];kernel_rfl
 have hBB:∀ r done w,MC F0 [(21,F3),(14,F2),(13,F1)] r done w→B w:=fun r done w h=>MC.base hb0 (by simp only [List.mem_cons,List.not_mem_nil,or_false];rintro x (rfl | rfl | rfl)<;>assumption) h
 refine jL (by kernel_rfl) (IE kJ (Vr22 b4 b19 g h N nc i k c sn sk sa nm uv bt cn pl) t0 (MC F0 [(22,F4),(21,F3),(14,F2),(13,F1)] )) (by kernel_rfl) ⟨(fun _=>undef),t0,rfl,⟨rfl,fun _ _=>rfl,fun _ _ _ _ _ h=>by cases h⟩,MC.start (hst0 _)⟩ ?_ ?_
 rotate_left 1
 ·rintro done a w ⟨r,t,rfl,hS,hM⟩ hall
  rw [hS.end hB hall,ep]
  exact hQ r w (MC.get (hall 22 (by rw [ep];decide)) [] (by simp) hM)
 ·rintro jz op done a w ho ⟨r,t,rfl,hS,hM⟩ hnd hdep hcl
  have e4:=hS.ol h4
  have e10:=hS.ol h10
  have e18:=hS.ol h18
  have e19:=hS.ol h19
  have hlt:jz<24:=by rw [← ep];exact (ga ho).1
  match jz,hlt,ho,hnd,hdep with
  | 0,_,ho,hnd,hdep=>
   have yt23:done 23=false:=j8 (by kernel_rfl) hcl hnd
   have e16:t[16]?.getD undef=_:=(hS.yet hB (sd cW) yt23).trans h16
   refine jM vM r hB ho hS (hM.step (by rfl)) fun hop=>?_
   unfold execOp;simp [hop,e16,Vr22,go_sem]
  | 1,_,ho,hnd,hdep=>
   have ny21:done 21=false:=j8 (by kernel_rfl) hcl hnd
   have ny22:done 22=false:=j8 (by kernel_rfl) hcl ny21
   refine jM vN r hB ho hS (hM.step (by rfl)) fun hop=>?_
   exact jQ 27 _ hop b4 0 (by show t.getD 4 undef=_;rw [gd];exact e4) #[.int .i64 bt] _ (hl1 w (hBB _ _ _ (MC.cut [(22,F4)] (by simp [ny22]) hM))) Tryz.underlying27 rfl zC
  | 2,_,ho,hnd,hdep=>
   refine jM vO r hB ho hS (hM.step (by rfl)) fun hop=>?_
   unfold execOp;simp [hop,e10,Vr22,go_sem]
  | 3,_,ho,hnd,hdep=>
   refine jM vP r hB ho hS (hM.step (by rfl)) fun hop=>?_
   unfold execOp;simp [hop,e18,Vr22,go_sem]
  | 4,_,ho,hnd,hdep=>
   have x126:=hS.gt vO ho hdep
   have x127:=hS.gt vP ho hdep
   refine jM vQ r hB ho hS (hM.step (by rfl)) fun hop=>?_
   unfold execOp;simp [hop,x126,x127,Vr22,hin,go_sem]
  | 5,_,ho,hnd,hdep=>
   have x128:=hS.gt vQ ho hdep
   have ny14:done 14=false:=j8 (by kernel_rfl) hcl hnd
   have ny21:done 21=false:=j8 (by kernel_rfl) hcl ny14
   have ny22:done 22=false:=j8 (by kernel_rfl) hcl ny21
   have cz:=hl5 w (hBB _ _ _ (MC.cut [(22,F4)] (by simp [ny22]) hM))
   refine jM vR r hB ho hS (hM.step (by rfl)) fun hop=>?_
   unfold execOp;simp [hop,x128,Vr22,cz,go_sem]
  | 6,_,ho,hnd,hdep=>
   have ny13:done 13=false:=j8 (by kernel_rfl) hcl hnd
   have ny14:done 14=false:=j8 (by kernel_rfl) hcl ny13
   have ny21:done 21=false:=j8 (by kernel_rfl) hcl ny14
   have ny22:done 22=false:=j8 (by kernel_rfl) hcl ny21
   refine jM vS r hB ho hS (hM.step (by rfl)) fun hop=>?_
   exact jQ 27 _ hop b4 0 (by show t.getD 4 undef=_;rw [gd];exact e4) #[.int .i64 bt] _ (hl6 w (hBB _ _ _ (MC.cut [(22,F4)] (by simp [ny22]) hM))) Tryz.underlying27 rfl zC
  | 7,_,ho,hnd,hdep=>
   have yt23:done 23=false:=j8 (by kernel_rfl) hcl hnd
   have e16:t[16]?.getD undef=_:=(hS.yet hB (sd cW) yt23).trans h16
   refine jM vT r hB ho hS (hM.step (by rfl)) fun hop=>?_
   unfold execOp;simp [hop,e16,Vr22,go_sem]
  | 8,_,ho,hnd,hdep=>
   have yt23:done 23=false:=j8 (by kernel_rfl) hcl hnd
   have e16:t[16]?.getD undef=_:=(hS.yet hB (sd cW) yt23).trans h16
   refine jM vU r hB ho hS (hM.step (by rfl)) fun hop=>?_
   unfold execOp;simp [hop,e16,Vr22,go_sem]
  | 9,_,ho,hnd,hdep=>
   have x132:=hS.gt vU ho hdep
   refine jM vV r hB ho hS (hM.step (by rfl)) fun hop=>?_
   unfold execOp;simp [hop,x132,Vr22,go_sem]
  | 10,_,ho,hnd,hdep=>
   have x133:=hS.gt vV ho hdep
   refine jM nF r hB ho hS (hM.step (by rfl)) fun hop=>?_
   unfold execOp;simp [hop,x133,Vr22,hkw,go_sem]
  | 11,_,ho,hnd,hdep=>
   have x131:=hS.gt vT ho hdep
   have x134:=hS.gt nF ho hdep
   refine jM nG r hB ho hS (hM.step (by rfl)) fun hop=>?_
   unfold execOp;simp [hop,x131,x134,Vr22,hix,go_sem]
  | 12,_,ho,hnd,hdep=>
   have x135:=hS.gt nG ho hdep
   have ny13:done 13=false:=j8 (by kernel_rfl) hcl hnd
   have ny14:done 14=false:=j8 (by kernel_rfl) hcl ny13
   have ny21:done 21=false:=j8 (by kernel_rfl) hcl ny14
   have ny22:done 22=false:=j8 (by kernel_rfl) hcl ny21
   have cz:=hl12 w (hBB _ _ _ (MC.cut [(22,F4)] (by simp [ny22]) hM))
   refine jM nH r hB ho hS (hM.step (by rfl)) fun hop=>?_
   unfold execOp;simp [hop,x135,Vr22,cz,go_sem]
  | 13,_,ho,hnd,hdep=>
   obtain ⟨hd,hop,hgd⟩:=jB nI ho
   have x130:=hS.gt vS ho hdep
   simp only [Vr22] at x130
   have x136:=hS.gt nH ho hdep
   simp only [Vr22] at x136
   have ny14:done 14=false:=j8 (by kernel_rfl) hcl hnd
   have ny21:done 21=false:=j8 (by kernel_rfl) hcl ny14
   have ny22:done 22=false:=j8 (by kernel_rfl) hcl ny21
   have hF:=MC.get0 [(22,F4),(21,F3),(14,F2),(13,F1)] (by simp [hnd,ny14,ny21,ny22]) hM
   refine jb r 7 #[.agg #[.int .i64 bt],uv] hB ho (j0 hgd) hd hS ?_ ?_
   ·skip
    unfold execOp
    simp only [hop]
    simp [x130,x136,go_sem]
   ·skip
    refine (hc1 r w hF).mono ?_
    rintro e w' ⟨u,rfl,hF'⟩
    refine ⟨ups r 1 u,?_,fun k hk=>?_,MC.put hF' [(22,F4),(21,F3),(14,F2)] (by simp [ny14,ny21,ny22])⟩
    ·simp only [Vr22,jA]
    ·skip
     have q13:k≠13:=fun e=>by rw [e,hnd] at hk;cases hk
     unfold Vr22
     split<;>first | rfl | exact absurd rfl q13
  | 14,_,ho,hnd,hdep=>
   obtain ⟨hd,hop,hgd⟩:=jB nJ ho
   have x129:=hS.gt vR ho hdep
   simp only [Vr22] at x129
   have x137:=hS.gt nI ho hdep
   simp only [Vr22] at x137
   have ny21:done 21=false:=j8 (by kernel_rfl) hcl hnd
   have ny22:done 22=false:=j8 (by kernel_rfl) hcl ny21
   have a13:done 13=true:=jy (j:=13) (by kernel_rfl) ho hdep
   have hF:=MC.get a13 [(22,F4),(21,F3),(14,F2)] (by simp [hnd,ny21,ny22]) hM
   refine jb r 22 #[.string nm,(r 1)] hB ho (j0 hgd) hd hS ?_ ?_
   ·skip
    unfold execOp
    simp only [hop]
    simp [x129,x137,go_sem]
   ·skip
    refine (hc2 r w hF).mono ?_
    rintro e w' ⟨u,rfl,hF'⟩
    refine ⟨ups r 2 u,?_,fun k hk=>?_,MC.put hF' [(22,F4),(21,F3)] (by simp [ny21,ny22])⟩
    ·simp only [Vr22,jA]
    ·skip
     have q14:k≠14:=fun e=>by rw [e,hnd] at hk;cases hk
     unfold Vr22
     split<;>first | rfl | exact absurd rfl q14
  | 15,_,ho,hnd,hdep=>
   refine jM nK r hB ho hS (hM.step (by rfl)) fun hop=>?_
   unfold execOp;simp [hop,e19,Vr22,go_sem]
  | 16,_,ho,hnd,hdep=>
   have x139:=hS.gt nK ho hdep
   have ny21:done 21=false:=j8 (by kernel_rfl) hcl hnd
   have ny22:done 22=false:=j8 (by kernel_rfl) hcl ny21
   have cz:=hl16 w (hBB _ _ _ (MC.cut [(22,F4)] (by simp [ny22]) hM))
   refine jM nL r hB ho hS (hM.step (by rfl)) fun hop=>?_
   unfold execOp;simp [hop,x139,Vr22,cz,go_sem]
  | 17,_,ho,hnd,hdep=>
   refine jM nM r hB ho hS (hM.step (by rfl)) fun hop=>?_
   unfold execOp;simp [hop,e19,Vr22,go_sem]
  | 18,_,ho,hnd,hdep=>
   have x141:=hS.gt nM ho hdep
   have ny21:done 21=false:=j8 (by kernel_rfl) hcl hnd
   have ny22:done 22=false:=j8 (by kernel_rfl) hcl ny21
   have cz:=hl18 w (hBB _ _ _ (MC.cut [(22,F4)] (by simp [ny22]) hM))
   refine jM nN r hB ho hS (hM.step (by rfl)) fun hop=>?_
   unfold execOp;simp [hop,x141,Vr22,cz,go_sem]
  | 19,_,ho,hnd,hdep=>
   refine jM nO r hB ho hS (hM.step (by rfl)) fun hop=>?_
   unfold execOp;simp [hop,e19,Vr22,go_sem]
  | 20,_,ho,hnd,hdep=>
   have x143:=hS.gt nO ho hdep
   have ny21:done 21=false:=j8 (by kernel_rfl) hcl hnd
   have ny22:done 22=false:=j8 (by kernel_rfl) hcl ny21
   have cz:=hl20 w (hBB _ _ _ (MC.cut [(22,F4)] (by simp [ny22]) hM))
   refine jM nP r hB ho hS (hM.step (by rfl)) fun hop=>?_
   unfold execOp;simp [hop,x143,Vr22,cz,go_sem]
  | 21,_,ho,hnd,hdep=>
   obtain ⟨hd,hop,hgd⟩:=jB nQ ho
   have x125:=hS.gt vN ho hdep
   simp only [Vr22] at x125
   have x138:=hS.gt nJ ho hdep
   simp only [Vr22] at x138
   have x140:=hS.gt nL ho hdep
   simp only [Vr22] at x140
   have x142:=hS.gt nN ho hdep
   simp only [Vr22] at x142
   have x144:=hS.gt nP ho hdep
   simp only [Vr22] at x144
   have ny22:done 22=false:=j8 (by kernel_rfl) hcl hnd
   have a14:done 14=true:=jy (j:=14) (by kernel_rfl) ho hdep
   have hF:=MC.get a14 [(22,F4),(21,F3)] (by simp [hnd,ny22]) hM
   refine jb r 21 #[.agg #[.int .i64 bt],(r 2),.int .i64 cn,.int .i64 pl,.slice sa sn sk] hB ho (j0 hgd) hd hS ?_ ?_
   ·skip
    unfold execOp
    simp only [hop]
    simp [x125,x138,x140,x142,x144,go_sem]
   ·skip
    refine (hc3 r w hF).mono ?_
    rintro e w' ⟨u,rfl,hF'⟩
    refine ⟨ups r 3 u,?_,fun k hk=>?_,MC.put hF' [(22,F4)] (by simp [ny22])⟩
    ·simp only [Vr22,jA]
    ·skip
     have q21:k≠21:=fun e=>by rw [e,hnd] at hk;cases hk
     unfold Vr22
     split<;>first | rfl | exact absurd rfl q21
  | 22,_,ho,hnd,hdep=>
   obtain ⟨hd,hop,hgd⟩:=jB nR ho
   have x124:=hS.gt vM ho hdep
   simp only [Vr22] at x124
   have x145:=hS.gt nQ ho hdep
   simp only [Vr22] at x145
   have ny23:done 23=false:=j8 (by kernel_rfl) hcl hnd
   have a21:done 21=true:=jy (j:=21) (by kernel_rfl) ho hdep
   have hF:=MC.get a21 [(22,F4)] (by simp [hnd]) hM
   obtain ⟨u9,w9,hr9,hF9⟩:=ha4 r w hF
   have ht9:op.type=31:=by have:=congrArg (·.map (·.type)) ho;simpa using this.symm.trans (show _=some 31 from by kernel_rfl)
   refine qM r (ups r 4 u9) w9 hB ho (j0 hgd) hd hS (fun k hk=>?_) (MC.put hF9 [] (by simp)) ?_
   ·skip
    have q22:k≠22:=fun e=>by rw [e,hnd] at hk;cases hk
    have q23:k≠23:=fun e=>by rw [e,ny23] at hk;cases hk
    unfold Vr22
    split<;>first | rfl | exact absurd rfl q22 | exact absurd rfl q23
   ·show _=Result.ok (Next.value (Vr22 b4 b19 g h N nc i k c sn sk sa nm uv bt cn pl (ups r 4 u9) 22)) _
    simp only [Vr22,jA]
    exact qc (a:=⟨t,[]⟩) (v:=.slice (some ⟨h,0,none⟩) (k+1) c) (src:=r 3) (v':=u9) hop (by show t.getD 124 undef=_;rw [gd];exact x124) (by show t.getD 145 undef=_;rw [gd];exact x145) (by rw [ht9];exact hr9)
  | 23,_,ho,hnd,hdep=>
   have x146:=hS.gt nR ho hdep
   refine jM cW r hB ho hS (hM.step (by rfl)) fun hop=>?_
   unfold execOp;simp [hop,x146,Vr22,go_sem]
theorem foldr22 (b4 b19 g h N nc i k c sn sk:Nat) (sa:Option Addr) (nm:ByteArray) (uv:Value) (bt cn pl:Int) (r:Nat→Value) (t0:Array Value):fold kJ (Vr22 b4 b19 g h N nc i k c sn sk sa nm uv bt cn pl r) t0 24=((((((((((((((((((((((((t0.setIfInBounds 124 (.slice (some ⟨h,0,none⟩) (k+1) c)).setIfInBounds 125 (.agg #[.int .i64 bt])).setIfInBounds 126 (.slice (some ⟨g,0,none⟩) N nc)).setIfInBounds 127 (.int .i64 (i:Int))).setIfInBounds 128 (.pointer (some ⟨g,i,none⟩))).setIfInBounds 129 (.string nm)).setIfInBounds 130 (.agg #[.int .i64 bt])).setIfInBounds 131 (.slice (some ⟨h,0,none⟩) (k+1) c)).setIfInBounds 132 (.slice (some ⟨h,0,none⟩) (k+1) c)).setIfInBounds 133 (.int .i64 ((k+1:Nat):Int))).setIfInBounds 134 (.int .i64 (k:Int))).setIfInBounds 135 (.pointer (some ⟨h,k,none⟩))).setIfInBounds 136 (uv)).setIfInBounds 137 ((r 1))).setIfInBounds 138 ((r 2))).setIfInBounds 139 (.pointer (some ⟨b19,1,none⟩))).setIfInBounds 140 (.int .i64 cn)).setIfInBounds 141 (.pointer (some ⟨b19,2,none⟩))).setIfInBounds 142 (.int .i64 pl)).setIfInBounds 143 (.pointer (some ⟨b19,3,none⟩))).setIfInBounds 144 (.slice sa sn sk)).setIfInBounds 145 ((r 3))).setIfInBounds 146 ((r 4))).setIfInBounds 16 ((r 4))):=by kernel_rfl
noncomputable abbrev yM:Array Oper:=kS Tryz.f6 23
theorem eq:yM.size=17:=by kernel_rfl
theorem vW:say yM 0=some (some 147,.move (.tmp 16),none):=by kernel_rfl
theorem vY:say yM 1=some (some 148,.fieldAddr 72 (.tmp 19) 0,none):=by kernel_rfl
theorem vZ:say yM 2=some (some 149,.load 3 (.tmp 148),none):=by kernel_rfl
theorem vi:say yM 3=some (some 150,.fieldAddr 72 (.tmp 19) 1,none):=by kernel_rfl
theorem vj:say yM 4=some (some 151,.load 3 (.tmp 150),none):=by kernel_rfl
theorem vm:say yM 5=some (some 152,.load 27 (.tmp 4),none):=by kernel_rfl
theorem vp:say yM 6=some (some 153,.move (.tmp 16),none):=by kernel_rfl
theorem vr:say yM 7=some (some 154,.move (.tmp 16),none):=by kernel_rfl
theorem vt:say yM 8=some (some 155,.call { callee:=.builtin .len,args:=#[.tmp 154],argTypes:=#[31] },none):=by kernel_rfl
theorem vu:say yM 9=some (some 156,.binOp .sub 3 (.tmp 155) (.const (.int .i64 1)) 3,none):=by kernel_rfl
theorem nS:say yM 10=some (some 157,.indexAddr 31 (.tmp 153) (.tmp 156),none):=by kernel_rfl
theorem nT:say yM 11=some (some 158,.load 25 (.tmp 157),none):=by kernel_rfl
theorem nU:say yM 12=some (some 159,.call { callee:=.value (.func 7),args:=#[.tmp 152,.tmp 158],argTypes:=#[27,25] },none):=by kernel_rfl
theorem nV:say yM 13=some (some 160,.call { callee:=.value (.func 23),args:=#[.tmp 149,.tmp 151,.tmp 159],argTypes:=#[3,3,22] },none):=by kernel_rfl
theorem nW:say yM 14=some (some 161,.buildSlice 31 1 #[(0,.tmp 160)],none):=by kernel_rfl
theorem nX:say yM 15=some (some 162,.call { callee:=.builtin .append,args:=#[.tmp 147,.tmp 161],argTypes:=#[31,31] },none):=by kernel_rfl
theorem cX:say yM 16=some (some 16,.assign (.tmp 162),none):=by kernel_rfl
def Vr23 (_b4 b19 h k c:Nat) (uv:Value) (bt md cn:Int) (r:Nat→Value):Nat→Value
 | 0=>.slice (some ⟨h,0,none⟩) (k+1) c
 | 1=>.pointer (some ⟨b19,0,none⟩)
 | 2=>.int .i64 md
 | 3=>.pointer (some ⟨b19,1,none⟩)
 | 4=>.int .i64 cn
 | 5=>.agg #[.int .i64 bt]
 | 6=>.slice (some ⟨h,0,none⟩) (k+1) c
 | 7=>.slice (some ⟨h,0,none⟩) (k+1) c
 | 8=>.int .i64 ((k+1:Nat):Int)
 | 9=>.int .i64 (k:Int)
 | 10=>.pointer (some ⟨h,k,none⟩)
 | 11=>uv
 | 12=>(r 1)
 | 13=>(r 2)
 | 14=>(r 3)
 | 15=>(r 4)
 | 16=>(r 4)
 | _=>undef
theorem regr23 (b4 b19 h k c:Nat) (uv:Value) (bt md cn:Int) (F0 F1 F2 F3 F4:(Nat→Value)→World→Prop) (B:World→Prop)  (t0:Array Value) (wr:World) {Q:Exit→Act→World→Prop} (ht:t0.size=164) (h16:t0.getD 16 undef=.slice (some ⟨h,0,none⟩) (k+1) c) (h4:t0.getD 4 undef=.pointer (some ⟨b4,0,none⟩)) (h19:t0.getD 19 undef=.pointer (some ⟨b19,0,none⟩))
  (_:∃ a n k,uv=.slice a n k) (hkw:IntKind.i64.wrap (k:Int)=k) (hix:¬ (k:Int)+1≤k)
  (hb0:∀ r w,F0 r w→B w) (hb1:∀ r w,F1 r w→B w) (hb2:∀ r w,F2 r w→B w)
  (hc1:∀ r w,F0 r w→Calls Tryz.prog 7 #[.agg #[.int .i64 bt],uv] w fun e w'=>∃ u,e=.returned u∧F1 (ups r 1 u) w')
  (hc2:∀ r w,F1 r w→Calls Tryz.prog 23 #[.int .i64 md,.int .i64 cn,(r 1)] w fun e w'=>∃ u,e=.returned u∧F2 (ups r 2 u) w')
  (hs3:∀ r w,F2 r w→(r 2).cells.size=1∧F3 (ups r 3 (.slice (some ⟨w.heap.size,0,none⟩) 1 1)) (w.alloc (.cells (r 2).cells 25)))
  (ha4:∀ r w,F3 r w→∃ u w',(Builtin.append_ #[31,31] 31 #[.slice (some ⟨h,0,none⟩) (k+1) c,r 3]).run Tryz.prog w=.ok u w'∧F4 (ups r 4 u) w')
  (hl5:∀ w,B w→Lies w b4 0 #[.int .i64 bt])
  (hl11:∀ w,B w→w.cell? ⟨h,k,none⟩=some (uv))
  (hl2:∀ w,B w→w.cell? ⟨b19,0,none⟩=some (.int .i64 md))
  (hl4:∀ w,B w→w.cell? ⟨b19,1,none⟩=some (.int .i64 cn))
  (hst0:∀ r,F0 r wr.drew)
  (hQ:∀ r w,F4 r w→Q .normal ⟨fold yM (Vr23 b4 b19 h k c uv bt md cn r) t0 17,[]⟩ w):(Code.region 23 yM true).wp Tryz.prog Q ⟨t0,[]⟩ wr:=by
 have hB:dstB yM t0.size=true:=by rw [ht];kernel_rfl
 have hBB:∀ r done w,MC F0 [(13,F2),(12,F1)] r done w→B w:=fun r done w h=>MC.base hb0 (by simp only [List.mem_cons,List.not_mem_nil,or_false];rintro x (rfl | rfl)<;>assumption) h
 refine jL (by kernel_rfl) (IE yM (Vr23 b4 b19 h k c uv bt md cn) t0 (MC F0 [(15,F4),(14,F3),(13,F2),(12,F1)] )) (by kernel_rfl) ⟨(fun _=>undef),t0,rfl,⟨rfl,fun _ _=>rfl,fun _ _ _ _ _ h=>by cases h⟩,MC.start (hst0 _)⟩ ?_ ?_
 rotate_left 1
 ·rintro done a w ⟨r,t,rfl,hS,hM⟩ hall
  rw [hS.end hB hall,eq]
  exact hQ r w (MC.get (hall 15 (by rw [eq];decide)) [] (by simp) hM)
 ·rintro jz op done a w ho ⟨r,t,rfl,hS,hM⟩ hnd hdep hcl
  have e4:=hS.ol h4
  have e19:=hS.ol h19
  have hlt:jz<17:=by rw [← eq];exact (ga ho).1
  match jz,hlt,ho,hnd,hdep with
  | 0,_,ho,hnd,hdep=>
   have yt16:done 16=false:=j8 (by kernel_rfl) hcl hnd
   have e16:t[16]?.getD undef=_:=(hS.yet hB (sd cX) yt16).trans h16
   refine jM vW r hB ho hS (hM.step (by rfl)) fun hop=>?_
   unfold execOp;simp [hop,e16,Vr23,go_sem]
  | 1,_,ho,hnd,hdep=>
   refine jM vY r hB ho hS (hM.step (by rfl)) fun hop=>?_
   unfold execOp;simp [hop,e19,Vr23,go_sem]
  | 2,_,ho,hnd,hdep=>
   have x148:=hS.gt vY ho hdep
   have ny13:done 13=false:=j8 (by kernel_rfl) hcl hnd
   have ny14:done 14=false:=j8 (by kernel_rfl) hcl ny13
   have ny15:done 15=false:=j8 (by kernel_rfl) hcl ny13
   have cz:=hl2 w (hBB _ _ _ (MC.cut [(15,F4),(14,F3)] (by simp [ny14,ny15]) hM))
   refine jM vZ r hB ho hS (hM.step (by rfl)) fun hop=>?_
   unfold execOp;simp [hop,x148,Vr23,cz,go_sem]
  | 3,_,ho,hnd,hdep=>
   refine jM vi r hB ho hS (hM.step (by rfl)) fun hop=>?_
   unfold execOp;simp [hop,e19,Vr23,go_sem]
  | 4,_,ho,hnd,hdep=>
   have x150:=hS.gt vi ho hdep
   have ny13:done 13=false:=j8 (by kernel_rfl) hcl hnd
   have ny14:done 14=false:=j8 (by kernel_rfl) hcl ny13
   have ny15:done 15=false:=j8 (by kernel_rfl) hcl ny13
   have cz:=hl4 w (hBB _ _ _ (MC.cut [(15,F4),(14,F3)] (by simp [ny14,ny15]) hM))
   refine jM vj r hB ho hS (hM.step (by rfl)) fun hop=>?_
   unfold execOp;simp [hop,x150,Vr23,cz,go_sem]
  | 5,_,ho,hnd,hdep=>
   have ny12:done 12=false:=j8 (by kernel_rfl) hcl hnd
   have ny13:done 13=false:=j8 (by kernel_rfl) hcl ny12
   have ny14:done 14=false:=j8 (by kernel_rfl) hcl ny13
   have ny15:done 15=false:=j8 (by kernel_rfl) hcl ny13
   refine jM vm r hB ho hS (hM.step (by rfl)) fun hop=>?_
   exact jQ 27 _ hop b4 0 (by show t.getD 4 undef=_;rw [gd];exact e4) #[.int .i64 bt] _ (hl5 w (hBB _ _ _ (MC.cut [(15,F4),(14,F3)] (by simp [ny14,ny15]) hM))) Tryz.underlying27 rfl zC
  | 6,_,ho,hnd,hdep=>
   have yt16:done 16=false:=j8 (by kernel_rfl) hcl hnd
   have e16:t[16]?.getD undef=_:=(hS.yet hB (sd cX) yt16).trans h16
   refine jM vp r hB ho hS (hM.step (by rfl)) fun hop=>?_
   unfold execOp;simp [hop,e16,Vr23,go_sem]
  | 7,_,ho,hnd,hdep=>
   have yt16:done 16=false:=j8 (by kernel_rfl) hcl hnd
   have e16:t[16]?.getD undef=_:=(hS.yet hB (sd cX) yt16).trans h16
   refine jM vr r hB ho hS (hM.step (by rfl)) fun hop=>?_
   unfold execOp;simp [hop,e16,Vr23,go_sem]
  | 8,_,ho,hnd,hdep=>
   have x154:=hS.gt vr ho hdep
   refine jM vt r hB ho hS (hM.step (by rfl)) fun hop=>?_
   unfold execOp;simp [hop,x154,Vr23,go_sem]
  | 9,_,ho,hnd,hdep=>
   have x155:=hS.gt vt ho hdep
   refine jM vu r hB ho hS (hM.step (by rfl)) fun hop=>?_
   unfold execOp;simp [hop,x155,Vr23,hkw,go_sem]
  | 10,_,ho,hnd,hdep=>
   have x153:=hS.gt vp ho hdep
   have x156:=hS.gt vu ho hdep
   refine jM nS r hB ho hS (hM.step (by rfl)) fun hop=>?_
   unfold execOp;simp [hop,x153,x156,Vr23,hix,go_sem]
  | 11,_,ho,hnd,hdep=>
   have x157:=hS.gt nS ho hdep
   have ny12:done 12=false:=j8 (by kernel_rfl) hcl hnd
   have ny13:done 13=false:=j8 (by kernel_rfl) hcl ny12
   have ny14:done 14=false:=j8 (by kernel_rfl) hcl ny13
   have ny15:done 15=false:=j8 (by kernel_rfl) hcl ny13
   have cz:=hl11 w (hBB _ _ _ (MC.cut [(15,F4),(14,F3)] (by simp [ny14,ny15]) hM))
   refine jM nT r hB ho hS (hM.step (by rfl)) fun hop=>?_
   unfold execOp;simp [hop,x157,Vr23,cz,go_sem]
  | 12,_,ho,hnd,hdep=>
   obtain ⟨hd,hop,hgd⟩:=jB nU ho
   have x152:=hS.gt vm ho hdep
   simp only [Vr23] at x152
   have x158:=hS.gt nT ho hdep
   simp only [Vr23] at x158
   have ny13:done 13=false:=j8 (by kernel_rfl) hcl hnd
   have ny14:done 14=false:=j8 (by kernel_rfl) hcl ny13
   have ny15:done 15=false:=j8 (by kernel_rfl) hcl ny13
   have hF:=MC.get0 [(15,F4),(14,F3),(13,F2),(12,F1)] (by simp [hnd,ny13,ny14,ny15]) hM
   refine jb r 7 #[.agg #[.int .i64 bt],uv] hB ho (j0 hgd) hd hS ?_ ?_
   ·skip
    unfold execOp
    simp only [hop]
    simp [x152,x158,go_sem]
   ·skip
    refine (hc1 r w hF).mono ?_
    rintro e w' ⟨u,rfl,hF'⟩
    refine ⟨ups r 1 u,?_,fun k hk=>?_,MC.put hF' [(15,F4),(14,F3),(13,F2)] (by simp [ny13,ny14,ny15])⟩
    ·simp only [Vr23,jA]
    ·skip
     have q12:k≠12:=fun e=>by rw [e,hnd] at hk;cases hk
     unfold Vr23
     split<;>first | rfl | exact absurd rfl q12
  | 13,_,ho,hnd,hdep=>
   obtain ⟨hd,hop,hgd⟩:=jB nV ho
   have x149:=hS.gt vZ ho hdep
   simp only [Vr23] at x149
   have x151:=hS.gt vj ho hdep
   simp only [Vr23] at x151
   have x159:=hS.gt nU ho hdep
   simp only [Vr23] at x159
   have ny14:done 14=false:=j8 (by kernel_rfl) hcl hnd
   have ny15:done 15=false:=j8 (by kernel_rfl) hcl hnd
   have a12:done 12=true:=jy (j:=12) (by kernel_rfl) ho hdep
   have hF:=MC.get a12 [(15,F4),(14,F3),(13,F2)] (by simp [hnd,ny14,ny15]) hM
   refine jb r 23 #[.int .i64 md,.int .i64 cn,(r 1)] hB ho (j0 hgd) hd hS ?_ ?_
   ·skip
    unfold execOp
    simp only [hop]
    simp [x149,x151,x159,go_sem]
   ·skip
    refine (hc2 r w hF).mono ?_
    rintro e w' ⟨u,rfl,hF'⟩
    refine ⟨ups r 2 u,?_,fun k hk=>?_,MC.put hF' [(15,F4),(14,F3)] (by simp [ny14,ny15])⟩
    ·simp only [Vr23,jA]
    ·skip
     have q13:k≠13:=fun e=>by rw [e,hnd] at hk;cases hk
     unfold Vr23
     split<;>first | rfl | exact absurd rfl q13
  | 14,_,ho,hnd,hdep=>
   obtain ⟨hd,hop,hgd⟩:=jB nW ho
   have x160:=hS.gt nV ho hdep
   simp only [Vr23] at x160
   have ny15:done 15=false:=j8 (by kernel_rfl) hcl hnd
   have a13:done 13=true:=jy (j:=13) (by kernel_rfl) ho hdep
   have hF:=MC.get a13 [(15,F4),(14,F3)] (by simp [hnd,ny15]) hM
   refine qM r (ups r 3 (.slice (some ⟨w.heap.size,0,none⟩) 1 1)) (w.alloc (.cells (r 2).cells 25)) hB ho (j0 hgd) hd hS (fun k hk=>?_) (MC.put (hs3 r w hF).2 [(15,F4)] (by simp [ny15])) ?_
   ·skip
    have q14:k≠14:=fun e=>by rw [e,hnd] at hk;cases hk
    unfold Vr23
    split<;>first | rfl | exact absurd rfl q14
   ·show _=Result.ok (Next.value (Vr23 b4 b19 h k c uv bt md cn (ups r 3 (.slice (some ⟨w.heap.size,0,none⟩) 1 1)) 14)) _
    simp only [Vr23,jA]
    exact jf ek31 _ hop ((r 2)) (r 2).cells (by show t.getD 160 undef=_;rw [gd];exact x160) rfl (hs3 r w hF).1 w _ rfl
  | 15,_,ho,hnd,hdep=>
   obtain ⟨hd,hop,hgd⟩:=jB nX ho
   have x147:=hS.gt vW ho hdep
   simp only [Vr23] at x147
   have x161:=hS.gt nW ho hdep
   simp only [Vr23] at x161
   have ny16:done 16=false:=j8 (by kernel_rfl) hcl hnd
   have a14:done 14=true:=jy (j:=14) (by kernel_rfl) ho hdep
   have hF:=MC.get a14 [(15,F4)] (by simp [hnd]) hM
   obtain ⟨u9,w9,hr9,hF9⟩:=ha4 r w hF
   have ht9:op.type=31:=by have:=congrArg (·.map (·.type)) ho;simpa using this.symm.trans (show _=some 31 from by kernel_rfl)
   refine qM r (ups r 4 u9) w9 hB ho (j0 hgd) hd hS (fun k hk=>?_) (MC.put hF9 [] (by simp)) ?_
   ·skip
    have q15:k≠15:=fun e=>by rw [e,hnd] at hk;cases hk
    have q16:k≠16:=fun e=>by rw [e,ny16] at hk;cases hk
    unfold Vr23
    split<;>first | rfl | exact absurd rfl q15 | exact absurd rfl q16
   ·show _=Result.ok (Next.value (Vr23 b4 b19 h k c uv bt md cn (ups r 4 u9) 15)) _
    simp only [Vr23,jA]
    exact qc (a:=⟨t,[]⟩) (v:=.slice (some ⟨h,0,none⟩) (k+1) c) (src:=r 3) (v':=u9) hop (by show t.getD 147 undef=_;rw [gd];exact x147) (by show t.getD 161 undef=_;rw [gd];exact x161) (by rw [ht9];exact hr9)
  | 16,_,ho,hnd,hdep=>
   have x162:=hS.gt nX ho hdep
   refine jM cX r hB ho hS (hM.step (by rfl)) fun hop=>?_
   unfold execOp;simp [hop,x162,Vr23,go_sem]
theorem foldr23 (b4 b19 h k c:Nat) (uv:Value) (bt md cn:Int) (r:Nat→Value) (t0:Array Value):fold yM (Vr23 b4 b19 h k c uv bt md cn r) t0 17=(((((((((((((((((t0.setIfInBounds 147 (.slice (some ⟨h,0,none⟩) (k+1) c)).setIfInBounds 148 (.pointer (some ⟨b19,0,none⟩))).setIfInBounds 149 (.int .i64 md)).setIfInBounds 150 (.pointer (some ⟨b19,1,none⟩))).setIfInBounds 151 (.int .i64 cn)).setIfInBounds 152 (.agg #[.int .i64 bt])).setIfInBounds 153 (.slice (some ⟨h,0,none⟩) (k+1) c)).setIfInBounds 154 (.slice (some ⟨h,0,none⟩) (k+1) c)).setIfInBounds 155 (.int .i64 ((k+1:Nat):Int))).setIfInBounds 156 (.int .i64 (k:Int))).setIfInBounds 157 (.pointer (some ⟨h,k,none⟩))).setIfInBounds 158 (uv)).setIfInBounds 159 ((r 1))).setIfInBounds 160 ((r 2))).setIfInBounds 161 ((r 3))).setIfInBounds 162 ((r 4))).setIfInBounds 16 ((r 4))):=by kernel_rfl
def refO (H:List Nat→List Nat) (p:ByteArray) (v:Vd) (l:List Int):Option (List Nat):=if 90000<l.length∨valB v=false∨Pa.splitE (Pa.tl p) 64≠0 then none else refT H l (qX p) v
def sLen:Value→Nat
 | .slice _ n _=>n
 | _=>0
theorem pj {w:World} {lo:Nat} {a:Option Addr} {n c:Nat} {L:List ByteArray} (h:Pa.OwnsT w lo (.slice a n c) L):∀ i s,L[i]?=some s→∃ g,a=some ⟨g,0,none⟩∧lo≤g∧(∃ c,w.heap[g]?=some (.cells c 9 (0,0)))∧w.cell? ⟨g,i,none⟩=some (.string s):=by
 intro i s hi
 have h0:=h
 obtain ⟨_,⟨e,_⟩ | ⟨g,cap,cur,e,hg,hh,_⟩⟩:=h0
 ·obtain ⟨q,_⟩:=eL h
  have:=(List.getElem?_eq_some_iff.1 hi).1
  injection e with e1 e2 e3
  omega
 ·obtain ⟨_,q⟩:=eL h
  obtain ⟨g2,e1,e2,e3⟩:=q i s hi
  injection e with e4
  rw [e4] at e1
  injection e1 with e1
  injection e1 with e1
  subst e1
  exact ⟨g,e4,hg,⟨_,hh⟩,e3⟩
theorem bB (H:List Nat→List Nat) (z:List (ByteArray × Sq)) (j:Nat) (x:ByteArray × Sq) (hx:z[j]?=some x) (T:List Nat):yI H (z.take (j+1)).reverse T=yI H (z.take j).reverse (dirT x.2.mode x.2.sp.count (topH H x.1 (H T) x.2.sp)):=by
 rw [List.take_add_one,hx]
 simp only [Option.toList,List.reverse_append,List.reverse_cons,List.reverse_nil,List.nil_append,List.singleton_append]
 obtain ⟨a,b⟩:=x
 rfl
theorem nY (l:List Int) (m:Nat) (s:Wi.St) (h:s.fe=0) (a b c:Nat × Wi.St) (ha:Wi.uintS l s 8=a) (hb:Wi.uintS l a.2 1048576=b) (hc:Wi.uintS l b.2 1048576=c):
  yJ l (m+1) 1 s=if c.2.fe≠0∨b.1≤c.1 then none else (yJ l m (Wi.byteS l (qf l (hgt b.1 c.1) c.2).2).1 (Wi.byteS l (qf l (hgt b.1 c.1) c.2).2).2).map fun x=>(⟨a.1,⟨b.1,c.1,(qf l (hgt b.1 c.1) c.2).1⟩⟩::x.1,x.2):=by
 rw [yJ,if_pos ⟨h,rfl⟩]
 simp only [ha,hb,hc]
theorem xt (l:List Int) (m:Nat) (k:Int) (s:Wi.St) (h:m=0∨¬ (s.fe=0∧k=1)):yJ l m k s=some ([],k,s):=by
 cases m with
 | zero=>rfl
 | succ m=>
  rcases h with h | h
  ·cases h
  ·rw [yJ,if_neg h]
def RkP (w:World) (R:Option (List Nat)) (e:Ending) (w':World):Prop:=
 G w w'∧∃ x,(R=none∧e=.returned (.tuple #[x,.bool false]))∨∃ T,R=some T∧e=.returned (.tuple #[x,.bool true])∧Tx w' w.heap.size x T 3000∧Su.Bytes T∧T.length≤100000
theorem a2d {v:Vd} (hb:Su.Bytes v.sum) (hv:valB v=true) (h0:v.kind≠0):VdOk v:=by
 rw [xm v h0] at hv
 unfold jV at hv
 by_cases a:v.kind=1
 ·rw [if_pos a] at hv
  simp at hv
  exact ⟨by omega,by omega,hb⟩
 ·rw [if_neg a] at hv
  by_cases b:v.kind=2
  ·rw [if_pos b] at hv
   simp at hv
   exact ⟨by omega,by omega,hb⟩
  ·rw [if_neg b] at hv
   by_cases c:v.kind=3
   ·rw [if_pos c] at hv
    simp at hv
    exact ⟨by omega,by omega,hb⟩
   ·rw [if_neg c] at hv
    cases hv
end Go.Proofs.YtdeanahpiigonaaGreatDoor
