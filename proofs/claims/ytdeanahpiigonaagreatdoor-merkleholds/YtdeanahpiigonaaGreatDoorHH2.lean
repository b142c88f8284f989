import Derived.Test.YtdeanahpiigonaaGreatDoorHG1
set_option maxRecDepth 100000
set_option maxHeartbeats 8000000
namespace Go.Proofs.YtdeanahpiigonaaGreatDoor
open Go.RowKit Hm
attribute [local go_sem] Oper.semAt_some
noncomputable abbrev zA:Array Oper:=kS Tryz.f68 3
theorem lN:zA.size=12:=by kernel_rfl
theorem a1B:say zA 0=some (some 29,.move (.tmp 1),none):=by kernel_rfl
theorem a1C:say zA 1=some (some 30,.move (.tmp 1),none):=by kernel_rfl
theorem a1D:say zA 2=some (some 31,.nilCheck (.tmp 30),none):=by kernel_rfl
theorem a1E:say zA 3=some (some 32,.fieldAddr 117 (.tmp 31) 1,none):=by kernel_rfl
theorem a1F:say zA 4=some (some 33,.load 114 (.tmp 32),none):=by kernel_rfl
theorem a1G:say zA 5=some (some 34,.move (.tmp 0),none):=by kernel_rfl
theorem a1H:say zA 6=some (some 35,.call { callee:=.value (.func 88),args:=#[.tmp 34],argTypes:=#[109] },none):=by kernel_rfl
theorem a1I:say zA 7=some (some 36,.buildSlice 114 1 #[(0,.tmp 35)],none):=by kernel_rfl
theorem a1J:say zA 8=some (some 37,.call { callee:=.builtin .append,args:=#[.tmp 33,.tmp 36],argTypes:=#[114,114] },none):=by kernel_rfl
theorem a1K:say zA 9=some (some 38,.nilCheck (.tmp 29),none):=by kernel_rfl
theorem sV:say zA 10=some (some 39,.fieldAddr 117 (.tmp 38) 1,none):=by kernel_rfl
theorem a1L:say zA 11=some (none,.store 114 (.tmp 39) (.tmp 37),none):=by kernel_rfl
def Vq3 (C Qb:Nat) (sv:Value) (r:Nat→Value):Nat→Value
 | 0=>.pointer (some ⟨C,0,none⟩)
 | 1=>.pointer (some ⟨C,0,none⟩)
 | 2=>.pointer (some ⟨C,0,none⟩)
 | 3=>.pointer (some ⟨C,1,none⟩)
 | 4=>sv
 | 5=>.pointer (some ⟨Qb,0,none⟩)
 | 6=>(r 1)
 | 7=>(r 2)
 | 8=>(r 3)
 | 9=>.pointer (some ⟨C,0,none⟩)
 | 10=>.pointer (some ⟨C,1,none⟩)
 | 11=>undef
 | _=>undef
theorem regq3 (C Qb:Nat) (sv:Value) (F0 F1 F2 F3 F4:(Nat→Value)→World→Prop) (B:World→Prop)  (t0:Array Value) (wr:World) {Q:Exit→Act→World→Prop} (ht:t0.size=113) (h0:t0.getD 0 undef=.pointer (some ⟨Qb,0,none⟩)) (h1:t0.getD 1 undef=.pointer (some ⟨C,0,none⟩))
  (hb0:∀ r w,F0 r w→B w) (hb1:∀ r w,F1 r w→B w) (hb2:∀ r w,F2 r w→B w) (hb3:∀ r w,F3 r w→B w)
  (hc1:∀ r w,F0 r w→Calls Tryz.prog 88 #[.pointer (some ⟨Qb,0,none⟩)] w fun e w'=>∃ u,e=.returned u∧F1 (ups r 1 u) w')
  (hs2:∀ r w,F1 r w→(r 1).cells.size=4∧F2 (ups r 2 (.slice (some ⟨w.heap.size,0,none⟩) 1 1)) (w.alloc (.cells (r 1).cells 129)))
  (ha3:∀ r w,F2 r w→∃ u w',(Builtin.append_ #[114,114] 114 #[sv,r 2]).run Tryz.prog w=.ok u w'∧F3 (ups r 3 u) w')
  (hw4:∀ r w,F3 r w→(∃ o,w.cell? ⟨C,1,none⟩=some o)∧w.frozen? ⟨C,1,none⟩=false∧(∃ a n k,(r 3)=.slice a n k)∧F4 r (w.setCell ⟨C,1,none⟩ (r 3)))
  (hl4:∀ w,B w→w.cell? ⟨C,1,none⟩=some (sv))
  (hst0:∀ r,F0 r wr.drew)
  (hQ:∀ r w,F4 r w→Q .normal ⟨fold zA (Vq3 C Qb sv r) t0 12,[]⟩ w):(Code.region 3 zA true).wp Tryz.prog Q ⟨t0,[]⟩ wr:=by
 have hB:dstB zA t0.size=true:=by rw [ht];kernel_rfl
 have hBB:∀ r done w,MC F0 [(8,F3),(7,F2),(6,F1)] r done w→B w:=fun r done w h=>MC.base hb0 (by simp only [List.mem_cons,List.not_mem_nil,or_false];rintro x (rfl | rfl | rfl)<;>assumption) h
 refine jL (by kernel_rfl) (IE zA (Vq3 C Qb sv) t0 (MC F0 [(11,F4),(8,F3),(7,F2),(6,F1)] )) (by kernel_rfl) ⟨(fun _=>undef),t0,rfl,⟨rfl,fun _ _=>rfl,fun _ _ _ _ _ h=>by cases h⟩,MC.start (hst0 _)⟩ ?_ ?_
 rotate_left 1
 ·rintro done a w ⟨r,t,rfl,hS,hM⟩ hall
  rw [hS.end hB hall,lN]
  exact hQ r w (MC.get (hall 11 (by rw [lN];decide)) [] (by simp) hM)
 ·rintro jz op done a w ho ⟨r,t,rfl,hS,hM⟩ hnd hdep hcl
  have e0:=hS.ol h0
  have e1:=hS.ol h1
  have hlt:jz<12:=by rw [← lN];exact (ga ho).1
  match jz,hlt,ho,hnd,hdep with
  | 0,_,ho,hnd,hdep=>
   refine jM a1B r hB ho hS (hM.step (by rfl)) fun hop=>?_
   unfold execOp;simp [hop,e1,Vq3,go_sem]
  | 1,_,ho,hnd,hdep=>
   refine jM a1C r hB ho hS (hM.step (by rfl)) fun hop=>?_
   unfold execOp;simp [hop,e1,Vq3,go_sem]
  | 2,_,ho,hnd,hdep=>
   have x30:=hS.gt a1C ho hdep
   refine jM a1D r hB ho hS (hM.step (by rfl)) fun hop=>?_
   unfold execOp;simp [hop,x30,Vq3,go_sem]
  | 3,_,ho,hnd,hdep=>
   have x31:=hS.gt a1D ho hdep
   refine jM a1E r hB ho hS (hM.step (by rfl)) fun hop=>?_
   unfold execOp;simp [hop,x31,Vq3,go_sem]
  | 4,_,ho,hnd,hdep=>
   have x32:=hS.gt a1E ho hdep
   have ny11:done 11=false:=j8 (by kernel_rfl) hcl hnd
   have cz:=hl4 w (hBB _ _ _ (MC.cut [(11,F4)] (by simp [ny11]) hM))
   refine jM a1F r hB ho hS (hM.step (by rfl)) fun hop=>?_
   unfold execOp;simp [hop,x32,Vq3,cz,go_sem]
  | 5,_,ho,hnd,hdep=>
   refine jM a1G r hB ho hS (hM.step (by rfl)) fun hop=>?_
   unfold execOp;simp [hop,e0,Vq3,go_sem]
  | 6,_,ho,hnd,hdep=>
   obtain ⟨hd,hop,hgd⟩:=jB a1H ho
   have x34:=hS.gt a1G ho hdep
   simp only [Vq3] at x34
   have ny7:done 7=false:=j8 (by kernel_rfl) hcl hnd
   have ny8:done 8=false:=j8 (by kernel_rfl) hcl hnd
   have ny11:done 11=false:=j8 (by kernel_rfl) hcl hnd
   have hF:=MC.get0 [(11,F4),(8,F3),(7,F2),(6,F1)] (by simp [hnd,ny7,ny8,ny11]) hM
   refine jb r 88 #[.pointer (some ⟨Qb,0,none⟩)] hB ho (j0 hgd) hd hS ?_ ?_
   ·skip
    unfold execOp
    simp only [hop]
    simp [x34,go_sem]
   ·skip
    refine (hc1 r w hF).mono ?_
    rintro e w' ⟨u,rfl,hF'⟩
    refine ⟨ups r 1 u,?_,fun k hk=>?_,MC.put hF' [(11,F4),(8,F3),(7,F2)] (by simp [ny7,ny8,ny11])⟩
    ·simp only [Vq3,jA]
    ·skip
     have q6:k≠6:=fun e=>by rw [e,hnd] at hk;cases hk
     unfold Vq3
     split<;>first | rfl | exact absurd rfl q6
  | 7,_,ho,hnd,hdep=>
   obtain ⟨hd,hop,hgd⟩:=jB a1I ho
   have x35:=hS.gt a1H ho hdep
   simp only [Vq3] at x35
   have ny8:done 8=false:=j8 (by kernel_rfl) hcl hnd
   have ny11:done 11=false:=j8 (by kernel_rfl) hcl hnd
   have a6:done 6=true:=jy (j:=6) (by kernel_rfl) ho hdep
   have hF:=MC.get a6 [(11,F4),(8,F3),(7,F2)] (by simp [hnd,ny8,ny11]) hM
   refine qM r (ups r 2 (.slice (some ⟨w.heap.size,0,none⟩) 1 1)) (w.alloc (.cells (r 1).cells 129)) hB ho (j0 hgd) hd hS (fun k hk=>?_) (MC.put (hs2 r w hF).2 [(11,F4),(8,F3)] (by simp [ny8,ny11])) ?_
   ·skip
    have q7:k≠7:=fun e=>by rw [e,hnd] at hk;cases hk
    unfold Vq3
    split<;>first | rfl | exact absurd rfl q7
   ·show _=Result.ok (Next.value (Vq3 C Qb sv (ups r 2 (.slice (some ⟨w.heap.size,0,none⟩) 1 1)) 7)) _
    simp only [Vq3,jA]
    exact jf a0q _ hop ((r 1)) (r 1).cells (by show t.getD 35 undef=_;rw [gd];exact x35) rfl (hs2 r w hF).1 w _ rfl
  | 8,_,ho,hnd,hdep=>
   obtain ⟨hd,hop,hgd⟩:=jB a1J ho
   have x33:=hS.gt a1F ho hdep
   simp only [Vq3] at x33
   have x36:=hS.gt a1I ho hdep
   simp only [Vq3] at x36
   have ny11:done 11=false:=j8 (by kernel_rfl) hcl hnd
   have a7:done 7=true:=jy (j:=7) (by kernel_rfl) ho hdep
   have hF:=MC.get a7 [(11,F4),(8,F3)] (by simp [hnd,ny11]) hM
   obtain ⟨u9,w9,hr9,hF9⟩:=ha3 r w hF
   have ht9:op.type=114:=by have:=congrArg (·.map (·.type)) ho;simpa using this.symm.trans (show _=some 114 from by kernel_rfl)
   refine qM r (ups r 3 u9) w9 hB ho (j0 hgd) hd hS (fun k hk=>?_) (MC.put hF9 [(11,F4)] (by simp [ny11])) ?_
   ·skip
    have q8:k≠8:=fun e=>by rw [e,hnd] at hk;cases hk
    unfold Vq3
    split<;>first | rfl | exact absurd rfl q8
   ·show _=Result.ok (Next.value (Vq3 C Qb sv (ups r 3 u9) 8)) _
    simp only [Vq3,jA]
    exact qc (a:=⟨t,[]⟩) (v:=sv) (src:=r 2) (v':=u9) hop (by show t.getD 33 undef=_;rw [gd];exact x33) (by show t.getD 36 undef=_;rw [gd];exact x36) (by rw [ht9];exact hr9)
  | 9,_,ho,hnd,hdep=>
   have x29:=hS.gt a1B ho hdep
   refine jM a1K r hB ho hS (hM.step (by rfl)) fun hop=>?_
   unfold execOp;simp [hop,x29,Vq3,go_sem]
  | 10,_,ho,hnd,hdep=>
   have x38:=hS.gt a1K ho hdep
   refine jM sV r hB ho hS (hM.step (by rfl)) fun hop=>?_
   unfold execOp;simp [hop,x38,Vq3,go_sem]
  | 11,_,ho,hnd,hdep=>
   obtain ⟨hd,hop,hgd⟩:=jB a1L ho
   have x39:=hS.gt sV ho hdep
   simp only [Vq3] at x39
   have x37:=hS.gt a1J ho hdep
   simp only [Vq3] at x37
   have a8:done 8=true:=jy (j:=8) (by kernel_rfl) ho hdep
   have hF:=MC.get a8 [(11,F4)] (by simp [hnd]) hM
   obtain ⟨⟨o9,ho9⟩,hf9,⟨a9,n9,k9,e9⟩,hF9⟩:=hw4 r w hF
   refine qh (w':=w.setCell ⟨C,1,none⟩ (r 3)) r ho (j0 hgd) hd hS (MC.put hF9 [] (by simp)) ?_
   unfold execOp;simp [hop,x39,x37,ho9,hf9,e9,go_sem]
theorem foldq3 (C Qb:Nat) (sv:Value) (r:Nat→Value) (t0:Array Value):fold zA (Vq3 C Qb sv r) t0 12=(((((((((((t0.setIfInBounds 29 (.pointer (some ⟨C,0,none⟩))).setIfInBounds 30 (.pointer (some ⟨C,0,none⟩))).setIfInBounds 31 (.pointer (some ⟨C,0,none⟩))).setIfInBounds 32 (.pointer (some ⟨C,1,none⟩))).setIfInBounds 33 (sv)).setIfInBounds 34 (.pointer (some ⟨Qb,0,none⟩))).setIfInBounds 35 ((r 1))).setIfInBounds 36 ((r 2))).setIfInBounds 37 ((r 3))).setIfInBounds 38 (.pointer (some ⟨C,0,none⟩))).setIfInBounds 39 (.pointer (some ⟨C,1,none⟩))):=by kernel_rfl
theorem StAt.size {w:World} {lo:Nat} {c:Array Value} {d:Sq} (h:StAt w lo c d):c.size=4:=by obtain ⟨sc,rfl,h1,_⟩:=h;exact fi h1.size
theorem StAt.one {w:World} {lo:Nat} {c:Array Value} {d:Sq} (h:StAt w lo c d):c.all (·.oneCell')=true:=by obtain ⟨sc,rfl,h1,_⟩:=h;exact lB _ _ h1.one
theorem StAt.mono {w:World} {lo lo':Nat} {c:Array Value} {d:Sq} (h:StAt w lo c d) (hl:lo'≤lo):StAt w lo' c d:=by
 obtain ⟨sc,h0,h1,h2⟩:=h
 exact ⟨sc,h0,h1.mono hl,h2⟩
structure PI (c:Rq) (r:Pv) (C bV:Nat) (nv:Value) (cm:Cm) (sv dv:Value) (w:World) (X:Array Value) (W:World):Prop where
 pv:PvAt c r W
 cl:ClI C nv cm sv dv W
 kp:Kp (c.in_ C) w W
 x:W.heap[bV]?=some (.cells X 24 (0,0))
theorem PI.kept {c:Rq} {r r':Pv} {C bV:Nat} {nv:Value} {cm:Cm} {sv dv:Value} {w:World} {X:Array Value} {W W':World} (h:PI c r C bV nv cm sv dv w X W) (hp:PvAt c r' W') (hk:Kp c.own W W') (hC:c.Q<C) (hb:C<bV):PI c r' C bV nv cm sv dv w X W':=
 ⟨hp,h.cl.kp hk hC,h.kp.trans hk fun _ _ e=>.inl e,(hk.block bV (ga h.x).1 fun e=>by have:=e.2;omega).trans h.x⟩
theorem PI.up {c:Rq} {r:Pv} {C bV:Nat} {nv:Value} {cm:Cm} {sv dv:Value} {w:World} {X:Array Value} {W W':World} (h:PI c r C bV nv cm sv dv w X W) (hg:G W W'):PI c r C bV nv cm sv dv w X W':=
 ⟨h.pv.up hg,h.cl.up hg,h.kp.trans (Kp.of (S:=c.in_ C) hg) fun _ _ e=>e,(hg.block bV (ga h.x).1).trans h.x⟩
theorem oX {o:Oper} {a:Act} {x y:Operand} {p q:Int} {b:Bool} {w:World} (ho:o.op=.binOp .eql 5 x y 5) (hx:a.eval x=.int .u8 p) (hy:a.eval y=.int .u8 q) (hb:(p==q)=b):(execOp a.eval o).run Tryz.prog w=.ok (.value (.bool b)) w:=by
 subst hb
 unfold execOp
 simp only [ho,hx,hy]
 simp [go_sem]
theorem gm (l:List Int):∀ (n:Nat) (part:Int) (r:Pv),¬ (part=1∧0<n)→qS l n part r=([],part,r)
 | 0,_,_,_=>rfl
 | n+1,part,r,h=>by rw [qS,if_neg fun e=>h ⟨e,by omega⟩]
theorem lO (l:List Int) (n:Nat) (r:Pv):qS l (n+1) 1 r=((yZ l r).1::(qS l n (Wi.byteS l (yZ l r).2.s).1 ⟨(Wi.byteS l (yZ l r).2.s).2,(yZ l r).2.bad⟩).1,(qS l n (Wi.byteS l (yZ l r).2.s).1 ⟨(Wi.byteS l (yZ l r).2.s).2,(yZ l r).2.bad⟩).2):=by rw [qS,if_pos rfl]
theorem jW {P:Program} {ops:Array Oper} {Q:Exit→Act→World→Prop} {α:Type} {V:α→Nat→Value} {t0 t:Array Value} {done:Nat→Bool} {Mem:α→(Nat→Bool)→World→Prop} {i d:Nat} {o:Oper} {w:World} (r:α) (hB:dstB ops t0.size=true) (ho:ops[i]?=some o) (hg:Region.wanted o (yielded ops t)=false) (hd:o.dst=some d) (hs:qu ops (V r) t0 t done) (hM:Mem r (upd done i) w) (hV:V r i=undef):wpOp P ops Q i (IE ops V t0 Mem (upd done i)) ⟨t,[]⟩ w:=by
 unfold wpOp
 rw [ho]
 simp only
 rw [if_neg (by rw [hg];simp)]
 show IE ops V t0 Mem (upd done i) (Act.put ⟨t,[]⟩ o.dst undef) w
 rw [hd,← hV]
 exact ⟨r,_,rfl,hs.put hB ho hd,hM⟩
noncomputable abbrev yX:Array Oper:=kS Tryz.f68 2
theorem sW:yX.size=15:=by kernel_rfl
theorem a1M:say yX 0=some (some 14,.move (.tmp 6),none):=by kernel_rfl
theorem a1N:say yX 1=some (some 15,.binOp .eql 5 (.tmp 14) (.const (.int .u8 1)) 5,none):=by kernel_rfl
theorem yB:say yX 2=some (some 16,.move (.tmp 15),none):=by kernel_rfl
theorem a2l:say yX 3=some (some 17,.move (.tmp 1),some (2,true)):=by kernel_rfl
theorem a2m:say yX 4=some (some 18,.nilCheck (.tmp 17),some (2,true)):=by kernel_rfl
theorem a2n:say yX 5=some (some 19,.fieldAddr 117 (.tmp 18) 1,some (2,true)):=by kernel_rfl
theorem a2o:say yX 6=some (some 20,.load 114 (.tmp 19),some (2,true)):=by kernel_rfl
theorem a2p:say yX 7=some (some 21,.call { callee:=.builtin .len,args:=#[.tmp 20],argTypes:=#[114] },some (2,true)):=by kernel_rfl
theorem a2q:say yX 8=some (some 22,.move (.tmp 1),some (2,true)):=by kernel_rfl
theorem a2r:say yX 9=some (some 23,.nilCheck (.tmp 22),some (2,true)):=by kernel_rfl
theorem a1O:say yX 10=some (some 24,.fieldAddr 117 (.tmp 23) 0,some (2,true)):=by kernel_rfl
theorem a1P:say yX 11=some (some 25,.load 58 (.tmp 24),some (2,true)):=by kernel_rfl
theorem a1Q:say yX 12=some (some 26,.call { callee:=.builtin .len,args:=#[.tmp 25],argTypes:=#[58] },some (2,true)):=by kernel_rfl
theorem sY:say yX 13=some (some 27,.binOp .lss 3 (.tmp 21) (.tmp 26) 3,some (2,true)):=by kernel_rfl
theorem a1R:say yX 14=some (some 28,.pick (.tmp 16) (.tmp 27) (.const (.bool false)),none):=by kernel_rfl
def Vq2 (p:Int) (_r:Unit):Nat→Value
 | 0=>.int .u8 p
 | 1=>.bool false
 | 2=>.bool false
 | 3=>undef
 | 4=>undef
 | 5=>undef
 | 6=>undef
 | 7=>undef
 | 8=>undef
 | 9=>undef
 | 10=>undef
 | 11=>undef
 | 12=>undef
 | 13=>undef
 | 14=>.bool false
 | _=>undef
theorem regq2 (p:Int)  (t0:Array Value) (wr:World) {Q:Exit→Act→World→Prop} (ht:t0.size=113) (h6:t0.getD 6 undef=.int .u8 p)
  (hp:(p==1)=false)
  (hQ:∀ r,Q .normal ⟨fold yX (Vq2 p r) t0 15,[]⟩ wr.drew):(Code.region 2 yX true).wp Tryz.prog Q ⟨t0,[]⟩ wr:=by
 have hB:dstB yX t0.size=true:=by rw [ht];kernel_rfl
 refine jL (by kernel_rfl) (IE yX (Vq2 p) t0 ((fun (_:Unit) (_:Nat→Bool) (w:World)=>w=wr.drew) )) (by kernel_rfl) ⟨(),t0,rfl,⟨rfl,fun _ _=>rfl,fun _ _ _ _ _ h=>by cases h⟩,rfl⟩ ?_ ?_
 rotate_left 1
 ·rintro done a w ⟨r,t,rfl,hS,hM⟩ hall
  rw [hS.end hB hall,sW]
  rw [hM]
  exact hQ r
 ·rintro jz op done a w ho ⟨r,t,rfl,hS,hM⟩ hnd hdep hcl
  have e6:=hS.ol h6
  have hlt:jz<15:=by rw [← sW];exact (ga ho).1
  match jz,hlt,ho,hnd,hdep with
  | 0,_,ho,hnd,hdep=>
   obtain ⟨hd,hop,hgd⟩:=jB a1M ho
   refine jJ r hB ho (j0 hgd) hd hS hM ?_
   unfold execOp;simp [hop,e6,Vq2,go_sem]
  | 1,_,ho,hnd,hdep=>
   obtain ⟨hd,hop,hgd⟩:=jB a1N ho
   have x14:=hS.gt a1M ho hdep
   simp only [Vq2] at x14
   refine jJ r hB ho (j0 hgd) hd hS hM ?_
   exact oX (p:=p) (q:=1) hop (by show t.getD 14 undef=_;rw [gd];exact x14) rfl hp
  | 2,_,ho,hnd,hdep=>
   obtain ⟨hd,hop,hgd⟩:=jB yB ho
   have x15:=hS.gt a1N ho hdep
   refine jJ r hB ho (j0 hgd) hd hS hM ?_
   unfold execOp;simp [hop,x15,Vq2,go_sem]
  | 3,_,ho,hnd,hdep=>
   obtain ⟨hd,hop,hgd⟩:=jB a2l ho
   have gx:=hS.gt yB ho hdep
   simp only [Vq2] at gx
   exact jW r hB ho (jH hgd (sd yB) gx rfl) hd hS hM rfl
  | 4,_,ho,hnd,hdep=>
   obtain ⟨hd,hop,hgd⟩:=jB a2m ho
   have gx:=hS.gt yB ho hdep
   simp only [Vq2] at gx
   exact jW r hB ho (jH hgd (sd yB) gx rfl) hd hS hM rfl
  | 5,_,ho,hnd,hdep=>
   obtain ⟨hd,hop,hgd⟩:=jB a2n ho
   have gx:=hS.gt yB ho hdep
   simp only [Vq2] at gx
   exact jW r hB ho (jH hgd (sd yB) gx rfl) hd hS hM rfl
  | 6,_,ho,hnd,hdep=>
   obtain ⟨hd,hop,hgd⟩:=jB a2o ho
   have gx:=hS.gt yB ho hdep
   simp only [Vq2] at gx
   exact jW r hB ho (jH hgd (sd yB) gx rfl) hd hS hM rfl
  | 7,_,ho,hnd,hdep=>
   obtain ⟨hd,hop,hgd⟩:=jB a2p ho
   have gx:=hS.gt yB ho hdep
   simp only [Vq2] at gx
   exact jW r hB ho (jH hgd (sd yB) gx rfl) hd hS hM rfl
  | 8,_,ho,hnd,hdep=>
   obtain ⟨hd,hop,hgd⟩:=jB a2q ho
   have gx:=hS.gt yB ho hdep
   simp only [Vq2] at gx
   exact jW r hB ho (jH hgd (sd yB) gx rfl) hd hS hM rfl
  | 9,_,ho,hnd,hdep=>
   obtain ⟨hd,hop,hgd⟩:=jB a2r ho
   have gx:=hS.gt yB ho hdep
   simp only [Vq2] at gx
   exact jW r hB ho (jH hgd (sd yB) gx rfl) hd hS hM rfl
  | 10,_,ho,hnd,hdep=>
   obtain ⟨hd,hop,hgd⟩:=jB a1O ho
   have gx:=hS.gt yB ho hdep
   simp only [Vq2] at gx
   exact jW r hB ho (jH hgd (sd yB) gx rfl) hd hS hM rfl
  | 11,_,ho,hnd,hdep=>
   obtain ⟨hd,hop,hgd⟩:=jB a1P ho
   have gx:=hS.gt yB ho hdep
   simp only [Vq2] at gx
   exact jW r hB ho (jH hgd (sd yB) gx rfl) hd hS hM rfl
  | 12,_,ho,hnd,hdep=>
   obtain ⟨hd,hop,hgd⟩:=jB a1Q ho
   have gx:=hS.gt yB ho hdep
   simp only [Vq2] at gx
   exact jW r hB ho (jH hgd (sd yB) gx rfl) hd hS hM rfl
  | 13,_,ho,hnd,hdep=>
   obtain ⟨hd,hop,hgd⟩:=jB sY ho
   have gx:=hS.gt yB ho hdep
   simp only [Vq2] at gx
   exact jW r hB ho (jH hgd (sd yB) gx rfl) hd hS hM rfl
  | 14,_,ho,hnd,hdep=>
   obtain ⟨hd,hop,hgd⟩:=jB a1R ho
   have x16:=hS.gt yB ho hdep
   have x27:=hS.gt sY ho hdep
   refine jJ r hB ho (j0 hgd) hd hS hM ?_
   unfold execOp;simp [hop,x16,x27,Vq2,go_sem]
theorem foldq2 (p:Int) (r:Unit) (t0:Array Value):fold yX (Vq2 p r) t0 15=(((((((((((((((t0.setIfInBounds 14 (.int .u8 p)).setIfInBounds 15 (.bool false)).setIfInBounds 16 (.bool false)).setIfInBounds 17 (undef)).setIfInBounds 18 (undef)).setIfInBounds 19 (undef)).setIfInBounds 20 (undef)).setIfInBounds 21 (undef)).setIfInBounds 22 (undef)).setIfInBounds 23 (undef)).setIfInBounds 24 (undef)).setIfInBounds 25 (undef)).setIfInBounds 26 (undef)).setIfInBounds 27 (undef)).setIfInBounds 28 (.bool false)):=by kernel_rfl
noncomputable abbrev zB:Array Oper:=kS Tryz.f68 5
theorem sZ:zB.size=12:=by kernel_rfl
theorem a1S:say zB 0=some (some 45,.move (.tmp 1),none):=by kernel_rfl
theorem a1T:say zB 1=some (some 46,.nilCheck (.tmp 45),none):=by kernel_rfl
theorem a1U:say zB 2=some (some 47,.fieldAddr 117 (.tmp 46) 1,none):=by kernel_rfl
theorem a1V:say zB 3=some (some 48,.load 114 (.tmp 47),none):=by kernel_rfl
theorem a1W:say zB 4=some (some 49,.call { callee:=.builtin .len,args:=#[.tmp 48],argTypes:=#[114] },none):=by kernel_rfl
theorem a1X:say zB 5=some (some 50,.move (.tmp 1),none):=by kernel_rfl
theorem a1Y:say zB 6=some (some 51,.nilCheck (.tmp 50),none):=by kernel_rfl
theorem a1Z:say zB 7=some (some 52,.fieldAddr 117 (.tmp 51) 0,none):=by kernel_rfl
theorem a1a:say zB 8=some (some 53,.load 58 (.tmp 52),none):=by kernel_rfl
theorem a1b:say zB 9=some (some 54,.call { callee:=.builtin .len,args:=#[.tmp 53],argTypes:=#[58] },none):=by kernel_rfl
theorem sb:say zB 10=some (some 55,.binOp .eql 3 (.tmp 49) (.tmp 54) 3,none):=by kernel_rfl
theorem a1c:say zB 11=some (some 7,.assign (.tmp 55),none):=by kernel_rfl
def Vq5 (C ln N:Nat) (sa na:Option Addr) (sc nc:Nat) (q:Bool) (_r:Unit):Nat→Value
 | 0=>.pointer (some ⟨C,0,none⟩)
 | 1=>.pointer (some ⟨C,0,none⟩)
 | 2=>.pointer (some ⟨C,1,none⟩)
 | 3=>.slice sa ln sc
 | 4=>.int .i64 (ln:Int)
 | 5=>.pointer (some ⟨C,0,none⟩)
 | 6=>.pointer (some ⟨C,0,none⟩)
 | 7=>.pointer (some ⟨C,0,none⟩)
 | 8=>.slice na N nc
 | 9=>.int .i64 (N:Int)
 | 10=>.bool q
 | 11=>.bool q
 | _=>undef
theorem wb (C ln N:Nat) (sa na:Option Addr) (sc nc:Nat) (q:Bool)  (t0:Array Value) (wr:World) {Q:Exit→Act→World→Prop} (ht:t0.size=113) (h1:t0.getD 1 undef=.pointer (some ⟨C,0,none⟩))
  (hq:((ln:Int)==(N:Int))=q)
  (hl3:wr.cell? ⟨C,1,none⟩=some (.slice sa ln sc))
  (hl8:wr.cell? ⟨C,0,none⟩=some (.slice na N nc))
  (hQ:∀ r,Q .normal ⟨fold zB (Vq5 C ln N sa na sc nc q r) t0 12,[]⟩ wr.drew):(Code.region 5 zB true).wp Tryz.prog Q ⟨t0,[]⟩ wr:=by
 have hB:dstB zB t0.size=true:=by rw [ht];kernel_rfl
 refine jL (by kernel_rfl) (IE zB (Vq5 C ln N sa na sc nc q) t0 ((fun (_:Unit) (_:Nat→Bool) (w:World)=>w=wr.drew) )) (by kernel_rfl) ⟨(),t0,rfl,⟨rfl,fun _ _=>rfl,fun _ _ _ _ _ h=>by cases h⟩,rfl⟩ ?_ ?_
 rotate_left 1
 ·rintro done a w ⟨r,t,rfl,hS,hM⟩ hall
  rw [hS.end hB hall,sZ]
  rw [hM]
  exact hQ r
 ·rintro jz op done a w ho ⟨r,t,rfl,hS,hM⟩ hnd hdep hcl
  have e1:=hS.ol h1
  have hlt:jz<12:=by rw [← sZ];exact (ga ho).1
  match jz,hlt,ho,hnd,hdep with
  | 0,_,ho,hnd,hdep=>
   obtain ⟨hd,hop,hgd⟩:=jB a1S ho
   refine jJ r hB ho (j0 hgd) hd hS hM ?_
   unfold execOp;simp [hop,e1,Vq5,go_sem]
  | 1,_,ho,hnd,hdep=>
   obtain ⟨hd,hop,hgd⟩:=jB a1T ho
   have x45:=hS.gt a1S ho hdep
   refine jJ r hB ho (j0 hgd) hd hS hM ?_
   unfold execOp;simp [hop,x45,Vq5,go_sem]
  | 2,_,ho,hnd,hdep=>
   obtain ⟨hd,hop,hgd⟩:=jB a1U ho
   have x46:=hS.gt a1T ho hdep
   refine jJ r hB ho (j0 hgd) hd hS hM ?_
   unfold execOp;simp [hop,x46,Vq5,go_sem]
  | 3,_,ho,hnd,hdep=>
   obtain ⟨hd,hop,hgd⟩:=jB a1V ho
   have x47:=hS.gt a1U ho hdep
   have cz:w.cell? ⟨C,1,none⟩=some (.slice sa ln sc):=by rw [hM];exact hl3
   refine jJ r hB ho (j0 hgd) hd hS hM ?_
   unfold execOp;simp [hop,x47,Vq5,cz,go_sem]
  | 4,_,ho,hnd,hdep=>
   obtain ⟨hd,hop,hgd⟩:=jB a1W ho
   have x48:=hS.gt a1V ho hdep
   refine jJ r hB ho (j0 hgd) hd hS hM ?_
   unfold execOp;simp [hop,x48,Vq5,go_sem]
  | 5,_,ho,hnd,hdep=>
   obtain ⟨hd,hop,hgd⟩:=jB a1X ho
   refine jJ r hB ho (j0 hgd) hd hS hM ?_
   unfold execOp;simp [hop,e1,Vq5,go_sem]
  | 6,_,ho,hnd,hdep=>
   obtain ⟨hd,hop,hgd⟩:=jB a1Y ho
   have x50:=hS.gt a1X ho hdep
   refine jJ r hB ho (j0 hgd) hd hS hM ?_
   unfold execOp;simp [hop,x50,Vq5,go_sem]
  | 7,_,ho,hnd,hdep=>
   obtain ⟨hd,hop,hgd⟩:=jB a1Z ho
   have x51:=hS.gt a1Y ho hdep
   refine jJ r hB ho (j0 hgd) hd hS hM ?_
   unfold execOp;simp [hop,x51,Vq5,go_sem]
  | 8,_,ho,hnd,hdep=>
   obtain ⟨hd,hop,hgd⟩:=jB a1a ho
   have x52:=hS.gt a1Z ho hdep
   have cz:w.cell? ⟨C,0,none⟩=some (.slice na N nc):=by rw [hM];exact hl8
   refine jJ r hB ho (j0 hgd) hd hS hM ?_
   unfold execOp;simp [hop,x52,Vq5,cz,go_sem]
  | 9,_,ho,hnd,hdep=>
   obtain ⟨hd,hop,hgd⟩:=jB a1b ho
   have x53:=hS.gt a1a ho hdep
   refine jJ r hB ho (j0 hgd) hd hS hM ?_
   unfold execOp;simp [hop,x53,Vq5,go_sem]
  | 10,_,ho,hnd,hdep=>
   obtain ⟨hd,hop,hgd⟩:=jB sb ho
   have x49:=hS.gt a1W ho hdep
   have x54:=hS.gt a1b ho hdep
   refine jJ r hB ho (j0 hgd) hd hS hM ?_
   unfold execOp;simp [hop,x49,x54,Vq5,hq,go_sem]
  | 11,_,ho,hnd,hdep=>
   obtain ⟨hd,hop,hgd⟩:=jB a1c ho
   have x55:=hS.gt sb ho hdep
   refine jJ r hB ho (j0 hgd) hd hS hM ?_
   unfold execOp;simp [hop,x55,Vq5,go_sem]
theorem lQ (C ln N:Nat) (sa na:Option Addr) (sc nc:Nat) (q:Bool) (r:Unit) (t0:Array Value):fold zB (Vq5 C ln N sa na sc nc q r) t0 12=((((((((((((t0.setIfInBounds 45 (.pointer (some ⟨C,0,none⟩))).setIfInBounds 46 (.pointer (some ⟨C,0,none⟩))).setIfInBounds 47 (.pointer (some ⟨C,1,none⟩))).setIfInBounds 48 (.slice sa ln sc)).setIfInBounds 49 (.int .i64 (ln:Int))).setIfInBounds 50 (.pointer (some ⟨C,0,none⟩))).setIfInBounds 51 (.pointer (some ⟨C,0,none⟩))).setIfInBounds 52 (.pointer (some ⟨C,0,none⟩))).setIfInBounds 53 (.slice na N nc)).setIfInBounds 54 (.int .i64 (N:Int))).setIfInBounds 55 (.bool q)).setIfInBounds 7 (.bool q)):=by kernel_rfl
noncomputable abbrev kE:Array Oper:=kS Tryz.f68 11
theorem eJ:kE.size=14:=by kernel_rfl
theorem sf:say kE 0=some (some 86,.move (.tmp 0),none):=by kernel_rfl
theorem sg:say kE 1=some (some 87,.move (.tmp 1),none):=by kernel_rfl
theorem si:say kE 2=some (some 88,.move (.tmp 1),none):=by kernel_rfl
theorem sj:say kE 3=some (some 89,.nilCheck (.tmp 88),none):=by kernel_rfl
theorem sl:say kE 4=some (some 90,.fieldAddr 117 (.tmp 89) 0,none):=by kernel_rfl
theorem so:say kE 5=some (some 91,.load 58 (.tmp 90),none):=by kernel_rfl
theorem sr:say kE 6=some (some 92,.move (.tmp 1),none):=by kernel_rfl
theorem ss:say kE 7=some (some 93,.nilCheck (.tmp 92),none):=by kernel_rfl
theorem su:say kE 8=some (some 94,.fieldAddr 117 (.tmp 93) 1,none):=by kernel_rfl
theorem sw:say kE 9=some (some 95,.load 114 (.tmp 94),none):=by kernel_rfl
theorem lR:say kE 10=some (some 96,.call { callee:=.builtin .len,args:=#[.tmp 95],argTypes:=#[114] },none):=by kernel_rfl
theorem lS:say kE 11=some (some 97,.indexAddr 58 (.tmp 91) (.tmp 96),none):=by kernel_rfl
theorem lT:say kE 12=some (some 98,.load 9 (.tmp 97),none):=by kernel_rfl
theorem wd:say kE 13=some (some 99,.call { callee:=.value (.func 90),args:=#[.tmp 86,.tmp 87,.tmp 98],argTypes:=#[109,82,9] },none):=by kernel_rfl
def Vq11 (Qb C g ln N:Nat) (sa:Option Addr) (sc nc:Nat) (nm:ByteArray) (r:Nat→Value):Nat→Value
 | 0=>.pointer (some ⟨Qb,0,none⟩)
 | 1=>.pointer (some ⟨C,0,none⟩)
 | 2=>.pointer (some ⟨C,0,none⟩)
 | 3=>.pointer (some ⟨C,0,none⟩)
 | 4=>.pointer (some ⟨C,0,none⟩)
 | 5=>.slice (some ⟨g,0,none⟩) N nc
 | 6=>.pointer (some ⟨C,0,none⟩)
 | 7=>.pointer (some ⟨C,0,none⟩)
 | 8=>.pointer (some ⟨C,1,none⟩)
 | 9=>.slice sa ln sc
 | 10=>.int .i64 (ln:Int)
 | 11=>.pointer (some ⟨g,ln,none⟩)
 | 12=>.string nm
 | 13=>(r 1)
 | _=>undef
theorem regq11 (Qb C g ln N:Nat) (sa:Option Addr) (sc nc:Nat) (nm:ByteArray) (F0 F1:(Nat→Value)→World→Prop) (B:World→Prop)  (t0:Array Value) (wr:World) {Q:Exit→Act→World→Prop} (ht:t0.size=113) (h0:t0.getD 0 undef=.pointer (some ⟨Qb,0,none⟩)) (h1:t0.getD 1 undef=.pointer (some ⟨C,0,none⟩))
  (hln1:ln<N)
  (hb0:∀ r w,F0 r w→B w)
  (hc1:∀ r w,F0 r w→Calls Tryz.prog 90 #[.pointer (some ⟨Qb,0,none⟩),.pointer (some ⟨C,0,none⟩),.string nm] w fun e w'=>∃ u,e=.returned u∧F1 (ups r 1 u) w')
  (hl5:∀ w,B w→w.cell? ⟨C,0,none⟩=some (.slice (some ⟨g,0,none⟩) N nc))
  (hl9:∀ w,B w→w.cell? ⟨C,1,none⟩=some (.slice sa ln sc))
  (hl12:∀ w,B w→w.cell? ⟨g,ln,none⟩=some (.string nm))
  (hst0:∀ r,F0 r wr.drew)
  (hQ:∀ r w,F1 r w→Q .normal ⟨fold kE (Vq11 Qb C g ln N sa sc nc nm r) t0 14,[]⟩ w):(Code.region 11 kE true).wp Tryz.prog Q ⟨t0,[]⟩ wr:=by
 have hB:dstB kE t0.size=true:=by rw [ht];kernel_rfl
 have hBB:∀ r done w,MC F0 [] r done w→B w:=fun r done w h=>MC.base hb0 (by intro x h;cases h) h
 refine jL (by kernel_rfl) (IE kE (Vq11 Qb C g ln N sa sc nc nm) t0 (MC F0 [(13,F1)] )) (by kernel_rfl) ⟨(fun _=>undef),t0,rfl,⟨rfl,fun _ _=>rfl,fun _ _ _ _ _ h=>by cases h⟩,MC.start (hst0 _)⟩ ?_ ?_
 rotate_left 1
 ·rintro done a w ⟨r,t,rfl,hS,hM⟩ hall
  rw [hS.end hB hall,eJ]
  exact hQ r w (MC.get (hall 13 (by rw [eJ];decide)) [] (by simp) hM)
 ·rintro jz op done a w ho ⟨r,t,rfl,hS,hM⟩ hnd hdep hcl
  have e0:=hS.ol h0
  have e1:=hS.ol h1
  have hlt:jz<14:=by rw [← eJ];exact (ga ho).1
  match jz,hlt,ho,hnd,hdep with
  | 0,_,ho,hnd,hdep=>
   refine jM sf r hB ho hS (hM.step (by rfl)) fun hop=>?_
   unfold execOp;simp [hop,e0,Vq11,go_sem]
  | 1,_,ho,hnd,hdep=>
   refine jM sg r hB ho hS (hM.step (by rfl)) fun hop=>?_
   unfold execOp;simp [hop,e1,Vq11,go_sem]
  | 2,_,ho,hnd,hdep=>
   refine jM si r hB ho hS (hM.step (by rfl)) fun hop=>?_
   unfold execOp;simp [hop,e1,Vq11,go_sem]
  | 3,_,ho,hnd,hdep=>
   have x88:=hS.gt si ho hdep
   refine jM sj r hB ho hS (hM.step (by rfl)) fun hop=>?_
   unfold execOp;simp [hop,x88,Vq11,go_sem]
  | 4,_,ho,hnd,hdep=>
   have x89:=hS.gt sj ho hdep
   refine jM sl r hB ho hS (hM.step (by rfl)) fun hop=>?_
   unfold execOp;simp [hop,x89,Vq11,go_sem]
  | 5,_,ho,hnd,hdep=>
   have x90:=hS.gt sl ho hdep
   have ny11:done 11=false:=j8 (by kernel_rfl) hcl hnd
   have ny12:done 12=false:=j8 (by kernel_rfl) hcl ny11
   have ny13:done 13=false:=j8 (by kernel_rfl) hcl ny12
   have cz:=hl5 w (hBB _ _ _ (MC.cut [(13,F1)] (by simp [ny13]) hM))
   refine jM so r hB ho hS (hM.step (by rfl)) fun hop=>?_
   unfold execOp;simp [hop,x90,Vq11,cz,go_sem]
  | 6,_,ho,hnd,hdep=>
   refine jM sr r hB ho hS (hM.step (by rfl)) fun hop=>?_
   unfold execOp;simp [hop,e1,Vq11,go_sem]
  | 7,_,ho,hnd,hdep=>
   have x92:=hS.gt sr ho hdep
   refine jM ss r hB ho hS (hM.step (by rfl)) fun hop=>?_
   unfold execOp;simp [hop,x92,Vq11,go_sem]
  | 8,_,ho,hnd,hdep=>
   have x93:=hS.gt ss ho hdep
   refine jM su r hB ho hS (hM.step (by rfl)) fun hop=>?_
   unfold execOp;simp [hop,x93,Vq11,go_sem]
  | 9,_,ho,hnd,hdep=>
   have x94:=hS.gt su ho hdep
   have ny10:done 10=false:=j8 (by kernel_rfl) hcl hnd
   have ny11:done 11=false:=j8 (by kernel_rfl) hcl ny10
   have ny12:done 12=false:=j8 (by kernel_rfl) hcl ny11
   have ny13:done 13=false:=j8 (by kernel_rfl) hcl ny12
   have cz:=hl9 w (hBB _ _ _ (MC.cut [(13,F1)] (by simp [ny13]) hM))
   refine jM sw r hB ho hS (hM.step (by rfl)) fun hop=>?_
   unfold execOp;simp [hop,x94,Vq11,cz,go_sem]
  | 10,_,ho,hnd,hdep=>
   have x95:=hS.gt sw ho hdep
   refine jM lR r hB ho hS (hM.step (by rfl)) fun hop=>?_
   unfold execOp;simp [hop,x95,Vq11,go_sem]
  | 11,_,ho,hnd,hdep=>
   have x91:=hS.gt so ho hdep
   have x96:=hS.gt lR ho hdep
   refine jM lS r hB ho hS (hM.step (by rfl)) fun hop=>?_
   unfold execOp;simp [hop,x91,x96,Vq11,hln1,go_sem]
  | 12,_,ho,hnd,hdep=>
   have x97:=hS.gt lS ho hdep
   have ny13:done 13=false:=j8 (by kernel_rfl) hcl hnd
   have cz:=hl12 w (hBB _ _ _ (MC.cut [(13,F1)] (by simp [ny13]) hM))
   refine jM lT r hB ho hS (hM.step (by rfl)) fun hop=>?_
   unfold execOp;simp [hop,x97,Vq11,cz,go_sem]
  | 13,_,ho,hnd,hdep=>
   obtain ⟨hd,hop,hgd⟩:=jB wd ho
   have x86:=hS.gt sf ho hdep
   simp only [Vq11] at x86
   have x87:=hS.gt sg ho hdep
   simp only [Vq11] at x87
   have x98:=hS.gt lT ho hdep
   simp only [Vq11] at x98
   have hF:=MC.get0 [(13,F1)] (by simp [hnd]) hM
   refine jb r 90 #[.pointer (some ⟨Qb,0,none⟩),.pointer (some ⟨C,0,none⟩),.string nm] hB ho (j0 hgd) hd hS ?_ ?_
   ·skip
    unfold execOp
    simp only [hop]
    simp [x86,x87,x98,go_sem]
   ·skip
    refine (hc1 r w hF).mono ?_
    rintro e w' ⟨u,rfl,hF'⟩
    refine ⟨ups r 1 u,?_,fun k hk=>?_,MC.put hF' [] (by simp)⟩
    ·simp only [Vq11,jA]
    ·skip
     have q13:k≠13:=fun e=>by rw [e,hnd] at hk;cases hk
     unfold Vq11
     split<;>first | rfl | exact absurd rfl q13
theorem foldq11 (Qb C g ln N:Nat) (sa:Option Addr) (sc nc:Nat) (nm:ByteArray) (r:Nat→Value) (t0:Array Value):fold kE (Vq11 Qb C g ln N sa sc nc nm r) t0 14=((((((((((((((t0.setIfInBounds 86 (.pointer (some ⟨Qb,0,none⟩))).setIfInBounds 87 (.pointer (some ⟨C,0,none⟩))).setIfInBounds 88 (.pointer (some ⟨C,0,none⟩))).setIfInBounds 89 (.pointer (some ⟨C,0,none⟩))).setIfInBounds 90 (.pointer (some ⟨C,0,none⟩))).setIfInBounds 91 (.slice (some ⟨g,0,none⟩) N nc)).setIfInBounds 92 (.pointer (some ⟨C,0,none⟩))).setIfInBounds 93 (.pointer (some ⟨C,0,none⟩))).setIfInBounds 94 (.pointer (some ⟨C,1,none⟩))).setIfInBounds 95 (.slice sa ln sc)).setIfInBounds 96 (.int .i64 (ln:Int))).setIfInBounds 97 (.pointer (some ⟨g,ln,none⟩))).setIfInBounds 98 (.string nm)).setIfInBounds 99 ((r 1))):=by kernel_rfl
end Go.Proofs.YtdeanahpiigonaaGreatDoor
