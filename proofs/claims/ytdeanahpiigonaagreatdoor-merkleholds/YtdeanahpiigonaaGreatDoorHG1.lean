import Derived.Test.YtdeanahpiigonaaGreatDoorHF1
set_option maxRecDepth 100000
set_option maxHeartbeats 8000000
namespace Go.Proofs.YtdeanahpiigonaaGreatDoor
open Go.RowKit Hm
attribute [local go_sem] Oper.semAt_some
theorem wX:Ek 115 125 36:=⟨Tryz.underlying115,by decide,by decide,.agg z125.toArray,88,by rfl,by decide,by kernel_rfl⟩
theorem a0q:Ek 114 129 4:=⟨Tryz.underlying114,by decide,by decide,.agg z129.toArray,48,by rfl,by decide,by kernel_rfl⟩
theorem ClI.appSdL {c:Rq} {r:Pv} {C:Nat} {nv:Value} {cm:Cm} {sv dv:Value} {w W:World} (h:ClI C nv cm sv dv W) (hp:PvAt c r W) (hC:c.Q<C) (hk:Kp (c.in_ C) w W) (tyy:TypeId) (Z:Array Value) (d:Sd) (hZ:SdAt W (C+1) Z d) (hZs:Z.size=36) (hZ1:Z.all (·.oneCell')=true) (hl:cm.sides.length+1≤100000):
  ∃ u W',(Builtin.append_ #[115,115] tyy #[dv,.slice (some ⟨W.heap.size,0,none⟩) 1 1]).run Tryz.prog (W.alloc (.cells Z 125))=.ok u W'∧PvAt c r W'∧W'.heap[C]?=some (.cells (clc nv sv cm.value (cm.count:Int) cm.top dv).toArray 117 (0,0))∧SdL W' (C+1) u (cm.sides++[d])∧StL W' (C+1) sv cm.steps∧Kp (c.in_ C) w W'∧∀ (b:Nat) (cs:Array Value) (T:TypeId),W.heap[b]?=some (Obj.cells cs T (0,0))→T≠125→W'.heap[b]?=W.heap[b]?:=by
 obtain ⟨cs,q1,q2⟩:=h.sd
 have hCl:=h.lt
 obtain ⟨u,W',a1,a2,a3,a4⟩:=zy wX tyy Z hZs hZ1 q1 (by omega) (by rw [q2.len];omega) _ rfl
 have hne:∀ (b:Nat) (cs:Array Value) (T:TypeId),W.heap[b]?=some (Obj.cells cs T (0,0))→T≠125→W'.heap[b]?=W.heap[b]?:=fun b cs T q qT=>a3.block b (ga q).1 fun e=>by
  obtain ⟨cs',q'⟩:=OwL.ty q1 e.symm
  rw [q] at q'
  cases q'
  exact qT rfl
 have hlow:∀ b,b≤C→W'.heap[b]?=W.heap[b]?:=fun b hb=>a3.block b (by omega) fun e=>by have:=(q1.lt b e.symm).1;omega
 refine ⟨u,W',a1,hp.keep fun b q=>hlow b (by have:=q.2;omega),(hlow C (Nat.le_refl _)).trans h.at_,⟨cs++[Z],a2,(q2.mono fun a b q=>q.keep fun b cs _ q'=>hne b cs 22 q' (by decide)).snoc (hZ.keep fun b cs _ q'=>hne b cs 22 q' (by decide))⟩,h.st.keep fun b cs T _ q' hT=>hne b cs T q' (by rcases hT with rfl | rfl<;>decide),hk.trans (Kp.grown a3) fun b hb e=>.inr ?_,hne⟩
 have:=(q1.lt b e).1
 omega
theorem ClI.appStL {c:Rq} {r:Pv} {C:Nat} {nv:Value} {cm:Cm} {sv dv:Value} {w W:World} (h:ClI C nv cm sv dv W) (hp:PvAt c r W) (hC:c.Q<C) (hk:Kp (c.in_ C) w W) (tyy:TypeId) (Z:Array Value) (d:Sq) (hZ:StAt W (C+1) Z d) (hZs:Z.size=4) (hZ1:Z.all (·.oneCell')=true) (hl:cm.steps.length+1≤100000):
  ∃ u W',(Builtin.append_ #[114,114] tyy #[sv,.slice (some ⟨W.heap.size,0,none⟩) 1 1]).run Tryz.prog (W.alloc (.cells Z 129))=.ok u W'∧PvAt c r W'∧W'.heap[C]?=some (.cells (clc nv sv cm.value (cm.count:Int) cm.top dv).toArray 117 (0,0))∧StL W' (C+1) u (cm.steps++[d])∧SdL W' (C+1) dv cm.sides∧Kp (c.in_ C) w W'∧∀ (b:Nat) (cs:Array Value) (T:TypeId),W.heap[b]?=some (Obj.cells cs T (0,0))→T≠129→W'.heap[b]?=W.heap[b]?:=by
 obtain ⟨cs,q1,q2⟩:=h.st
 have hCl:=h.lt
 obtain ⟨u,W',a1,a2,a3,a4⟩:=zy a0q tyy Z hZs hZ1 q1 (by omega) (by rw [q2.len];omega) _ rfl
 have hne:∀ (b:Nat) (cs:Array Value) (T:TypeId),W.heap[b]?=some (Obj.cells cs T (0,0))→T≠129→W'.heap[b]?=W.heap[b]?:=fun b cs T q qT=>a3.block b (ga q).1 fun e=>by
  obtain ⟨cs',q'⟩:=OwL.ty q1 e.symm
  rw [q] at q'
  cases q'
  exact qT rfl
 have hlow:∀ b,b≤C→W'.heap[b]?=W.heap[b]?:=fun b hb=>a3.block b (by omega) fun e=>by have:=(q1.lt b e.symm).1;omega
 refine ⟨u,W',a1,hp.keep fun b q=>hlow b (by have:=q.2;omega),(hlow C (Nat.le_refl _)).trans h.at_,⟨cs++[Z],a2,(q2.mono fun a b q=>q.keep fun b cs _ q'=>hne b cs 22 q' (by decide)).snoc (hZ.keep fun b cs _ q'=>hne b cs 22 q' (by decide))⟩,h.sd.keep fun b cs T _ q' hT=>hne b cs T q' (by rcases hT with rfl | rfl<;>decide),hk.trans (Kp.grown a3) fun b hb e=>.inr ?_,hne⟩
 have:=(q1.lt b e).1
 omega
theorem SdAt.size {w:World} {lo:Nat} {c:Array Value} {d:Sd} (h:SdAt w lo c d):c.size=36:=by obtain ⟨sc,rfl,h1,h2,_⟩:=h;exact cJ h2 h1.size
theorem SdAt.one {w:World} {lo:Nat} {c:Array Value} {d:Sd} (h:SdAt w lo c d):c.all (·.oneCell')=true:=by obtain ⟨sc,rfl,h1,h2,_⟩:=h;exact eG _ _ _ h1.one
theorem SdAt.mono {w:World} {lo lo':Nat} {c:Array Value} {d:Sd} (h:SdAt w lo c d) (hl:lo'≤lo):SdAt w lo' c d:=by
 obtain ⟨sc,h0,h1,h2⟩:=h
 exact ⟨sc,h0,h1.mono hl,h2⟩
theorem SdAt.name {w:World} {lo:Nat} {c:Array Value} {d:Sd} (h:SdAt w lo c d):c[0]?=some (.string d.name):=by obtain ⟨sc,rfl,_⟩:=h;rfl
structure GI (c:Rq) (r:Pv) (C b:Nat) (nv:Value) (cm:Cm) (sv dv:Value) (w:World) (Y:Array Value) (d:Sd) (W:World):Prop where
 pv:PvAt c r W
 cl:ClI C nv cm sv dv W
 y:W.heap[b]?=some (.cells Y 125 (0,0))
 at_:SdAt W (C+1) Y d
 kp:Kp (c.in_ C) w W
theorem GI.up {c:Rq} {r:Pv} {C b:Nat} {nv:Value} {cm:Cm} {sv dv:Value} {w:World} {Y:Array Value} {d:Sd} {W W':World} (h:GI c r C b nv cm sv dv w Y d W) (hg:G W W'):GI c r C b nv cm sv dv w Y d W':=
 ⟨h.pv.up hg,h.cl.up hg,(hg.block b (ga h.y).1).trans h.y,h.at_.keep fun b _ _ q=>hg.block b (ga q).1,h.kp.trans (Kp.of (S:=c.in_ C) hg) fun _ _ e=>e⟩
theorem GI.kept {c:Rq} {r r':Pv} {C b:Nat} {nv:Value} {cm:Cm} {sv dv:Value} {w:World} {Y:Array Value} {d:Sd} {W W':World} (h:GI c r C b nv cm sv dv w Y d W) (hp:PvAt c r' W') (hk:Kp c.own W W') (hC:c.Q<C) (hb:C<b):GI c r' C b nv cm sv dv w Y d W':=
 ⟨hp,h.cl.kp hk hC,(hk.block b (ga h.y).1 fun e=>by have:=e.2;omega).trans h.y,h.at_.keep fun b _ hb q=>hk.block b (ga q).1 fun e=>by have:=e.2;omega,h.kp.trans hk fun _ _ e=>.inl e⟩
theorem GI.make {c:Rq} {r:Pv} {C b:Nat} {nv:Value} {cm:Cm} {sv dv:Value} {w:World} {Y:Array Value} {d:Sd} {W W1 W2:World} (hp:PvAt c r W) (hcl:ClI C nv cm sv dv W) (hk:Kp (c.in_ C) w W) (hsd:SdAt W (C+1) Y d) (hC:c.Q<C) (hb:W.heap.size=b) (hg:G W W1) (q1:Kp (fun x=>x=b) W1 W2) (q2:W2.heap[b]?=some (.cells Y 125 (0,0))):GI c r C b nv cm sv dv w Y d W2∧C<b:=by
 have n1:=hcl.lt
 have hs:=hg.size
 have hkk:∀ x,x<W.heap.size→W2.heap[x]?=W.heap[x]?:=fun x hx=>(q1.block x (by omega) (by omega)).trans (hg.block x hx)
 exact ⟨⟨hp.keep fun x q=>hkk x (by have:=q.2;omega),hcl.keep fun x _ h2=>hkk x h2,q2,hsd.keep fun x _ _ q=>hkk x (ga q).1,(hk.trans (Kp.of (S:=c.in_ C) hg) fun _ _ e=>e).trans q1 fun x _ e=>.inr (by omega)⟩,by omega⟩
noncomputable abbrev zG:Array Oper:=kS Tryz.f90 6
theorem lJ:zG.size=11:=by kernel_rfl
theorem a0r:say zG 0=some (some 42,.move (.tmp 1),none):=by kernel_rfl
theorem a0s:say zG 1=some (some 43,.move (.tmp 1),none):=by kernel_rfl
theorem a0t:say zG 2=some (some 44,.nilCheck (.tmp 43),none):=by kernel_rfl
theorem a0u:say zG 3=some (some 45,.fieldAddr 117 (.tmp 44) 5,none):=by kernel_rfl
theorem a0v:say zG 4=some (some 46,.load 115 (.tmp 45),none):=by kernel_rfl
theorem a0w:say zG 5=some (some 47,.load 125 (.tmp 7),none):=by kernel_rfl
theorem a0x:say zG 6=some (some 48,.buildSlice 115 1 #[(0,.tmp 47)],none):=by kernel_rfl
theorem a0y:say zG 7=some (some 49,.call { callee:=.builtin .append,args:=#[.tmp 46,.tmp 48],argTypes:=#[115,115] },none):=by kernel_rfl
theorem a0z:say zG 8=some (some 50,.nilCheck (.tmp 42),none):=by kernel_rfl
theorem a19:say zG 9=some (some 51,.fieldAddr 117 (.tmp 50) 5,none):=by kernel_rfl
theorem a1A:say zG 10=some (none,.store 115 (.tmp 51) (.tmp 49),none):=by kernel_rfl
def Vg6 (C _b:Nat) (dv:Value) (Y:Array Value) (r:Nat→Value):Nat→Value
 | 0=>.pointer (some ⟨C,0,none⟩)
 | 1=>.pointer (some ⟨C,0,none⟩)
 | 2=>.pointer (some ⟨C,0,none⟩)
 | 3=>.pointer (some ⟨C,70,none⟩)
 | 4=>dv
 | 5=>.agg Y
 | 6=>(r 1)
 | 7=>(r 2)
 | 8=>.pointer (some ⟨C,0,none⟩)
 | 9=>.pointer (some ⟨C,70,none⟩)
 | 10=>undef
 | _=>undef
theorem regg6 (C b:Nat) (dv:Value) (Y:Array Value) (F0 F1 F2 F3:(Nat→Value)→World→Prop) (B:World→Prop)  (t0:Array Value) (wr:World) {Q:Exit→Act→World→Prop} (ht:t0.size=81) (h1:t0.getD 1 undef=.pointer (some ⟨C,0,none⟩)) (h7:t0.getD 7 undef=.pointer (some ⟨b,0,none⟩))
  (hYs:Y.size=36)
  (hb0:∀ r w,F0 r w→B w) (hb1:∀ r w,F1 r w→B w)
  (hs1:∀ r w,F0 r w→Y.size=36∧F1 (ups r 1 (.slice (some ⟨w.heap.size,0,none⟩) 1 1)) (w.alloc (.cells Y 125)))
  (ha2:∀ r w,F1 r w→∃ u w',(Builtin.append_ #[115,115] 115 #[dv,r 1]).run Tryz.prog w=.ok u w'∧F2 (ups r 2 u) w')
  (hw3:∀ r w,F2 r w→(∃ o,w.cell? ⟨C,70,none⟩=some o)∧w.frozen? ⟨C,70,none⟩=false∧(∃ a n k,(r 2)=.slice a n k)∧F3 r (w.setCell ⟨C,70,none⟩ (r 2)))
  (hl4:∀ w,B w→w.cell? ⟨C,70,none⟩=some (dv))
  (hl5:∀ w,B w→Lies w b 0 Y)
  (hst0:∀ r,F0 r wr.drew)
  (hQ:∀ r w,F3 r w→Q .normal ⟨fold zG (Vg6 C b dv Y r) t0 11,[]⟩ w):(Code.region 6 zG true).wp Tryz.prog Q ⟨t0,[]⟩ wr:=by
 have hB:dstB zG t0.size=true:=by rw [ht];kernel_rfl
 have hBB:∀ r done w,MC F0 [(6,F1)] r done w→B w:=fun r done w h=>MC.base hb0 (by simp only [List.mem_cons,List.not_mem_nil,or_false];rintro x rfl;assumption) h
 refine jL (by kernel_rfl) (IE zG (Vg6 C b dv Y) t0 (MC F0 [(10,F3),(7,F2),(6,F1)] )) (by kernel_rfl) ⟨(fun _=>undef),t0,rfl,⟨rfl,fun _ _=>rfl,fun _ _ _ _ _ h=>by cases h⟩,MC.start (hst0 _)⟩ ?_ ?_
 rotate_left 1
 ·rintro done a w ⟨r,t,rfl,hS,hM⟩ hall
  rw [hS.end hB hall,lJ]
  exact hQ r w (MC.get (hall 10 (by rw [lJ];decide)) [] (by simp) hM)
 ·rintro jz op done a w ho ⟨r,t,rfl,hS,hM⟩ hnd hdep hcl
  have e1:=hS.ol h1
  have e7:=hS.ol h7
  have hlt:jz<11:=by rw [← lJ];exact (ga ho).1
  match jz,hlt,ho,hnd,hdep with
  | 0,_,ho,hnd,hdep=>
   refine jM a0r r hB ho hS (hM.step (by rfl)) fun hop=>?_
   unfold execOp;simp [hop,e1,Vg6,go_sem]
  | 1,_,ho,hnd,hdep=>
   refine jM a0s r hB ho hS (hM.step (by rfl)) fun hop=>?_
   unfold execOp;simp [hop,e1,Vg6,go_sem]
  | 2,_,ho,hnd,hdep=>
   have x43:=hS.gt a0s ho hdep
   refine jM a0t r hB ho hS (hM.step (by rfl)) fun hop=>?_
   unfold execOp;simp [hop,x43,Vg6,go_sem]
  | 3,_,ho,hnd,hdep=>
   have x44:=hS.gt a0t ho hdep
   refine jM a0u r hB ho hS (hM.step (by rfl)) fun hop=>?_
   unfold execOp;simp [hop,x44,Vg6,go_sem]
  | 4,_,ho,hnd,hdep=>
   have x45:=hS.gt a0u ho hdep
   have ny7:done 7=false:=j8 (by kernel_rfl) hcl hnd
   have ny10:done 10=false:=j8 (by kernel_rfl) hcl hnd
   have cz:=hl4 w (hBB _ _ _ (MC.cut [(10,F3),(7,F2)] (by simp [ny7,ny10]) hM))
   refine jM a0v r hB ho hS (hM.step (by rfl)) fun hop=>?_
   unfold execOp;simp [hop,x45,Vg6,cz,go_sem]
  | 5,_,ho,hnd,hdep=>
   have ny6:done 6=false:=j8 (by kernel_rfl) hcl hnd
   have ny7:done 7=false:=j8 (by kernel_rfl) hcl ny6
   have ny10:done 10=false:=j8 (by kernel_rfl) hcl hnd
   refine jM a0w r hB ho hS (hM.step (by rfl)) fun hop=>?_
   exact jQ 125 _ hop b 0 (by show t.getD 7 undef=_;rw [gd];exact e7) Y _ (hl5 w (hBB _ _ _ (MC.cut [(10,F3),(7,F2)] (by simp [ny7,ny10]) hM))) zb rfl (by rw [zF,hYs])
  | 6,_,ho,hnd,hdep=>
   obtain ⟨hd,hop,hgd⟩:=jB a0x ho
   have x47:=hS.gt a0w ho hdep
   simp only [Vg6] at x47
   have ny7:done 7=false:=j8 (by kernel_rfl) hcl hnd
   have ny10:done 10=false:=j8 (by kernel_rfl) hcl hnd
   have hF:=MC.get0 [(10,F3),(7,F2),(6,F1)] (by simp [hnd,ny7,ny10]) hM
   refine qM r (ups r 1 (.slice (some ⟨w.heap.size,0,none⟩) 1 1)) (w.alloc (.cells Y 125)) hB ho (j0 hgd) hd hS (fun k hk=>?_) (MC.put (hs1 r w hF).2 [(10,F3),(7,F2)] (by simp [ny7,ny10])) ?_
   ·skip
    have q6:k≠6:=fun e=>by rw [e,hnd] at hk;cases hk
    unfold Vg6
    split<;>first | rfl | exact absurd rfl q6
   ·show _=Result.ok (Next.value (Vg6 C b dv Y (ups r 1 (.slice (some ⟨w.heap.size,0,none⟩) 1 1)) 6)) _
    simp only [Vg6,jA]
    exact jf wX _ hop (.agg Y) Y (by show t.getD 47 undef=_;rw [gd];exact x47) rfl (hs1 r w hF).1 w _ rfl
  | 7,_,ho,hnd,hdep=>
   obtain ⟨hd,hop,hgd⟩:=jB a0y ho
   have x46:=hS.gt a0v ho hdep
   simp only [Vg6] at x46
   have x48:=hS.gt a0x ho hdep
   simp only [Vg6] at x48
   have ny10:done 10=false:=j8 (by kernel_rfl) hcl hnd
   have a6:done 6=true:=jy (j:=6) (by kernel_rfl) ho hdep
   have hF:=MC.get a6 [(10,F3),(7,F2)] (by simp [hnd,ny10]) hM
   obtain ⟨u9,w9,hr9,hF9⟩:=ha2 r w hF
   have ht9:op.type=115:=by have:=congrArg (·.map (·.type)) ho;simpa using this.symm.trans (show _=some 115 from by kernel_rfl)
   refine qM r (ups r 2 u9) w9 hB ho (j0 hgd) hd hS (fun k hk=>?_) (MC.put hF9 [(10,F3)] (by simp [ny10])) ?_
   ·skip
    have q7:k≠7:=fun e=>by rw [e,hnd] at hk;cases hk
    unfold Vg6
    split<;>first | rfl | exact absurd rfl q7
   ·show _=Result.ok (Next.value (Vg6 C b dv Y (ups r 2 u9) 7)) _
    simp only [Vg6,jA]
    exact qc (a:=⟨t,[]⟩) (v:=dv) (src:=r 1) (v':=u9) hop (by show t.getD 46 undef=_;rw [gd];exact x46) (by show t.getD 48 undef=_;rw [gd];exact x48) (by rw [ht9];exact hr9)
  | 8,_,ho,hnd,hdep=>
   have x42:=hS.gt a0r ho hdep
   refine jM a0z r hB ho hS (hM.step (by rfl)) fun hop=>?_
   unfold execOp;simp [hop,x42,Vg6,go_sem]
  | 9,_,ho,hnd,hdep=>
   have x50:=hS.gt a0z ho hdep
   refine jM a19 r hB ho hS (hM.step (by rfl)) fun hop=>?_
   unfold execOp;simp [hop,x50,Vg6,go_sem]
  | 10,_,ho,hnd,hdep=>
   obtain ⟨hd,hop,hgd⟩:=jB a1A ho
   have x51:=hS.gt a19 ho hdep
   simp only [Vg6] at x51
   have x49:=hS.gt a0y ho hdep
   simp only [Vg6] at x49
   have a7:done 7=true:=jy (j:=7) (by kernel_rfl) ho hdep
   have hF:=MC.get a7 [(10,F3)] (by simp [hnd]) hM
   obtain ⟨⟨o9,ho9⟩,hf9,⟨a9,n9,k9,e9⟩,hF9⟩:=hw3 r w hF
   refine qh (w':=w.setCell ⟨C,70,none⟩ (r 2)) r ho (j0 hgd) hd hS (MC.put hF9 [] (by simp)) ?_
   unfold execOp;simp [hop,x51,x49,ho9,hf9,e9,go_sem]
theorem foldg6 (C b:Nat) (dv:Value) (Y:Array Value) (r:Nat→Value) (t0:Array Value):fold zG (Vg6 C b dv Y r) t0 11=((((((((((t0.setIfInBounds 42 (.pointer (some ⟨C,0,none⟩))).setIfInBounds 43 (.pointer (some ⟨C,0,none⟩))).setIfInBounds 44 (.pointer (some ⟨C,0,none⟩))).setIfInBounds 45 (.pointer (some ⟨C,70,none⟩))).setIfInBounds 46 (dv)).setIfInBounds 47 (.agg Y)).setIfInBounds 48 ((r 1))).setIfInBounds 49 ((r 2))).setIfInBounds 50 (.pointer (some ⟨C,0,none⟩))).setIfInBounds 51 (.pointer (some ⟨C,70,none⟩))):=by kernel_rfl
noncomputable abbrev ke:Array Oper:=kS Tryz.f90 10
theorem eI:ke.size=11:=by kernel_rfl
theorem sJ:say ke 0=some (some 71,.move (.tmp 1),none):=by kernel_rfl
theorem sK:say ke 1=some (some 72,.move (.tmp 1),none):=by kernel_rfl
theorem sL:say ke 2=some (some 73,.nilCheck (.tmp 72),none):=by kernel_rfl
theorem sM:say ke 3=some (some 74,.fieldAddr 117 (.tmp 73) 5,none):=by kernel_rfl
theorem sN:say ke 4=some (some 75,.load 115 (.tmp 74),none):=by kernel_rfl
theorem sO:say ke 5=some (some 76,.load 125 (.tmp 8),none):=by kernel_rfl
theorem sP:say ke 6=some (some 77,.buildSlice 115 1 #[(0,.tmp 76)],none):=by kernel_rfl
theorem sQ:say ke 7=some (some 78,.call { callee:=.builtin .append,args:=#[.tmp 75,.tmp 77],argTypes:=#[115,115] },none):=by kernel_rfl
theorem sR:say ke 8=some (some 79,.nilCheck (.tmp 71),none):=by kernel_rfl
theorem sS:say ke 9=some (some 80,.fieldAddr 117 (.tmp 79) 5,none):=by kernel_rfl
theorem wY:say ke 10=some (none,.store 115 (.tmp 80) (.tmp 78),none):=by kernel_rfl
def Vg10 (C _b:Nat) (dv:Value) (Y:Array Value) (r:Nat→Value):Nat→Value
 | 0=>.pointer (some ⟨C,0,none⟩)
 | 1=>.pointer (some ⟨C,0,none⟩)
 | 2=>.pointer (some ⟨C,0,none⟩)
 | 3=>.pointer (some ⟨C,70,none⟩)
 | 4=>dv
 | 5=>.agg Y
 | 6=>(r 1)
 | 7=>(r 2)
 | 8=>.pointer (some ⟨C,0,none⟩)
 | 9=>.pointer (some ⟨C,70,none⟩)
 | 10=>undef
 | _=>undef
theorem sU (C b:Nat) (dv:Value) (Y:Array Value) (F0 F1 F2 F3:(Nat→Value)→World→Prop) (B:World→Prop)  (t0:Array Value) (wr:World) {Q:Exit→Act→World→Prop} (ht:t0.size=81) (h1:t0.getD 1 undef=.pointer (some ⟨C,0,none⟩)) (h8:t0.getD 8 undef=.pointer (some ⟨b,0,none⟩))
  (hYs:Y.size=36)
  (hb0:∀ r w,F0 r w→B w) (hb1:∀ r w,F1 r w→B w)
  (hs1:∀ r w,F0 r w→Y.size=36∧F1 (ups r 1 (.slice (some ⟨w.heap.size,0,none⟩) 1 1)) (w.alloc (.cells Y 125)))
  (ha2:∀ r w,F1 r w→∃ u w',(Builtin.append_ #[115,115] 115 #[dv,r 1]).run Tryz.prog w=.ok u w'∧F2 (ups r 2 u) w')
  (hw3:∀ r w,F2 r w→(∃ o,w.cell? ⟨C,70,none⟩=some o)∧w.frozen? ⟨C,70,none⟩=false∧(∃ a n k,(r 2)=.slice a n k)∧F3 r (w.setCell ⟨C,70,none⟩ (r 2)))
  (hl4:∀ w,B w→w.cell? ⟨C,70,none⟩=some (dv))
  (hl5:∀ w,B w→Lies w b 0 Y)
  (hst0:∀ r,F0 r wr.drew)
  (hQ:∀ r w,F3 r w→Q .normal ⟨fold ke (Vg10 C b dv Y r) t0 11,[]⟩ w):(Code.region 10 ke true).wp Tryz.prog Q ⟨t0,[]⟩ wr:=by
 have hB:dstB ke t0.size=true:=by rw [ht];kernel_rfl
 have hBB:∀ r done w,MC F0 [(6,F1)] r done w→B w:=fun r done w h=>MC.base hb0 (by simp only [List.mem_cons,List.not_mem_nil,or_false];rintro x rfl;assumption) h
 refine jL (by kernel_rfl) (IE ke (Vg10 C b dv Y) t0 (MC F0 [(10,F3),(7,F2),(6,F1)] )) (by kernel_rfl) ⟨(fun _=>undef),t0,rfl,⟨rfl,fun _ _=>rfl,fun _ _ _ _ _ h=>by cases h⟩,MC.start (hst0 _)⟩ ?_ ?_
 rotate_left 1
 ·rintro done a w ⟨r,t,rfl,hS,hM⟩ hall
  rw [hS.end hB hall,eI]
  exact hQ r w (MC.get (hall 10 (by rw [eI];decide)) [] (by simp) hM)
 ·rintro jz op done a w ho ⟨r,t,rfl,hS,hM⟩ hnd hdep hcl
  have e1:=hS.ol h1
  have e8:=hS.ol h8
  have hlt:jz<11:=by rw [← eI];exact (ga ho).1
  match jz,hlt,ho,hnd,hdep with
  | 0,_,ho,hnd,hdep=>
   refine jM sJ r hB ho hS (hM.step (by rfl)) fun hop=>?_
   unfold execOp;simp [hop,e1,Vg10,go_sem]
  | 1,_,ho,hnd,hdep=>
   refine jM sK r hB ho hS (hM.step (by rfl)) fun hop=>?_
   unfold execOp;simp [hop,e1,Vg10,go_sem]
  | 2,_,ho,hnd,hdep=>
   have x72:=hS.gt sK ho hdep
   refine jM sL r hB ho hS (hM.step (by rfl)) fun hop=>?_
   unfold execOp;simp [hop,x72,Vg10,go_sem]
  | 3,_,ho,hnd,hdep=>
   have x73:=hS.gt sL ho hdep
   refine jM sM r hB ho hS (hM.step (by rfl)) fun hop=>?_
   unfold execOp;simp [hop,x73,Vg10,go_sem]
  | 4,_,ho,hnd,hdep=>
   have x74:=hS.gt sM ho hdep
   have ny7:done 7=false:=j8 (by kernel_rfl) hcl hnd
   have ny10:done 10=false:=j8 (by kernel_rfl) hcl hnd
   have cz:=hl4 w (hBB _ _ _ (MC.cut [(10,F3),(7,F2)] (by simp [ny7,ny10]) hM))
   refine jM sN r hB ho hS (hM.step (by rfl)) fun hop=>?_
   unfold execOp;simp [hop,x74,Vg10,cz,go_sem]
  | 5,_,ho,hnd,hdep=>
   have ny6:done 6=false:=j8 (by kernel_rfl) hcl hnd
   have ny7:done 7=false:=j8 (by kernel_rfl) hcl ny6
   have ny10:done 10=false:=j8 (by kernel_rfl) hcl hnd
   refine jM sO r hB ho hS (hM.step (by rfl)) fun hop=>?_
   exact jQ 125 _ hop b 0 (by show t.getD 8 undef=_;rw [gd];exact e8) Y _ (hl5 w (hBB _ _ _ (MC.cut [(10,F3),(7,F2)] (by simp [ny7,ny10]) hM))) zb rfl (by rw [zF,hYs])
  | 6,_,ho,hnd,hdep=>
   obtain ⟨hd,hop,hgd⟩:=jB sP ho
   have x76:=hS.gt sO ho hdep
   simp only [Vg10] at x76
   have ny7:done 7=false:=j8 (by kernel_rfl) hcl hnd
   have ny10:done 10=false:=j8 (by kernel_rfl) hcl hnd
   have hF:=MC.get0 [(10,F3),(7,F2),(6,F1)] (by simp [hnd,ny7,ny10]) hM
   refine qM r (ups r 1 (.slice (some ⟨w.heap.size,0,none⟩) 1 1)) (w.alloc (.cells Y 125)) hB ho (j0 hgd) hd hS (fun k hk=>?_) (MC.put (hs1 r w hF).2 [(10,F3),(7,F2)] (by simp [ny7,ny10])) ?_
   ·skip
    have q6:k≠6:=fun e=>by rw [e,hnd] at hk;cases hk
    unfold Vg10
    split<;>first | rfl | exact absurd rfl q6
   ·show _=Result.ok (Next.value (Vg10 C b dv Y (ups r 1 (.slice (some ⟨w.heap.size,0,none⟩) 1 1)) 6)) _
    simp only [Vg10,jA]
    exact jf wX _ hop (.agg Y) Y (by show t.getD 76 undef=_;rw [gd];exact x76) rfl (hs1 r w hF).1 w _ rfl
  | 7,_,ho,hnd,hdep=>
   obtain ⟨hd,hop,hgd⟩:=jB sQ ho
   have x75:=hS.gt sN ho hdep
   simp only [Vg10] at x75
   have x77:=hS.gt sP ho hdep
   simp only [Vg10] at x77
   have ny10:done 10=false:=j8 (by kernel_rfl) hcl hnd
   have a6:done 6=true:=jy (j:=6) (by kernel_rfl) ho hdep
   have hF:=MC.get a6 [(10,F3),(7,F2)] (by simp [hnd,ny10]) hM
   obtain ⟨u9,w9,hr9,hF9⟩:=ha2 r w hF
   have ht9:op.type=115:=by have:=congrArg (·.map (·.type)) ho;simpa using this.symm.trans (show _=some 115 from by kernel_rfl)
   refine qM r (ups r 2 u9) w9 hB ho (j0 hgd) hd hS (fun k hk=>?_) (MC.put hF9 [(10,F3)] (by simp [ny10])) ?_
   ·skip
    have q7:k≠7:=fun e=>by rw [e,hnd] at hk;cases hk
    unfold Vg10
    split<;>first | rfl | exact absurd rfl q7
   ·show _=Result.ok (Next.value (Vg10 C b dv Y (ups r 2 u9) 7)) _
    simp only [Vg10,jA]
    exact qc (a:=⟨t,[]⟩) (v:=dv) (src:=r 1) (v':=u9) hop (by show t.getD 75 undef=_;rw [gd];exact x75) (by show t.getD 77 undef=_;rw [gd];exact x77) (by rw [ht9];exact hr9)
  | 8,_,ho,hnd,hdep=>
   have x71:=hS.gt sJ ho hdep
   refine jM sR r hB ho hS (hM.step (by rfl)) fun hop=>?_
   unfold execOp;simp [hop,x71,Vg10,go_sem]
  | 9,_,ho,hnd,hdep=>
   have x79:=hS.gt sR ho hdep
   refine jM sS r hB ho hS (hM.step (by rfl)) fun hop=>?_
   unfold execOp;simp [hop,x79,Vg10,go_sem]
  | 10,_,ho,hnd,hdep=>
   obtain ⟨hd,hop,hgd⟩:=jB wY ho
   have x80:=hS.gt sS ho hdep
   simp only [Vg10] at x80
   have x78:=hS.gt sQ ho hdep
   simp only [Vg10] at x78
   have a7:done 7=true:=jy (j:=7) (by kernel_rfl) ho hdep
   have hF:=MC.get a7 [(10,F3)] (by simp [hnd]) hM
   obtain ⟨⟨o9,ho9⟩,hf9,⟨a9,n9,k9,e9⟩,hF9⟩:=hw3 r w hF
   refine qh (w':=w.setCell ⟨C,70,none⟩ (r 2)) r ho (j0 hgd) hd hS (MC.put hF9 [] (by simp)) ?_
   unfold execOp;simp [hop,x80,x78,ho9,hf9,e9,go_sem]
theorem lK (C b:Nat) (dv:Value) (Y:Array Value) (r:Nat→Value) (t0:Array Value):fold ke (Vg10 C b dv Y r) t0 11=((((((((((t0.setIfInBounds 71 (.pointer (some ⟨C,0,none⟩))).setIfInBounds 72 (.pointer (some ⟨C,0,none⟩))).setIfInBounds 73 (.pointer (some ⟨C,0,none⟩))).setIfInBounds 74 (.pointer (some ⟨C,70,none⟩))).setIfInBounds 75 (dv)).setIfInBounds 76 (.agg Y)).setIfInBounds 77 ((r 1))).setIfInBounds 78 ((r 2))).setIfInBounds 79 (.pointer (some ⟨C,0,none⟩))).setIfInBounds 80 (.pointer (some ⟨C,70,none⟩))):=by kernel_rfl
theorem lL {o:Oper} {a:Act} (x y:Operand) (ho:o.op=.binOp .lss 9 x y 9) (p q:ByteArray) (hx:a.eval x=.string p) (hy:a.eval y=.string q) (b:Bool) (hb:ltS p q=b) (w:World):(execOp a.eval o).run Tryz.prog w=.ok (.value (.bool b)) w:=by
 subst hb
 unfold execOp
 simp only [ho,hx,hy]
 simp [ltS,go_sem]
theorem dH {o:Oper} {a:Act} (x y:Operand) (ho:o.op=.binOp .gtr 9 x y 9) (p q:ByteArray) (hx:a.eval x=.string p) (hy:a.eval y=.string q) (b:Bool) (hb:gtS p q=b) (w:World):(execOp a.eval o).run Tryz.prog w=.ok (.value (.bool b)) w:=by
 subst hb
 unfold execOp
 simp only [ho,hx,hy]
 simp [gtS,go_sem]
theorem wZ {c:Rq} {r:Pv} {w:World} (h:PvAt c r w) (C:Nat) (hC:c.Q<C) (nv sv dv:Value) (cm:Cm) (hcl:ClI C nv cm sv dv w) (hsd:cm.sides=[]) (name:ByteArray):
  Calls Tryz.prog 90 #[.pointer (some ⟨c.Q,0,none⟩),.pointer (some ⟨C,0,none⟩),.string name] w fun e w'=>e=.returned (.tuple #[])∧PvAt c (gapP c.l name cm r).2 w'∧(∃ dv',ClI C nv (gapP c.l name cm r).1 sv dv' w')∧Kp (c.in_ C) w w':=by
 have hQ:=h.Qlt
 have hCl:=hcl.lt
 obtain ⟨stp,val,cnt,top,sds⟩:=cm
 simp only at hsd
 subst hsd
 obtain ⟨da,dc,hdv⟩:=hcl.sd.form
 subst hdv
 have htop:top.length=32:=hcl.tl
 have HI:=hid (⟨h,hcl⟩:_∧_)
 clear h hcl
 obtain ⟨GP,hGP⟩:∃ GP,gapP c.l name ⟨stp,val,cnt,top,[]⟩ r=GP:=⟨_,rfl⟩
 rw [hGP]
 unfold gapP at hGP
 simp only at hGP
 have C1:Hid (∀ W,PvAt c r W→Calls Tryz.prog 109 #[.pointer (some ⟨c.Q,0,none⟩),.int .i64 8] W fun e w'=>e=.returned (.int .i64 ((numP c.l 8 r).1:Nat))∧PvAt c (numP c.l 8 r).2 w'∧Kp c.own W w'):=fun W q=>qE q 8 8 rfl (by decide)
 generalize numP c.l 8 r=A at *
 obtain ⟨md,rA⟩:=A
 simp only at C1 hGP
 have C2:Hid (∀ W,PvAt c rA W→Calls Tryz.prog 109 #[.pointer (some ⟨c.Q,0,none⟩),.int .i64 1048576] W fun e w'=>e=.returned (.int .i64 ((numP c.l 1048576 rA).1:Nat))∧PvAt c (numP c.l 1048576 rA).2 w'∧Kp c.own W w'):=fun W q=>qE q 1048576 1048576 rfl (by decide)
 have l2:=qt c.l rA 1048576
 generalize numP c.l 1048576 rA=A at *
 obtain ⟨n,rB⟩:=A
 simp only at C2 l2 hGP
 have C3:Hid (∀ W,PvAt c rB W→Calls Tryz.prog 109 #[.pointer (some ⟨c.Q,0,none⟩),.int .i64 (n:Int)] W fun e w'=>e=.returned (.int .i64 ((numP c.l n rB).1:Nat))∧PvAt c (numP c.l n rB).2 w'∧Kp c.own W w'):=fun W q=>za q n (by omega)
 have l3:=qt c.l rB n
 generalize numP c.l n rB=A at *
 obtain ⟨k,rC⟩:=A
 simp only at C3 l3 hGP
 unfold gapS at hGP
 simp only at hGP
 obtain ⟨VX,hVX⟩:∃ VX:Array Value,VX=(vx (mkV 1 (md:Int) 0 j7)).toArray:=⟨_,rfl⟩
 have HV:Hid (VX.size=35∧VX.all (·.oneCell')=true∧VX.toList=vx (mkV 1 (md:Int) 0 j7)∧∀ W,(Instr.build 24 #[(0,.int .i64 1),(1,.int .i64 (md:Int))]).run Tryz.prog W=.ok (.agg VX) W):=by subst hVX;exact ⟨jx _,eH _,by simp,fh 1 (md:Int)⟩
 clear hVX
 have CM:Hid (∀ (r:Pv) b W,PvAt c r W→Calls Tryz.prog 112 #[.pointer (some ⟨c.Q,0,none⟩),.bool b] W fun e w'=>e=.returned (.tuple #[])∧PvAt c (qd b r) w'∧Kp c.own W w'):=fun r b W q=>aP q b
 obtain ⟨V1,hV1⟩:∃ V1,mkV 1 (md:Int) 0 j7=V1:=⟨_,rfl⟩
 rw [hV1] at HV hGP
 clear hV1
 have HGP:=hid hGP
 clear hGP
 go_enter Tryz.func90,Tryz.ntmps90
 go_upto_region 3 with (first
  | ((with_reducible refine qG 11 109 #[.pointer (some ⟨c.Q,0,none⟩),.int .i64 8] (fun v w'=>v=.int .i64 (md:Nat)∧PvAt c rA w'∧Kp c.own w w') ?_ ?_ ?_ ?_ ?_);rfl;kernel_rfl;(unfold execOp;simp [go_sem]);exact ((C1.o _ HI.o.1).mono fun e w' z=>⟨_,z.1,rfl,z.2⟩);rintro v w1 ⟨rfl,p1,p2⟩;have H1:Hid (PvAt c rA w1∧ClI C nv ⟨stp,val,cnt,top,[]⟩ sv (.slice da 0 dc) w1∧Kp (c.in_ C) w w1):=⟨p1,HI.o.2.kp p2 hC,p2.mono fun _ _ e=>Or.inl e⟩;clear p1 p2)
  | ((with_reducible refine jT 12 (.agg VX) w1 ?_ ?_ ?_ ?_);rfl;kernel_rfl;exact lA 24 0 1 (.const (.int .i64 1)) (.tmp 11) rfl (.int .i64 1) (.int .i64 (md:Int)) rfl rfl VX (HV.o.2.2.2 _))
  | ((with_reducible refine aN 24 (.tmp 14) (.tmp 12) C 2 VX 117 (clc nv sv val (cnt:Int) top (.slice da 0 dc)) ?_ ?_ ?_ ?_ ?_ ?_ ?_ ?_ ?_ ?_);rfl;rfl;kernel_rfl;rfl;rfl;exact H1.o.2.1.at_;exact (by rw [HV.o.1,yW _ _ _ _ _ _ H1.o.2.1.tl];decide);exact (by rw [qU,HV.o.1]);exact HV.o.2.1;intro w2 H2;have V2:Hid (PvAt c rA w2∧ClI C nv ⟨stp,V1,cnt,top,[]⟩ sv (.slice da 0 dc) w2∧Kp (c.in_ C) w w2):=⟨H1.o.1.kp H2.o.1 (fun b e q=>by have:=q.2;omega),H1.o.2.1.re H2.o.1 rfl rfl H1.o.2.1.tl (by rw [H2.o.2.1,HV.o.2.2.1,xK]),H1.o.2.2.trans H2.o.1 (fun b _ e=>Or.inr (by omega))⟩)
  | ((with_reducible refine qG 17 109 #[.pointer (some ⟨c.Q,0,none⟩),.int .i64 1048576] (fun v w'=>v=.int .i64 (n:Nat)∧PvAt c rB w'∧Kp c.own w2 w') ?_ ?_ ?_ ?_ ?_);rfl;kernel_rfl;(unfold execOp;simp [go_sem]);exact ((C2.o _ V2.o.1).mono fun e w' z=>⟨_,z.1,rfl,z.2⟩);rintro v w3 ⟨rfl,p1,p2⟩;have H3:Hid (PvAt c rB w3∧ClI C nv ⟨stp,V1,cnt,top,[]⟩ sv (.slice da 0 dc) w3∧Kp (c.in_ C) w w3):=⟨p1,V2.o.2.1.kp p2 hC,V2.o.2.2.trans p2 (fun _ _ e=>Or.inl e)⟩;clear p1 p2)
  | ((with_reducible refine xP 3 (.tmp 19) (.tmp 17) C 37 (.int .i64 (n:Int)) 117 (clc nv sv V1 (cnt:Int) top (.slice da 0 dc)).toArray ?_ ?_ ?_ ?_ ?_ ?_);rfl;rfl;kernel_rfl;(have hc9:=(show w3.cell? ⟨C,37,none⟩=some _ by rw [j9 H3.o.2.1.at_];exact yA _ _ _ _ _ _);have hf9:=(show w3.frozen? ⟨C,37,none⟩=false by simp [World.frozen?,H3.o.2.1.at_]);unfold execOp;simp [hc9,hf9,go_sem]);exact H3.o.2.1.at_;intro w4 H4;have V4:Hid (PvAt c rB w4∧ClI C nv (⟨stp,V1,n,top,[]⟩:Cm) sv (.slice da 0 dc) w4∧Kp (c.in_ C) w w4):=⟨H3.o.1.kp H4.o.1 (fun b e q=>by have:=q.2;omega),H3.o.2.1.re H4.o.1 rfl rfl H3.o.2.1.tl (by rw [H4.o.2.1];exact congrArg (fun a=>some (Obj.cells a 117 (0,0))) (aa _ _ _ _ _ _ _)),H3.o.2.2.trans H4.o.1 (fun b _ e=>Or.inr (by omega))⟩;have hz4:w4.cell? ⟨C,37,none⟩=some (.int .i64 (n:Int)):=(by rw [j9 V4.o.2.1.at_];exact yA _ _ _ _ _ _))
  | ((with_reducible refine qG 25 109 #[.pointer (some ⟨c.Q,0,none⟩),.int .i64 (n:Int)] (fun v w'=>v=.int .i64 (k:Nat)∧PvAt c rC w'∧Kp c.own w4 w') ?_ ?_ ?_ ?_ ?_);rfl;kernel_rfl;(unfold execOp;simp [go_sem]);exact ((C3.o _ V4.o.1).mono fun e w' z=>⟨_,z.1,rfl,z.2⟩);rintro v w5 ⟨rfl,p1,p2⟩;have V5:Hid (PvAt c rC w5∧ClI C nv (⟨stp,V1,n,top,[]⟩:Cm) sv (.slice da 0 dc) w5∧Kp (c.in_ C) w w5):=⟨p1,V4.o.2.1.kp p2 hC,V4.o.2.2.trans p2 (fun _ _ e=>Or.inl e)⟩;clear p1 p2;have hz5:w5.cell? ⟨C,37,none⟩=some (.int .i64 (n:Int)):=(by rw [j9 V5.o.2.1.at_];exact yA _ _ _ _ _ _)))
 by_cases hk0:0<k
 ·have hGP:=HGP.o
  clear HGP
  rw [if_pos hk0] at hGP
  have CS1:Hid (∀ W,PvAt c rC W→Calls Tryz.prog 113 #[.pointer (some ⟨c.Q,0,none⟩),.int .i64 (n:Int),.int .i64 ((k-1:Nat):Int)] W fun e w'=>∃ cs,e=.returned (.agg cs)∧SdAt w' W.heap.size cs (qn c.l n (k-1) rC).1∧PvAt c (qn c.l n (k-1) rC).2 w'∧Kp c.own W w'):=fun W q=>cM q n (k-1) l2 (by omega)
  generalize qn c.l n (k-1) rC=A at *
  obtain ⟨d1,rD⟩:=A
  simp only at CS1 hGP
  obtain ⟨b1,hb1⟩:∃ b1,ltS d1.name name=b1:=⟨_,rfl⟩
  rw [hb1] at hGP
  have HB1:=hid hb1
  clear hb1
  obtain ⟨rE,hrE⟩:∃ rE,qd b1 rD=rE:=⟨_,rfl⟩
  rw [hrE] at hGP
  have HE1:=hid hrE
  clear hrE
  have hk1:(k:Int)-1=((k-1:Nat):Int):=by omega
  have hk0I:(0:Int)<k:=by omega
  have HGP:=hid hGP
  clear hGP
  go_upto_region 6 with (first
   | ((with_reducible refine qG 35 113 #[.pointer (some ⟨c.Q,0,none⟩),.int .i64 (n:Int),.int .i64 (k-1:Nat)] (fun v w'=>∃ cs,v=.agg cs∧SdAt w' w5.heap.size cs d1∧PvAt c rD w'∧Kp c.own w5 w') ?_ ?_ ?_ ?_ ?_);rfl;kernel_rfl;(unfold execOp;simp [go_sem]);exact ((CS1.o _ V5.o.1).mono fun e w' z=>(by obtain ⟨cs,z1,z2⟩:=z;exact ⟨_,z1,cs,rfl,z2⟩));rintro v w6 ⟨Y6,rfl,p0,p1,p2⟩;have H6:Hid (PvAt c rD w6∧ClI C nv (⟨stp,V1,n,top,[]⟩:Cm) sv (.slice da 0 dc) w6∧Kp (c.in_ C) w w6∧SdAt w6 (C+1) Y6 d1):=⟨p1,V5.o.2.1.kp p2 hC,V5.o.2.2.trans p2 (fun _ _ e=>Or.inl e),p0.mono (by have:=V5.o.2.1.lt;omega)⟩;clear p0 p1 p2)
   | ((with_reducible refine qC 7 125 z125.toArray ?_ ?_ ?_ ?_ ?_);rfl;rfl;kernel_rfl;exact zx;intro w7 b7 H7)
   | ((with_reducible refine qj 125 (.tmp 7) (.tmp 35) b7 Y6 z125.toArray ?_ ?_ ?_ ?_ ?_ ?_ ?_ ?_ ?_ ?_);rfl;rfl;kernel_rfl;rfl;rfl;exact H7.o.2.2.1;exact (by rw [zF,H6.o.2.2.2.size]);exact (by rw [H6.o.2.2.2.size];rfl);exact H6.o.2.2.2.one;intro w8 H8;have G6:Hid (GI c rD C b7 nv (⟨stp,V1,n,top,[]⟩:Cm) sv (.slice da 0 dc) w Y6 d1 w8∧C<b7):=GI.make H6.o.1 H6.o.2.1 H6.o.2.2.1 H6.o.2.2.2 hC H7.o.1 H7.o.2.1 H8.o.1 H8.o.2.1;have hy6:w8.cell? ⟨b7,0,none⟩=some (.string d1.name):=(by rw [j9 G6.o.1.y];exact G6.o.1.at_.name))
   | ((with_reducible refine jT 40 (.bool b1) w8 ?_ ?_ ?_ ?_);rfl;kernel_rfl;exact lL (.tmp 38) (.tmp 39) rfl d1.name name rfl rfl b1 HB1.o _)
   | ((with_reducible refine qG 41 112 #[.pointer (some ⟨c.Q,0,none⟩),.bool b1] (fun v w'=>v=.tuple #[]∧PvAt c rE w'∧Kp c.own w8 w') ?_ ?_ ?_ ?_ ?_);rfl;kernel_rfl;(unfold execOp;simp [go_sem]);exact ((CM.o rD b1 _ G6.o.1.pv).mono fun e w' z=>⟨_,z.1,rfl,by rw [← HE1.o];exact z.2.1,z.2.2⟩);rintro v w9 ⟨rfl,p1,p2⟩;have G9:Hid (GI c rE C b7 nv (⟨stp,V1,n,top,[]⟩:Cm) sv (.slice da 0 dc) w Y6 d1 w9):=G6.o.1.kept p1 p2 hC G6.o.2;clear p1 p2))
  refine regg6 C b7 (.slice da 0 dc) Y6 (fun _ W=>GI c rE C b7 nv (⟨stp,V1,n,top,[]⟩:Cm) sv (.slice da 0 dc) w Y6 d1 W) (fun r' W=>∃ W0,GI c rE C b7 nv (⟨stp,V1,n,top,[]⟩:Cm) sv (.slice da 0 dc) w Y6 d1 W0∧W=W0.alloc (.cells Y6 125)∧r' 1=.slice (some ⟨W0.heap.size,0,none⟩) 1 1)
   (fun r' W=>PvAt c rE W∧W.heap[C]?=some (.cells (clc nv sv (⟨stp,V1,n,top,[]⟩:Cm).value ((⟨stp,V1,n,top,[]⟩:Cm).count:Int) (⟨stp,V1,n,top,[]⟩:Cm).top (.slice da 0 dc)).toArray 117 (0,0))∧SdL W (C+1) (r' 2) ((⟨stp,V1,n,top,[]⟩:Cm).sides++[d1])∧StL W (C+1) sv (⟨stp,V1,n,top,[]⟩:Cm).steps∧Kp (c.in_ C) w W)
   (fun r' W=>PvAt c rE W∧ClI C nv { (⟨stp,V1,n,top,[]⟩:Cm) with sides:=(⟨stp,V1,n,top,[]⟩:Cm).sides++[d1] } sv (r' 2) W∧Kp (c.in_ C) w W)
   (fun W=>W.cell? ⟨C,70,none⟩=some (.slice da 0 dc)∧Lies W b7 0 Y6) _ w9 rfl rfl rfl G9.o.at_.size ?b0 ?b1 ?c1 ?c2 ?c3 (fun _ q=>q.1) (fun _ q=>q.2) ?c4 ?c5
  case b0=>exact fun _ W q=>⟨by rw [j9 q.cl.at_];exact kW _ _ _ _ _ _ q.cl.tl,Lies.of_heap q.y⟩
  case b1=>
   rintro _ W ⟨W0,q,rfl,_⟩
   exact ⟨(G.alloc W0 _).cell (by rw [j9 q.cl.at_];exact kW _ _ _ _ _ _ q.cl.tl),(Lies.of_heap q.y).below (G.alloc W0 _)⟩
  case c1=>
   intro r' W q
   exact ⟨q.at_.size,W,q,rfl,by rw [jA]⟩
  case c2=>
   rintro r' W ⟨W0,q,rfl,e1⟩
   rw [e1]
   obtain ⟨u,W',p1,p2,p3,p4,p5,p6,_⟩:=q.cl.appSdL q.pv hC q.kp 115 Y6 d1 q.at_ q.at_.size q.at_.one (by show 0+1≤100000;omega)
   exact ⟨u,W',p1,p2,p3,by rw [jA];exact p4,p5,p6⟩
  case c3=>
   rintro r' W ⟨p2,p3,p4,p5,p6⟩
   have hk:=Kp.set W C 70 (r' 2)
   have htl:(⟨stp,V1,n,top,[]⟩:Cm).top.length=32:=htop
   refine ⟨⟨_,by rw [j9 p3];exact kW _ _ _ _ _ _ htl⟩,by simp [World.frozen?,p3],(by obtain ⟨a,k,e⟩:=p4.form;exact ⟨_,_,_,e⟩),p2.kp hk (fun b e q=>by have:=q.2;omega),⟨?_,p5.keep fun b _ _ hb q _=>hk.block b (ga q).1 (by omega),p4.keep fun b _ _ hb q _=>hk.block b (ga q).1 (by omega),htl⟩,p6.trans hk (fun b _ e=>.inr (by omega))⟩
   rw [jI _ p3]
   exact congrArg (fun a=>some (Obj.cells a 117 (0,0))) (ae _ _ _ _ _ _ _ htl)
  case c4=>exact fun _=>G9.o.up (G.drew _)
  case c5=>
   rintro r' w10 ⟨q1,q2,q3⟩
   rw [foldg6]
   generalize r' 1=u1
   obtain ⟨ea,ec,hee⟩:=q2.sd.form
   generalize hr2:r' 2=u2
   rw [hr2] at q2 hee
   subst hee
   have V10:Hid (PvAt c rE w10∧ClI C nv (⟨stp,V1,n,top,[d1]⟩:Cm) sv (.slice ea 1 ec) w10∧Kp (c.in_ C) w w10):=⟨q1,q2,q3⟩
   clear q1 q2 q3 hr2
   have hz10:w10.cell? ⟨C,37,none⟩=some (.int .i64 (n:Int)):=by rw [j9 V10.o.2.1.at_];exact yA _ _ _ _ _ _
   go_simp
   by_cases hkn:k<n
   ·have hGP:=HGP.o
    clear HGP
    rw [if_pos hkn] at hGP
    have CS2:Hid (∀ W,PvAt c rE W→Calls Tryz.prog 113 #[.pointer (some ⟨c.Q,0,none⟩),.int .i64 (n:Int),.int .i64 (k:Nat)] W fun e w'=>∃ cs,e=.returned (.agg cs)∧SdAt w' W.heap.size cs (qn c.l n k rE).1∧PvAt c (qn c.l n k rE).2 w'∧Kp c.own W w'):=fun W q=>cM q n k l2 (by omega)
    generalize qn c.l n k rE=A at *
    obtain ⟨d2,rF⟩:=A
    simp only at CS2 hGP
    obtain ⟨b2,hb2⟩:∃ b2,gtS d2.name name=b2:=⟨_,rfl⟩
    rw [hb2] at hGP
    have HB2:=hid hb2
    clear hb2
    obtain ⟨rG,hrG⟩:∃ rG,qd b2 rF=rG:=⟨_,rfl⟩
    rw [hrG] at hGP
    have HE2:=hid hrG
    clear hrG
    have hknI:(k:Int)<n:=by omega
    have HGP:=hid hGP
    clear hGP
    go_upto_region 10 with (first
     | ((with_reducible refine qG 64 113 #[.pointer (some ⟨c.Q,0,none⟩),.int .i64 (n:Int),.int .i64 (k:Nat)] (fun v w'=>∃ cs,v=.agg cs∧SdAt w' w10.heap.size cs d2∧PvAt c rF w'∧Kp c.own w10 w') ?_ ?_ ?_ ?_ ?_);rfl;kernel_rfl;(unfold execOp;simp [go_sem]);exact ((CS2.o _ V10.o.1).mono fun e w' z=>(by obtain ⟨cs,z1,z2⟩:=z;exact ⟨_,z1,cs,rfl,z2⟩));rintro v w20 ⟨Y20,rfl,p0,p1,p2⟩;have H20:Hid (PvAt c rF w20∧ClI C nv (⟨stp,V1,n,top,[d1]⟩:Cm) sv (.slice ea 1 ec) w20∧Kp (c.in_ C) w w20∧SdAt w20 (C+1) Y20 d2):=⟨p1,V10.o.2.1.kp p2 hC,V10.o.2.2.trans p2 (fun _ _ e=>Or.inl e),p0.mono (by have:=V10.o.2.1.lt;omega)⟩;clear p0 p1 p2)
     | ((with_reducible refine qC 8 125 z125.toArray ?_ ?_ ?_ ?_ ?_);rfl;rfl;kernel_rfl;exact zx;intro w21 b21 H21)
     | ((with_reducible refine qj 125 (.tmp 8) (.tmp 64) b21 Y20 z125.toArray ?_ ?_ ?_ ?_ ?_ ?_ ?_ ?_ ?_ ?_);rfl;rfl;kernel_rfl;rfl;rfl;exact H21.o.2.2.1;exact (by rw [zF,H20.o.2.2.2.size]);exact (by rw [H20.o.2.2.2.size];rfl);exact H20.o.2.2.2.one;intro w22 H22;have G20:Hid (GI c rF C b21 nv (⟨stp,V1,n,top,[d1]⟩:Cm) sv (.slice ea 1 ec) w Y20 d2 w22∧C<b21):=GI.make H20.o.1 H20.o.2.1 H20.o.2.2.1 H20.o.2.2.2 hC H21.o.1 H21.o.2.1 H22.o.1 H22.o.2.1;have hy20:w22.cell? ⟨b21,0,none⟩=some (.string d2.name):=(by rw [j9 G20.o.1.y];exact G20.o.1.at_.name))
     | ((with_reducible refine jT 69 (.bool b2) w22 ?_ ?_ ?_ ?_);rfl;kernel_rfl;exact dH (.tmp 67) (.tmp 68) rfl d2.name name rfl rfl b2 HB2.o _)
     | ((with_reducible refine qG 70 112 #[.pointer (some ⟨c.Q,0,none⟩),.bool b2] (fun v w'=>v=.tuple #[]∧PvAt c rG w'∧Kp c.own w22 w') ?_ ?_ ?_ ?_ ?_);rfl;kernel_rfl;(unfold execOp;simp [go_sem]);exact ((CM.o rF b2 _ G20.o.1.pv).mono fun e w' z=>⟨_,z.1,rfl,by rw [← HE2.o];exact z.2.1,z.2.2⟩);rintro v w23 ⟨rfl,p1,p2⟩;have G23:Hid (GI c rG C b21 nv (⟨stp,V1,n,top,[d1]⟩:Cm) sv (.slice ea 1 ec) w Y20 d2 w23):=G20.o.1.kept p1 p2 hC G20.o.2;clear p1 p2))
    refine sU C b21 (.slice ea 1 ec) Y20 (fun _ W=>GI c rG C b21 nv (⟨stp,V1,n,top,[d1]⟩:Cm) sv (.slice ea 1 ec) w Y20 d2 W) (fun r' W=>∃ W0,GI c rG C b21 nv (⟨stp,V1,n,top,[d1]⟩:Cm) sv (.slice ea 1 ec) w Y20 d2 W0∧W=W0.alloc (.cells Y20 125)∧r' 1=.slice (some ⟨W0.heap.size,0,none⟩) 1 1)
     (fun r' W=>PvAt c rG W∧W.heap[C]?=some (.cells (clc nv sv (⟨stp,V1,n,top,[d1]⟩:Cm).value ((⟨stp,V1,n,top,[d1]⟩:Cm).count:Int) (⟨stp,V1,n,top,[d1]⟩:Cm).top (.slice ea 1 ec)).toArray 117 (0,0))∧SdL W (C+1) (r' 2) ((⟨stp,V1,n,top,[d1]⟩:Cm).sides++[d2])∧StL W (C+1) sv (⟨stp,V1,n,top,[d1]⟩:Cm).steps∧Kp (c.in_ C) w W)
     (fun r' W=>PvAt c rG W∧ClI C nv { (⟨stp,V1,n,top,[d1]⟩:Cm) with sides:=(⟨stp,V1,n,top,[d1]⟩:Cm).sides++[d2] } sv (r' 2) W∧Kp (c.in_ C) w W)
     (fun W=>W.cell? ⟨C,70,none⟩=some (.slice ea 1 ec)∧Lies W b21 0 Y20) _ w23 rfl rfl rfl G23.o.at_.size ?e0 ?e1 ?f1 ?f2 ?f3 (fun _ q=>q.1) (fun _ q=>q.2) ?f4 ?f5
    case e0=>exact fun _ W q=>⟨by rw [j9 q.cl.at_];exact kW _ _ _ _ _ _ q.cl.tl,Lies.of_heap q.y⟩
    case e1=>
     rintro _ W ⟨W0,q,rfl,_⟩
     exact ⟨(G.alloc W0 _).cell (by rw [j9 q.cl.at_];exact kW _ _ _ _ _ _ q.cl.tl),(Lies.of_heap q.y).below (G.alloc W0 _)⟩
    case f1=>
     intro r' W q
     exact ⟨q.at_.size,W,q,rfl,by rw [jA]⟩
    case f2=>
     rintro r' W ⟨W0,q,rfl,e1⟩
     rw [e1]
     obtain ⟨u,W',p1,p2,p3,p4,p5,p6,_⟩:=q.cl.appSdL q.pv hC q.kp 115 Y20 d2 q.at_ q.at_.size q.at_.one (by show 1+1≤100000;omega)
     exact ⟨u,W',p1,p2,p3,by rw [jA];exact p4,p5,p6⟩
    case f3=>
     rintro r' W ⟨p2,p3,p4,p5,p6⟩
     have hk:=Kp.set W C 70 (r' 2)
     have htl:(⟨stp,V1,n,top,[d1]⟩:Cm).top.length=32:=htop
     refine ⟨⟨_,by rw [j9 p3];exact kW _ _ _ _ _ _ htl⟩,by simp [World.frozen?,p3],(by obtain ⟨a,k,e⟩:=p4.form;exact ⟨_,_,_,e⟩),p2.kp hk (fun b e q=>by have:=q.2;omega),⟨?_,p5.keep fun b _ _ hb q _=>hk.block b (ga q).1 (by omega),p4.keep fun b _ _ hb q _=>hk.block b (ga q).1 (by omega),htl⟩,p6.trans hk (fun b _ e=>.inr (by omega))⟩
     rw [jI _ p3]
     exact congrArg (fun a=>some (Obj.cells a 117 (0,0))) (ae _ _ _ _ _ _ _ htl)
    case f4=>exact fun _=>G23.o.up (G.drew _)
    case f5=>
     rintro r' w30 ⟨q1,q2,q3⟩
     rw [lK]
     generalize r' 1=x1
     generalize hr2:r' 2=x2
     rw [hr2] at q2
     have HF:=hid (⟨q1,q2,q3⟩:_∧_∧_)
     clear q1 q2 q3 hr2
     go_simp
     go_wp2_with fail
     go_end0
     have hGP:=HGP.o
     subst hGP
     exact ⟨rfl,HF.o.1,⟨_,HF.o.2.1⟩,HF.o.2.2⟩
   ·have hGP:=HGP.o
    clear HGP
    rw [if_neg hkn] at hGP
    have HGP:=hid hGP
    clear hGP
    have hknI:¬ (k:Int)<n:=by omega
    go_wp2_with fail
    go_end0
    have hGP:=HGP.o
    subst hGP
    exact ⟨rfl,V10.o.1,⟨_,V10.o.2.1⟩,V10.o.2.2⟩
 ·have hGP:=HGP.o
  clear HGP
  rw [if_neg hk0] at hGP
  have HGP:=hid hGP
  clear hGP
  have hk0I:¬ (0:Int)<k:=by omega
  by_cases hkn:k<n
  ·have hGP:=HGP.o
   clear HGP
   rw [if_pos hkn] at hGP
   have CS2:Hid (∀ W,PvAt c rC W→Calls Tryz.prog 113 #[.pointer (some ⟨c.Q,0,none⟩),.int .i64 (n:Int),.int .i64 (k:Nat)] W fun e w'=>∃ cs,e=.returned (.agg cs)∧SdAt w' W.heap.size cs (qn c.l n k rC).1∧PvAt c (qn c.l n k rC).2 w'∧Kp c.own W w'):=fun W q=>cM q n k l2 (by omega)
   generalize qn c.l n k rC=A at *
   obtain ⟨d2,rF⟩:=A
   simp only at CS2 hGP
   obtain ⟨b2,hb2⟩:∃ b2,gtS d2.name name=b2:=⟨_,rfl⟩
   rw [hb2] at hGP
   have HB2:=hid hb2
   clear hb2
   obtain ⟨rG,hrG⟩:∃ rG,qd b2 rF=rG:=⟨_,rfl⟩
   rw [hrG] at hGP
   have HE2:=hid hrG
   clear hrG
   have hknI:(k:Int)<n:=by omega
   have HGP:=hid hGP
   clear hGP
   go_upto_region 10 with (first
    | ((with_reducible refine qG 64 113 #[.pointer (some ⟨c.Q,0,none⟩),.int .i64 (n:Int),.int .i64 (k:Nat)] (fun v w'=>∃ cs,v=.agg cs∧SdAt w' w5.heap.size cs d2∧PvAt c rF w'∧Kp c.own w5 w') ?_ ?_ ?_ ?_ ?_);rfl;kernel_rfl;(unfold execOp;simp [go_sem]);exact ((CS2.o _ V5.o.1).mono fun e w' z=>(by obtain ⟨cs,z1,z2⟩:=z;exact ⟨_,z1,cs,rfl,z2⟩));rintro v w20 ⟨Y20,rfl,p0,p1,p2⟩;have H20:Hid (PvAt c rF w20∧ClI C nv (⟨stp,V1,n,top,[]⟩:Cm) sv (.slice da 0 dc) w20∧Kp (c.in_ C) w w20∧SdAt w20 (C+1) Y20 d2):=⟨p1,V5.o.2.1.kp p2 hC,V5.o.2.2.trans p2 (fun _ _ e=>Or.inl e),p0.mono (by have:=V5.o.2.1.lt;omega)⟩;clear p0 p1 p2)
    | ((with_reducible refine qC 8 125 z125.toArray ?_ ?_ ?_ ?_ ?_);rfl;rfl;kernel_rfl;exact zx;intro w21 b21 H21)
    | ((with_reducible refine qj 125 (.tmp 8) (.tmp 64) b21 Y20 z125.toArray ?_ ?_ ?_ ?_ ?_ ?_ ?_ ?_ ?_ ?_);rfl;rfl;kernel_rfl;rfl;rfl;exact H21.o.2.2.1;exact (by rw [zF,H20.o.2.2.2.size]);exact (by rw [H20.o.2.2.2.size];rfl);exact H20.o.2.2.2.one;intro w22 H22;have G20:Hid (GI c rF C b21 nv (⟨stp,V1,n,top,[]⟩:Cm) sv (.slice da 0 dc) w Y20 d2 w22∧C<b21):=GI.make H20.o.1 H20.o.2.1 H20.o.2.2.1 H20.o.2.2.2 hC H21.o.1 H21.o.2.1 H22.o.1 H22.o.2.1;have hy20:w22.cell? ⟨b21,0,none⟩=some (.string d2.name):=(by rw [j9 G20.o.1.y];exact G20.o.1.at_.name))
    | ((with_reducible refine jT 69 (.bool b2) w22 ?_ ?_ ?_ ?_);rfl;kernel_rfl;exact dH (.tmp 67) (.tmp 68) rfl d2.name name rfl rfl b2 HB2.o _)
    | ((with_reducible refine qG 70 112 #[.pointer (some ⟨c.Q,0,none⟩),.bool b2] (fun v w'=>v=.tuple #[]∧PvAt c rG w'∧Kp c.own w22 w') ?_ ?_ ?_ ?_ ?_);rfl;kernel_rfl;(unfold execOp;simp [go_sem]);exact ((CM.o rF b2 _ G20.o.1.pv).mono fun e w' z=>⟨_,z.1,rfl,by rw [← HE2.o];exact z.2.1,z.2.2⟩);rintro v w23 ⟨rfl,p1,p2⟩;have G23:Hid (GI c rG C b21 nv (⟨stp,V1,n,top,[]⟩:Cm) sv (.slice da 0 dc) w Y20 d2 w23):=G20.o.1.kept p1 p2 hC G20.o.2;clear p1 p2))
   refine sU C b21 (.slice da 0 dc) Y20 (fun _ W=>GI c rG C b21 nv (⟨stp,V1,n,top,[]⟩:Cm) sv (.slice da 0 dc) w Y20 d2 W) (fun r' W=>∃ W0,GI c rG C b21 nv (⟨stp,V1,n,top,[]⟩:Cm) sv (.slice da 0 dc) w Y20 d2 W0∧W=W0.alloc (.cells Y20 125)∧r' 1=.slice (some ⟨W0.heap.size,0,none⟩) 1 1)
    (fun r' W=>PvAt c rG W∧W.heap[C]?=some (.cells (clc nv sv (⟨stp,V1,n,top,[]⟩:Cm).value ((⟨stp,V1,n,top,[]⟩:Cm).count:Int) (⟨stp,V1,n,top,[]⟩:Cm).top (.slice da 0 dc)).toArray 117 (0,0))∧SdL W (C+1) (r' 2) ((⟨stp,V1,n,top,[]⟩:Cm).sides++[d2])∧StL W (C+1) sv (⟨stp,V1,n,top,[]⟩:Cm).steps∧Kp (c.in_ C) w W)
    (fun r' W=>PvAt c rG W∧ClI C nv { (⟨stp,V1,n,top,[]⟩:Cm) with sides:=(⟨stp,V1,n,top,[]⟩:Cm).sides++[d2] } sv (r' 2) W∧Kp (c.in_ C) w W)
    (fun W=>W.cell? ⟨C,70,none⟩=some (.slice da 0 dc)∧Lies W b21 0 Y20) _ w23 rfl rfl rfl G23.o.at_.size ?b0 ?b1 ?c1 ?c2 ?c3 (fun _ q=>q.1) (fun _ q=>q.2) ?c4 ?c5
   case b0=>exact fun _ W q=>⟨by rw [j9 q.cl.at_];exact kW _ _ _ _ _ _ q.cl.tl,Lies.of_heap q.y⟩
   case b1=>
    rintro _ W ⟨W0,q,rfl,_⟩
    exact ⟨(G.alloc W0 _).cell (by rw [j9 q.cl.at_];exact kW _ _ _ _ _ _ q.cl.tl),(Lies.of_heap q.y).below (G.alloc W0 _)⟩
   case c1=>
    intro r' W q
    exact ⟨q.at_.size,W,q,rfl,by rw [jA]⟩
   case c2=>
    rintro r' W ⟨W0,q,rfl,e1⟩
    rw [e1]
    obtain ⟨u,W',p1,p2,p3,p4,p5,p6,_⟩:=q.cl.appSdL q.pv hC q.kp 115 Y20 d2 q.at_ q.at_.size q.at_.one (by show 0+1≤100000;omega)
    exact ⟨u,W',p1,p2,p3,by rw [jA];exact p4,p5,p6⟩
   case c3=>
    rintro r' W ⟨p2,p3,p4,p5,p6⟩
    have hk:=Kp.set W C 70 (r' 2)
    have htl:(⟨stp,V1,n,top,[]⟩:Cm).top.length=32:=htop
    refine ⟨⟨_,by rw [j9 p3];exact kW _ _ _ _ _ _ htl⟩,by simp [World.frozen?,p3],(by obtain ⟨a,k,e⟩:=p4.form;exact ⟨_,_,_,e⟩),p2.kp hk (fun b e q=>by have:=q.2;omega),⟨?_,p5.keep fun b _ _ hb q _=>hk.block b (ga q).1 (by omega),p4.keep fun b _ _ hb q _=>hk.block b (ga q).1 (by omega),htl⟩,p6.trans hk (fun b _ e=>.inr (by omega))⟩
    rw [jI _ p3]
    exact congrArg (fun a=>some (Obj.cells a 117 (0,0))) (ae _ _ _ _ _ _ _ htl)
   case c4=>exact fun _=>G23.o.up (G.drew _)
   case c5=>
    rintro r' w30 ⟨q1,q2,q3⟩
    rw [lK]
    generalize r' 1=x1
    generalize hr2:r' 2=x2
    rw [hr2] at q2
    have HF:=hid (⟨q1,q2,q3⟩:_∧_∧_)
    clear q1 q2 q3 hr2
    go_simp
    go_wp2_with fail
    go_end0
    have hGP:=HGP.o
    subst hGP
    exact ⟨rfl,HF.o.1,⟨_,HF.o.2.1⟩,HF.o.2.2⟩
  ·have hGP:=HGP.o
   clear HGP
   rw [if_neg hkn] at hGP
   have HGP:=hid hGP
   clear hGP
   have hknI:¬ (k:Int)<n:=by omega
   go_wp2_with fail
   go_end0
   have hGP:=HGP.o
   subst hGP
   exact ⟨rfl,V5.o.1,⟨_,V5.o.2.1⟩,V5.o.2.2⟩
end Go.Proofs.YtdeanahpiigonaaGreatDoor
