import Derived.Test.YtjikkhbcbfpocaaGreatDoorMY
set_option maxRecDepth 100000
set_option maxHeartbeats 4000000
namespace Go.Proofs.YtjikkhbcbfpocaaGreatDoor
open Go.RowKit Go.Shelf
attribute [local go_sem] Oper.semAt_some
section
variable {F:Fence} {n:Nat} {md:Region.Mode} {ops:Array Oper} {Q:Exit→Act→World→Prop} {Inv:World→Prop}
theorem AllJ.valueE (hL:Lets F n) (i d:Nat) {oi:Oper} {k:Nat} {listed:Array Bool} {a:Act} {w:World} {rs:List Nat} (hi:ops[i]?=some oi) (hk:(oi.dst==some d&&qM ops&&Region.wanted oi (yielded ops a.tmps))=true)
  (hx:∃ v w',(execOp a.eval oi).run Tryz.prog w=.ok (.value v) w'∧Inv w'∧wpJ Inv F n md ops Q k (listed.setIfInBounds i true) (a.put (some d) v) w')
  (hs:AllJ Inv F n md ops Q k listed a w rs):AllJ Inv F n md ops Q k listed a w (i::rs):=by
 obtain ⟨v,w',h1,h2,h3⟩:=hx
 exact AllJ.value hL i d v w' hi hk h1 h2 h3 hs
end
theorem fin8 {A:At8} {rc:Loop} {pre:List (List Nat)} {ul:Value} {W W2:World} {t:List Nat} {B:Nat} (hLc:A.Lc=B) (hwb:A.Wb<A.c3) (hR:R8 A rc pre ul W) (hst:rc.state=.ready) (hpe:rc.pending=none)
  (hbx2:Boxed W2 B 109 ul) (how2:W2.ownsRow A.lo 22 32 ul (dirs pre).length (hrow (dirs pre))) (hbu2:W2.heap[A.l0+1]?=some (.loop { rc with state:=.busy })) (hsa2:∀ b:Nat,b≠A.l0+1→W2.heap[b]?=W.heap[b]?) (hsz2:W2.heap.size=W.heap.size)
  (hos2:W2.os=W.os∧W2.tape=W.tape∧W2.output=W.output) (h68:t.getD 0 0=68) (hlen:(dirs pre).length≤16777216) (w1:World) (hG1:G W2 w1) (w2 w3:World) (hg2:G w1 w2) (hw3:w3=w2.alloc (.cells ((shaL t).map Su.vb).toArray 22)) {a:Act} {o:Oper} {Kp:Value→World→Prop} (h1:o.op=.call { callee:=.builtin .append,args:=#[.tmp 13,.tmp 17],argTypes:=#[109,109] }) (h2:a.eval (.tmp 13)=ul) (h3:a.eval (.tmp 17)=.slice (some ⟨w2.heap.size,0,none⟩) 1 1)
  (hK:∀ v' w4,Boxed w4 B 109 ul→(∃ ao n c,v'=.slice ao n c)→(∃ v w',(Instr.endRound (A.l0+1) none).run Tryz.prog (w4.setCell ⟨B,0,none⟩ v')=.ok v w'∧(Ending.returned v=.returned (.bool true)∧∃ M',S8 A rc (pre++[t]) M' w'∧(∀ b,M' b→MS8 A ul b∨W.heap.size≤b)∧Fr (MS8 A ul) W w'))→Kp v' w4):
  ∃ v' w4,(execOp a.eval o).run Tryz.prog w3=.ok (.value v') w4∧Kp v' w4:=by
 have hG2:G W2 w2:=hG1.trans hg2
 have hbx:Boxed w2 B 109 ul:=(hG2.block B hbx2.lt).trans hbx2
 have how:w2.ownsRow A.lo 22 32 ul (dirs pre).length (hrow (dirs pre)):=kB how2 fun g hg=>hG2.block g (um how2 hg.symm).2
 have hlo:=hR.lt.1
 have hz:=hG2.size
 obtain ⟨v',w4,hx,ho4,hg4,hob⟩:=em (o:=o) (a:=a) (.tmp 13) (.tmp 17) h1 A.lo ul (dirs pre) (shaL t) w2.heap.size w3 h2 h3 (by rw [hw3];exact World.ownsRow.alloc how _) (qg t) (by rw [hw3];exact World.alloc_heap_new w2 _) hlen (by rw [hw3];simp;omega)
 obtain ⟨b1,b2,b3,b4,b5⟩:=Boxed.appended (tmp:=.cells ((shaL t).map Su.vb).toArray 22) hbx (by decide) how (by omega) (by have:=hR.los.1;omega) ho4 (by rw [← hw3];exact hg4)
 have h1c:∃ ao n c,v'=.slice ao n c:=by
  rcases ho4.2 with ⟨h,_⟩ | ⟨g,cp,_,h,_⟩<;>exact ⟨_,_,_,h⟩
 refine ⟨v',w4,hx,hK v' w4 b1 h1c ?_⟩
 ·have ed:dirs (pre++[t])=dirs pre++[shaL t]:=by rw [mT,if_pos h68]
  have h3z:w3.heap.size=w2.heap.size+1:=by rw [hw3];simp
  have hsm:∀ b:Nat,b<W.heap.size→b≠B→some b≠ul.ownBlock→(w4.setCell ⟨B,0,none⟩ v').heap[b]?=W2.heap[b]?:=fun b hb h1 h2=>by
   rw [Below.heap_setCell _ _ _ _ h1,hg4.block b (by omega) h2,hw3,Below.heap_alloc _ _ _ (by omega)]
   exact hG2.block b (by omega)
  have g:∀ {b:Nat} {o:Obj},W.heap[b]?=some o→b<W.heap.size:=fun h=>(gS h)
  refine gY hR hst hpe hwb (by rw [hLc];exact b2) (by rw [ed];exact b3) ⟨?_,?_,?_⟩ ?_ (fun b hb h1 h2 h3=>(hsm b hb (by rw [← hLc];exact h1) h2).trans (hsa2 b h3)) ?_ ?_
  ·exact hg4.os.trans ((by rw [hw3];rfl:w3.os=w2.os).trans (hG2.os.trans hos2.1))
  ·exact hg4.tape.trans ((by rw [hw3];rfl:w3.tape=w2.tape).trans (hG2.tape.trans hos2.2.1))
  ·exact hg4.output.trans ((by rw [hw3];rfl:w3.output=w2.output).trans (hG2.output.trans hos2.2.2))
  ·have:=hg4.size
   simp only [World.size_setCell]
   omega
  ·rw [hsm _ (g hR.lp) (fun e=>?_) (fun e=>?_)]
   ·exact hbu2
   ·have h':W2.heap[B]?=some _:=hbx2
    rw [← e,hbu2] at h'
    cases h'
   ·obtain ⟨_,⟨rfl,_⟩ | ⟨gg,cp,cur,rv,_,rh,_⟩⟩:=hR.ow
    ·cases e
    ·rw [rv] at e
     have:A.l0+1=gg:=by simpa [Value.ownBlock] using e
     rw [← this,hR.lp] at rh
     cases rh
  ·intro b hb
   rcases hob with h | h
   ·exact .inl (hb.trans h)
   ·rw [h] at hb
    have:b=w3.heap.size:=by simpa using hb
    exact .inr (by omega)
theorem yO {o:Oper} {a:Act} (x:Operand) (ho:o.op=.buildSlice 109 1 #[(0,x)]) (c:Array Value) (hx:a.eval x=.agg c) (hs:c.size=32) (w:World):(execOp a.eval o).run Tryz.prog w=.ok (.value (.slice (some ⟨w.heap.size,0,none⟩) 1 1)) (w.alloc (.cells c 22)):=by
 have hf:Instr.fill (fun i=>some (i*32,32)) ((Array.range (1*32)).map (z22[·%z22.size]!)) [(0,.agg c)]=some c:=by
  obtain ⟨z,hz,hzl⟩:∃ z:List Value,((Array.range (1*32)).map (z22[·%z22.size]!))=z.toArray∧z.length=32:=⟨((Array.range (1*32)).map (z22[·%z22.size]!)).toList,Array.toArray_toList.symm,by simp⟩
  rw [hz,qy _ z 0 0 32 _ c.toList _ rfl (by simp [Value.cells]) (by simpa using hs) (by omega),Instr.fill]
  have hd:z.drop 32=[]:=List.drop_of_length_le (by omega)
  simp [over,hs,hd]
 have hsz:(sizeOf 22).run Tryz.prog w=.ok 32 w:=by
  have h:=jx
  cases hq:Tryz.prog.info? 22 with
  | none=>rw [hq] at h;cases h
  | some i=>rw [hq] at h;simp at h;simp [sizeOf,typeInfo,hq,h]
 have hzv:=aB 22 z22 qm w
 generalize z22=zz at hf hzv
 have hb:(Instr.buildSlice 109 1 #[(0,.agg c)]).run Tryz.prog w=.ok (.slice (some ⟨w.heap.size,0,none⟩) 1 1) (w.alloc (.cells c 22)):=by
  unfold Instr.buildSlice
  simp only [Sem.run_bind,run_underlying Tryz.underlying109,Result.andThen_ok,hsz]
  have h1:¬ (1*32 > 2 ^ 24):=by omega
  have h2:¬ (1*32=0):=by omega
  simp only [h1,h2,if_false,Sem.run_bind,Sem.run_pure,Result.andThen_ok,hzv,Value.cells,hf]
  rfl
 unfold execOp
 simp only [ho]
 have hmap:(#[(0,x)].map fun (p:Nat × Operand)=>match p with | (i,x)=>(i,a.eval x))=#[(0,.agg c)]:=by simp [hx]
 rw [hmap]
 simp only [Sem.run_bind,hb,Result.andThen_ok,Sem.run_pure]
theorem kN {o:Oper} {a:Act} (x y:Operand) (ho:o.op=.store 109 x y) (g:Nat) (u v:Value) (hx:a.eval x=.pointer (some ⟨g,0,none⟩)) (hy:a.eval y=v) (h1:∃ ao n c,v=.slice ao n c) (w:World) (hg:Boxed w g 109 u):(execOp a.eval o).run Tryz.prog w=.ok .skip (w.setCell ⟨g,0,none⟩ v):=by
 obtain ⟨d,op,ty,ps,af,gd⟩:=o
 obtain rfl:op=_:=ho
 generalize a.eval=ev at *
 obtain ⟨ao,n,c,rfl⟩:=h1
 have hc:=hg.cell
 have hf:=hg.frozen
 go_simp
theorem aw (p:Nat) (v:Vd) (m:Md) (k:K) (w:World) (hA:AtT w p v m k) (hv:vOk v) (hf:fOk k.flat) (hsz:k.flat.size≤100000) (hT:Su.Tabs w):
  Calls Tryz.prog 54 #[.pointer (some ⟨p,0,none⟩)] w fun e w'=>∃ u,e=.returned u∧w'.ownsRow w.heap.size 22 32 u (dirs (jt v k.flat).2).length (hrow (dirs (jt v k.flat).2))∧G w w':=by
 obtain ⟨B,hB⟩:∃ B,w.heap.size=B:=⟨_,rfl⟩
 have HH:=hid (⟨hA,hv,hf,hsz,hT,hB⟩:_∧_∧_∧_∧_∧_)
 have h4:4≤B:=by have:=hT.size;omega
 clear hA hv hf hsz hT
 refine (callsIn_wide (n:=3)).1 ?_
 refine callsIn_of_wp_marks Tryz.func54 rfl trivial (Go.wpIn_mono (Q:=RetM Tryz.f54 _) ?_ RetM.post) rfl
 simp only [Tryz.ntmps54,List.size_toArray,lC,lN,Nat.reduceAdd,Nat.reduceSub,Array.replicate_succ,Array.replicate_zero,List.push_toArray,List.append_toArray,List.nil_append,List.cons_append]
 obtain ⟨w1,hw1⟩:∃ w1,w1=w.alloc (.cells #[.slice none 0 0] 109):=⟨_,rfl⟩
 have hs1:w1.heap.size=B+1:=by rw [hw1,World.size_alloc,hB]
 have C1:=a0C w1
 rw [hs1] at C1
 obtain ⟨w2,hw2⟩:∃ w2,w2=w1.alloc (.cells #[.func (.func 117) #[] #[]] 185):=⟨_,rfl⟩
 rw [← hw2] at C1
 have hs2:w2.heap.size=B+2:=by rw [hw2,World.size_alloc,hs1]
 have C2:=px (B+1) p w2
 rw [hs2] at C2
 obtain ⟨w3,hw3⟩:∃ w3,w3=(w2.alloc (.cells #[.pointer (some ⟨B+1,0,none⟩)] 149)).alloc (.cells #[.pointer (some ⟨p,0,none⟩)] 32):=⟨_,rfl⟩
 rw [← hw3] at C2
 have hs3:w3.heap.size=B+4:=by rw [hw3,World.size_alloc,World.size_alloc,hs2]
 have H3:Hid (G w w3∧Boxed w3 B 109 (.slice none 0 0)∧aD w3 (B+1)∧Boxed w3 (B+2) 149 (.pointer (some ⟨B+1,0,none⟩))∧Boxed w3 (B+3) 32 (.pointer (some ⟨p,0,none⟩))):=by
  have g1:G w w1:=by rw [hw1];exact G.alloc _ _
  have g2:G w1 w2:=by rw [hw2];exact G.alloc _ _
  have g3:G w2 w3:=by rw [hw3];exact (G.alloc _ _).trans (G.alloc _ _)
  have a1:Boxed w1 B 109 (.slice none 0 0):=by rw [hw1,← hB];exact Boxed.new _ _ _
  have a2:aD w2 (B+1):=by rw [hw2,← hs1];exact World.alloc_heap_new _ _
  refine ⟨(g1.trans g2).trans g3,((g2.trans g3).block B (by omega)).trans a1,(g3.block (B+1) (by omega)).trans a2,?_,?_⟩
  ·rw [hw3,← hs2];exact (Boxed.new w2 149 _).alloc _
  ·have:=Boxed.new (w2.alloc (.cells #[.pointer (some ⟨B+1,0,none⟩)] 149)) 32 (.pointer (some ⟨p,0,none⟩))
   rw [World.size_alloc,hs2] at this
   rw [hw3];exact this
 have HW1:=hid hw1
 have HS3:=hid hs3
 clear hw1 hw2 hw3 hs1 hs2 hs3
 gi_wp2_with (first
  | (refine ⟨trivial,?_⟩;gi_at_call 81;rw [← HW1.o];refine (callsIn_wide.2 C1).mono ?_;rintro e w' ⟨rfl,hw'⟩;replace hw':=hw'.symm;subst hw')
  | (refine ⟨trivial,?_⟩;gi_at_call 82;refine (callsIn_wide.2 C2).mono ?_;rintro e w' ⟨rfl,hw'⟩;replace hw':=hw'.symm;subst hw'))
 clear C1 C2
 have hs3:=HS3.o
 refine yn rfl (by omega) (gf:=118) (lb:=#[.pointer (some ⟨B+2,0,none⟩),.pointer (some ⟨B+3,0,none⟩)]) rfl trivial (enters_of Tryz.func118 (by kernel_rfl) rfl) ?_
 intro fn hfn rc hrc
 rw [hs3] at hrc
 rw [hs3]
 have hY:∀ A:At8,A.Lc=B→A.Wb<A.c3→Yd A rc:=by
  clear H3 HS3 hs3 HH HW1
  intro A hLc hwb pre M W u t m hS hP hu hBt h1 hl hT
  have HN:Hid ((dirs pre).length<1000000):=Nat.lt_of_le_of_lt (by unfold dirs;rw [List.length_map];exact List.length_filter_le _ _) hP
  clear hP
  obtain ⟨ul,hR,rfl⟩:=hS
  have hlt:=hR.lt
  have hst:rc.state=.ready:=by rw [hrc]
  have hpe:rc.pending=none:=by rw [hrc]
  have hpa:rc.params=#[8]:=by rw [hrc]
  have hy:=run_yield (P:=Tryz.prog) (args:=#[u]) hR.lp (by rw [hpa];rfl)
  refine ⟨_,_,_,_,hy,roundIn_of_wpIn trivial ?_⟩
  have hbr:=run_beginRound (P:=Tryz.prog) hR.lp hst
  obtain ⟨W2,hW2⟩:∃ W2,W2=W.putObj (A.l0+1) (.loop { rc with state:=.busy }):=⟨_,rfl⟩
  rw [← hW2] at hbr
  have hc2:∀ a,W2.cell? a=W.cell? a:=fun a=>by rw [hW2];exact cS _ hR.lp rfl rfl a
  have hbl:Below (A.l0+1) W W2:=by rw [hW2];exact ⟨rfl,rfl,rfl,by simp,fun b hb=>World.putObj_heap_other (by omega)⟩
  have hT2:Su.Tabs W2:=hT.below hbl (by have:=hR.los.2.1;have:=hR.lo4;omega)
  have hu2:Su.Has W2 u t:=hu.block fun a _=>hc2 a
  have hbx2:Boxed W2 B 109 ul:=by
   rw [hW2,← hLc]
   refine (World.putObj_heap_other fun e=>?_).trans hR.bx
   have h':W.heap[A.Lc]?=some _:=hR.bx
   rw [e,hR.lp] at h'
   cases h'
  have how2:W2.ownsRow A.lo 22 32 ul (dirs pre).length (hrow (dirs pre)):=by rw [hW2];exact ownsRow_putObj hR.ow _ hR.lp rfl
  have hbu2:W2.heap[A.l0+1]?=some (.loop { rc with state:=.busy }):=by rw [hW2];exact World.putObj_heap_same (gS hR.lp)
  have hsa2:∀ b:Nat,b≠A.l0+1→W2.heap[b]?=W.heap[b]?:=fun b hb=>by rw [hW2];exact World.putObj_heap_other hb
  have hsz2:W2.heap.size=W.heap.size:=by rw [hW2];simp
  have hos2:W2.os=W.os∧W2.tape=W.tape∧W2.output=W.output:=by rw [hW2];exact ⟨rfl,rfl,rfl⟩
  clear hW2
  obtain ⟨ao,cp,rfl,hcp⟩:=hu2.form
  obtain ⟨ad,had⟩:∃ ad,ao=some ad:=by
   rcases hu2 with ⟨h',_⟩ | ⟨a,cap,h',_⟩
   ·simp at h';omega
   ·simp at h';exact ⟨_,h'.1⟩
  subst had
  have e0:ad.add 0=ad:=by cases ad;simp [Addr.add]
  have hcell:W2.cell? ad=some (.int .u8 ((t.getD 0 0:Nat):Int)):=by
   rcases hu2 with ⟨h',_⟩ | ⟨a,cap,h',_,hh⟩
   ·simp at h'
   ·have:=hh 0 (by omega)
    simp at h'
    rw [← h'.1,e0] at this
    exact this
  clear e0
  have HY:=hid (⟨hR,hlt,hst,hpe,hc2,hT2,hu2,hbx2,how2,hbu2,hsa2,hsz2,hos2,hT,hu,hBt,h1,hl,hy⟩:_∧_∧_∧_∧_∧_∧_∧_∧_∧_∧_∧_∧_∧_∧_∧_∧_∧_∧_)
  have hlen0:(0:Int)<(t.length:Int):=by omega
  clear hR hlt hpe hc2 hbl hT2 hu2 hbx2 how2 hbu2 hsa2 hsz2 hos2 hT hu hBt hl hy hst hpa
  subst hrc
  gi_wp2_with fail
  refine ⟨W2,hbr,?_⟩
  obtain ⟨c0,hc0⟩:∃ c0,t.getD 0 0=c0:=⟨_,rfl⟩
  have HC:=hid hc0
  rw [hc0] at hcell
  clear hc0 hbr
  by_cases h68:c0=68
  ·subst h68
   gi_wp2_with fail
   clear hcell hlen0
   refine kE (fun _=>True) ?_
   obtain ⟨hR,hlt,hst,hpe,hc2,hT2,hu2,hbx2,how2,hbu2,hsa2,hsz2,hos2,hT,hu,hBt,_,hl,hy⟩:=HY.o
   have hG0:G W2 W2.drew:=G.drew W2
   generalize W2.drew=w0 at *
   obtain ⟨N0,hN0⟩:∃ N0,w0.heap.size=N0:=⟨_,rfl⟩
   obtain ⟨w1,hw1⟩:∃ w1,w1=w0.alloc (.cells #[.slice (some ad) t.length cp] 35):=⟨_,rfl⟩
   have hG1:G W2 w1:=hG0.trans (by rw [hw1];exact G.alloc _ _)
   have hbx1:Boxed w1 B 109 ul:=(hG1.block B hbx2.lt).trans hbx2
   have hb0:w0.cell? ⟨B,0,none⟩=some ul:=Boxed.cell ((hG0.block B hbx2.lt).trans hbx2)
   have hb1:=hbx1.cell
   have CC:=pQ (.slice (some ad) t.length cp) t w1 N0 (by have:=jB (jW w0 #[.slice (some ad) t.length cp] 35) 0 _ rfl;rw [hN0] at this;rw [hw1];exact this) (hu2.below hG1) hBt (hT2.up hG1) (by omega)
   have HX:Hid (((shaL t).map Su.vb).toArray.size=32∧((shaL t).map Su.vb).toArray.all (·.oneCell')=true):=⟨by simp [qg],kV _⟩
   have FIN:=@fin8 A _ pre ul W W2 t B hLc hwb hR rfl rfl hbx2 how2 hbu2 hsa2 hsz2 hos2 (HC.o) (by have:=HN.o;omega) w1 hG1
   generalize ((shaL t).map Su.vb).toArray=X at *
   refine jb [0,1] (by kernel_rfl) (by simp) ?_
   refine AllJ.value jH 0 13 ul w0 rfl (by kernel_rfl) (by have y:=hb0;go_simp) trivial ?_ ?_
   ·try simp only [Act.put,sA,sB,sC]
    refine jb [1] (by kernel_rfl) (by simp) ?_
    refine AllJ.value jH 1 14 (.slice (some ad) t.length cp) w0 rfl (by kernel_rfl) (by go_simp) trivial ?_ AllJ.nil
    try simp only [Act.put,sA,sB,sC]
    refine jb [2] (by kernel_rfl) (by simp) ?_
    refine AllJ.value jH 2 15 (.slice (some ⟨N0,0,none⟩) 1 1) w1 rfl (by kernel_rfl) (by rw [hw1];have y:=hN0;go_simp) trivial ?_ AllJ.nil
    try simp only [Act.put,sA,sB,sC]
    refine jb [3] (by kernel_rfl) (by simp) ?_
    refine AllJ.call jH 3 16 83 #[.slice (some ⟨N0,0,none⟩) 1 1] rfl (by kernel_rfl) (by go_simp) (CallsIn.inRound _ ((callsIn_wide.2 CC).mono ?_)) AllJ.nil
    rintro e w2 ⟨rfl,hg2⟩
    have hb2:=(hg2.block B (hbx1.lt)).trans hbx1 |> Boxed.cell
    refine ⟨_,rfl,trivial,?_⟩
    try simp only [Act.put,sA,sB,sC]
    refine jb [4] (by kernel_rfl) (by simp) ?_
    obtain ⟨w3,hw3⟩:∃ w3,w3=w2.alloc (.cells X 22):=⟨_,rfl⟩
    have hb3:w3.cell? ⟨B,0,none⟩=some ul:=by rw [hw3];exact (Boxed.alloc ((hg2.block B (hbx1.lt)).trans hbx1) _).cell
    refine AllJ.value jH 4 17 (.slice (some ⟨w2.heap.size,0,none⟩) 1 1) w3 rfl (by kernel_rfl) (by rw [hw3];exact yO _ rfl X rfl HX.o.1 w2) trivial ?_ AllJ.nil
    try simp only [Act.put,sA,sB,sC]
    refine jb [5] (by kernel_rfl) (by simp) ?_
    refine AllJ.valueE jH 5 18 rfl (by kernel_rfl) (FIN w2 w3 hg2 hw3 rfl rfl rfl ?_) AllJ.nil
    intro v' w4 hRa hRo hRb
    refine ⟨trivial,?_⟩
    try simp only [Act.put,sA,sB,sC]
    refine jb [6] (by kernel_rfl) (by simp) ?_
    refine AllJ.skip jH 6 (w4.setCell ⟨B,0,none⟩ v') rfl (by kernel_rfl) (kN _ _ rfl B ul v' rfl rfl hRo _ hRa) trivial ?_ AllJ.nil
    try simp only [List.setIfInBounds_toArray,List.set_cons_zero,List.set_cons_succ]
    exact xn (by kernel_rfl) hRb
   ·skip
    refine AllJ.value jH 1 14 (.slice (some ad) t.length cp) w0 rfl (by kernel_rfl) (by go_simp) trivial ?_ AllJ.nil
    try simp only [Act.put,sA,sB,sC]
    refine jb [0,2] (by kernel_rfl) (by simp) ?_
    refine AllJ.value jH 0 13 ul w0 rfl (by kernel_rfl) (by have y:=hb0;go_simp) trivial ?_ ?_
    ·try simp only [Act.put,sA,sB,sC]
     refine jb [2] (by kernel_rfl) (by simp) ?_
     refine AllJ.value jH 2 15 (.slice (some ⟨N0,0,none⟩) 1 1) w1 rfl (by kernel_rfl) (by rw [hw1];have y:=hN0;go_simp) trivial ?_ AllJ.nil
     try simp only [Act.put,sA,sB,sC]
     refine jb [3] (by kernel_rfl) (by simp) ?_
     refine AllJ.call jH 3 16 83 #[.slice (some ⟨N0,0,none⟩) 1 1] rfl (by kernel_rfl) (by go_simp) (CallsIn.inRound _ ((callsIn_wide.2 CC).mono ?_)) AllJ.nil
     rintro e w2 ⟨rfl,hg2⟩
     have hb2:=(hg2.block B (hbx1.lt)).trans hbx1 |> Boxed.cell
     refine ⟨_,rfl,trivial,?_⟩
     try simp only [Act.put,sA,sB,sC]
     refine jb [4] (by kernel_rfl) (by simp) ?_
     obtain ⟨w3,hw3⟩:∃ w3,w3=w2.alloc (.cells X 22):=⟨_,rfl⟩
     have hb3:w3.cell? ⟨B,0,none⟩=some ul:=by rw [hw3];exact (Boxed.alloc ((hg2.block B (hbx1.lt)).trans hbx1) _).cell
     refine AllJ.value jH 4 17 (.slice (some ⟨w2.heap.size,0,none⟩) 1 1) w3 rfl (by kernel_rfl) (by rw [hw3];exact yO _ rfl X rfl HX.o.1 w2) trivial ?_ AllJ.nil
     try simp only [Act.put,sA,sB,sC]
     refine jb [5] (by kernel_rfl) (by simp) ?_
     refine AllJ.valueE jH 5 18 rfl (by kernel_rfl) (FIN w2 w3 hg2 hw3 rfl rfl rfl ?_) AllJ.nil
     intro v' w4 hRa hRo hRb
     refine ⟨trivial,?_⟩
     try simp only [Act.put,sA,sB,sC]
     refine jb [6] (by kernel_rfl) (by simp) ?_
     refine AllJ.skip jH 6 (w4.setCell ⟨B,0,none⟩ v') rfl (by kernel_rfl) (kN _ _ rfl B ul v' rfl rfl hRo _ hRa) trivial ?_ AllJ.nil
     try simp only [List.setIfInBounds_toArray,List.set_cons_zero,List.set_cons_succ]
     exact xn (by kernel_rfl) hRb
    ·skip
     refine AllJ.value jH 2 15 (.slice (some ⟨N0,0,none⟩) 1 1) w1 rfl (by kernel_rfl) (by rw [hw1];have y:=hN0;go_simp) trivial ?_ AllJ.nil
     try simp only [Act.put,sA,sB,sC]
     refine jb [0,3] (by kernel_rfl) (by simp) ?_
     refine AllJ.value jH 0 13 ul w1 rfl (by kernel_rfl) (by have y:=hb1;clear hw1;go_simp) trivial ?_ ?_
     ·try simp only [Act.put,sA,sB,sC]
      refine jb [3] (by kernel_rfl) (by simp) ?_
      refine AllJ.call jH 3 16 83 #[.slice (some ⟨N0,0,none⟩) 1 1] rfl (by kernel_rfl) (by go_simp) (CallsIn.inRound _ ((callsIn_wide.2 CC).mono ?_)) AllJ.nil
      rintro e w2 ⟨rfl,hg2⟩
      have hb2:=(hg2.block B (hbx1.lt)).trans hbx1 |> Boxed.cell
      refine ⟨_,rfl,trivial,?_⟩
      try simp only [Act.put,sA,sB,sC]
      refine jb [4] (by kernel_rfl) (by simp) ?_
      obtain ⟨w3,hw3⟩:∃ w3,w3=w2.alloc (.cells X 22):=⟨_,rfl⟩
      have hb3:w3.cell? ⟨B,0,none⟩=some ul:=by rw [hw3];exact (Boxed.alloc ((hg2.block B (hbx1.lt)).trans hbx1) _).cell
      refine AllJ.value jH 4 17 (.slice (some ⟨w2.heap.size,0,none⟩) 1 1) w3 rfl (by kernel_rfl) (by rw [hw3];exact yO _ rfl X rfl HX.o.1 w2) trivial ?_ AllJ.nil
      try simp only [Act.put,sA,sB,sC]
      refine jb [5] (by kernel_rfl) (by simp) ?_
      refine AllJ.valueE jH 5 18 rfl (by kernel_rfl) (FIN w2 w3 hg2 hw3 rfl rfl rfl ?_) AllJ.nil
      intro v' w4 hRa hRo hRb
      refine ⟨trivial,?_⟩
      try simp only [Act.put,sA,sB,sC]
      refine jb [6] (by kernel_rfl) (by simp) ?_
      refine AllJ.skip jH 6 (w4.setCell ⟨B,0,none⟩ v') rfl (by kernel_rfl) (kN _ _ rfl B ul v' rfl rfl hRo _ hRa) trivial ?_ AllJ.nil
      try simp only [List.setIfInBounds_toArray,List.set_cons_zero,List.set_cons_succ]
      exact xn (by kernel_rfl) hRb
     ·skip
      refine AllJ.call jH 3 16 83 #[.slice (some ⟨N0,0,none⟩) 1 1] rfl (by kernel_rfl) (by go_simp) (CallsIn.inRound _ ((callsIn_wide.2 CC).mono ?_)) AllJ.nil
      rintro e w2 ⟨rfl,hg2⟩
      have hb2:=(hg2.block B (hbx1.lt)).trans hbx1 |> Boxed.cell
      refine ⟨_,rfl,trivial,?_⟩
      try simp only [Act.put,sA,sB,sC]
      refine jb [0,4] (by kernel_rfl) (by simp) ?_
      refine AllJ.value jH 0 13 ul w2 rfl (by kernel_rfl) (by have y:=hb2;go_simp) trivial ?_ ?_
      ·try simp only [Act.put,sA,sB,sC]
       refine jb [4] (by kernel_rfl) (by simp) ?_
       obtain ⟨w3,hw3⟩:∃ w3,w3=w2.alloc (.cells X 22):=⟨_,rfl⟩
       have hb3:w3.cell? ⟨B,0,none⟩=some ul:=by rw [hw3];exact (Boxed.alloc ((hg2.block B (hbx1.lt)).trans hbx1) _).cell
       refine AllJ.value jH 4 17 (.slice (some ⟨w2.heap.size,0,none⟩) 1 1) w3 rfl (by kernel_rfl) (by rw [hw3];exact yO _ rfl X rfl HX.o.1 w2) trivial ?_ AllJ.nil
       try simp only [Act.put,sA,sB,sC]
       refine jb [5] (by kernel_rfl) (by simp) ?_
       refine AllJ.valueE jH 5 18 rfl (by kernel_rfl) (FIN w2 w3 hg2 hw3 rfl rfl rfl ?_) AllJ.nil
       intro v' w4 hRa hRo hRb
       refine ⟨trivial,?_⟩
       try simp only [Act.put,sA,sB,sC]
       refine jb [6] (by kernel_rfl) (by simp) ?_
       refine AllJ.skip jH 6 (w4.setCell ⟨B,0,none⟩ v') rfl (by kernel_rfl) (kN _ _ rfl B ul v' rfl rfl hRo _ hRa) trivial ?_ AllJ.nil
       try simp only [List.setIfInBounds_toArray,List.set_cons_zero,List.set_cons_succ]
       exact xn (by kernel_rfl) hRb
      ·skip
       obtain ⟨w3,hw3⟩:∃ w3,w3=w2.alloc (.cells X 22):=⟨_,rfl⟩
       have hb3:w3.cell? ⟨B,0,none⟩=some ul:=by rw [hw3];exact (Boxed.alloc ((hg2.block B (hbx1.lt)).trans hbx1) _).cell
       refine AllJ.value jH 4 17 (.slice (some ⟨w2.heap.size,0,none⟩) 1 1) w3 rfl (by kernel_rfl) (by rw [hw3];exact yO _ rfl X rfl HX.o.1 w2) trivial ?_ AllJ.nil
       try simp only [Act.put,sA,sB,sC]
       refine jb [0] (by kernel_rfl) (by simp) ?_
       refine AllJ.value jH 0 13 ul w3 rfl (by kernel_rfl) (by have y:=hb3;clear hw3;go_simp) trivial ?_ AllJ.nil
       try simp only [Act.put,sA,sB,sC]
       refine jb [5] (by kernel_rfl) (by simp) ?_
       refine AllJ.valueE jH 5 18 rfl (by kernel_rfl) (FIN w2 w3 hg2 hw3 rfl rfl rfl ?_) AllJ.nil
       intro v' w4 hRa hRo hRb
       refine ⟨trivial,?_⟩
       try simp only [Act.put,sA,sB,sC]
       refine jb [6] (by kernel_rfl) (by simp) ?_
       refine AllJ.skip jH 6 (w4.setCell ⟨B,0,none⟩ v') rfl (by kernel_rfl) (kN _ _ rfl B ul v' rfl rfl hRo _ hRa) trivial ?_ AllJ.nil
       try simp only [List.setIfInBounds_toArray,List.set_cons_zero,List.set_cons_succ]
       exact xn (by kernel_rfl) hRb
  ·have h68':¬ ((c0:Int)=68):=by omega
   gi_wp2_with fail
   obtain ⟨hR,hlt,hst,hpe,hc2,hT2,hu2,hbx2,how2,hbu2,hsa2,hsz2,hos2,hT,hu,hBt,_,hl,hy⟩:=HY.o
   have ed:dirs (pre++[t])=dirs pre:=by rw [mT,HC.o,if_neg h68]
   exact gY hR rfl rfl hwb (by rw [hLc];exact hbx2) (by rw [ed];exact how2) hos2 (by omega) (fun b _ _ _ h=>hsa2 b h) hbu2 (fun b h=>.inl h)
 obtain ⟨hA,hv,hf,hsz,hT,_⟩:=HH.o
 obtain ⟨g3,k1,k2,k3,k4⟩:=H3.o
 obtain ⟨W6,hW6⟩:∃ W6,W6=(w3.alloc (.deferred (some []))).alloc (.loop rc):=⟨_,rfl⟩
 have g6:G w3 W6:=by rw [hW6];exact (G.alloc _ _).trans (G.alloc _ _)
 have z6:W6.heap.size=B+6:=by rw [hW6,World.size_alloc,World.size_alloc,hs3]
 have lp6:W6.heap[B+4+1]?=some (.loop rc):=by
  have:=World.alloc_heap_new (w3.alloc (.deferred (some []))) (.loop rc)
  rw [World.size_alloc,hs3] at this
  rw [hW6];exact this
 have df6:W6.heap[B+4]?=some (.deferred (some [])):=by
  rw [hW6,Below.heap_alloc _ _ _ (by rw [World.size_alloc,hs3];omega)]
  have:=World.alloc_heap_new w3 (.deferred (some []))
  rw [hs3] at this
  exact this
 have gw6:G w W6:=g3.trans g6
 have CC:=nU ⟨B,B+4,B+2,B+1,B+6,B+8,B+7,B⟩ rc (hY _ rfl (by show B+7<B+8;omega)) (B+3) p v m k w W6 hA hv hf hsz (Nat.le_of_eq hB) gw6 (hT.up gw6) ((g6.block _ k1.lt).trans k1) lp6 df6 ((g6.block _ k3.lt).trans k3) ((g6.block _ (gS k2)).trans k2) ((g6.block _ k4.lt).trans k4) z6.symm (by show B+7=_;rw [z6]) (by show B+8=_;rw [z6]) h4 ⟨Nat.le_refl _,by show B≤B+4;omega,by show B≤B+2;omega,by show B≤B+1;omega⟩
 rw [← hW6]
 simp only [List.append_toArray,List.cons_append,List.nil_append]
 refine CallsIn.mono (callsIn_wide.2 CC) ?_
 rintro e W' ⟨rfl,M',⟨u,hR,rfl⟩,_,hfr⟩
 refine ⟨⟨_,rfl⟩,hR.lp,?_⟩
 have hlpB:W'.heap[B+4+1]?=some (.loop rc):=hR.lp
 have hbxB:Boxed W' B 109 u:=hR.bx
 have hdfB:W'.heap[B+4]?=some (.deferred (some [])):=hR.df
 have howB:W'.ownsRow B 22 32 u (dirs (jt v k.flat).2).length (hrow (dirs (jt v k.flat).2)):=hR.ow
 have hbe:Below B W6 W':=hfr.below (fun b hb=>by
  rcases hb with h | h | h | h | h | h | h | h
  ·exact Nat.le_of_eq h.symm
  ·cases h
  all_goals (simp only at h;omega)) (by rw [z6];omega)
 obtain ⟨W7,hW7⟩:∃ W7,W7=W'.putObj (B+4+1) (.loop { rc with state:=.exhausted }):=⟨_,rfl⟩
 rw [← hW7]
 have hc7:W7.cell? ⟨B,0,none⟩=some u:=by rw [hW7,cS _ hlpB rfl rfl];exact hbxB.cell
 have hdf7:W7.heap[B+4]?=some (.deferred (some [])):=by rw [hW7];exact (World.putObj_heap_other (by omega)).trans hdfB
 have how7:W7.ownsRow B 22 32 u (dirs (jt v k.flat).2).length (hrow (dirs (jt v k.flat).2)):=by rw [hW7];exact ownsRow_putObj howB _ hlpB rfl
 have hG7:Below B w W7:=(gw6.mono (Nat.le_of_eq hB.symm)).trans (hbe.trans (by rw [hW7];exact ⟨rfl,rfl,rfl,by simp,fun b hb=>World.putObj_heap_other (by omega)⟩))
 have HF:=hid (⟨hdf7,how7,hG7⟩:_∧_∧_)
 clear hW7 hdf7 how7 hG7 hbe howB hdfB hbxB hlpB hR hfr CC gw6 df6 lp6 z6 g6 hW6 k1 k2 k3 k4 g3 hA hv hf hsz hT hY hrc
 gi_wp2_with fail
 obtain ⟨hdf7,how7,hG7⟩:=HF.o
 refine ⟨by simp,.inl ⟨_,_,rfl,run_takeDeferred hdf7,?_⟩⟩
 refine ⟨_,results_tmp rfl _ _ _,u,rfl,by rw [hB];exact ownsRow_putObj how7 _ hdf7 rfl,?_⟩
 show Below w.heap.size w _
 rw [hB]
 exact hG7.trans ⟨rfl,rfl,rfl,by simp,fun b hb=>World.putObj_heap_other (by omega)⟩
theorem gE {ops:Array Oper} {rest:List Oper} {o:Oper} {a:Act} {w:World} {Q:Exit→Act→World→Prop} (hw:Region.wanted o (yielded ops a.tmps)=true)
    (h:∃ v w',(execOp a.eval o).run Tryz.prog w=.ok (.value v) w'∧wpList Tryz.prog ops Q rest (a.put o.dst v) w'):wpList Tryz.prog ops Q (o::rest) a w:=by
  obtain ⟨v,w',h1,h2⟩:=h
  exact jF v w' h1 h2 hw
theorem pV {o:Oper} {a:Act} {Kp:Value→World→Prop} (s x:Operand) (ho:o.op=.call { callee:=.builtin .append,args:=#[s,x],argTypes:=#[35,35] }) (lo:Nat) (v vx:Value) (m l:List Nat) (w:World) (hs:a.eval s=v) (hx:a.eval x=vx) (hown:Su.Owns w lo v m) (hhas:Su.Has w vx l)
    (hlen:m.length+l.length≤16777216) (hb:lo≤w.heap.size) (hK:∀ v' w',Su.Owns w' lo v' (m++l)→w.grownBy w' v.ownBlock→(v'.ownBlock=v.ownBlock∨v'.ownBlock=some w.heap.size)→Kp v' w'):∃ v' w',(execOp a.eval o).run Tryz.prog w=.ok (.value v') w'∧Kp v' w':=by
  obtain ⟨v',w',h1,h2,h3,h4⟩:=xr s x ho lo v vx m l w hs hx hown hhas hlen hb
  exact ⟨v',w',h1,hK v' w' h2 h3 h4⟩
def HsAt (w:World) (g o n cap:Nat) (hs:List (List Nat)):Prop:=hs.length=n∧n≤cap∧∃ cur,w.heap[g]?=some (.cells cur 22 (0,0))∧(cur.toList.drop (o*32)).take (n*32)=hrow hs∧(o+n)*32≤cur.size
def MW8 (X:Nat) (u vh:Value):Nat→Prop:=fun b=>b=X∨some b=u.ownBlock∨(∃ g o n c,vh=.slice (some ⟨g,o,none⟩) n c∧b=g)
structure Wr (lo X:Nat) (b:List Nat) (ver:Int) (hs:List (List Nat)) (u vh:Value) (w:World):Prop where
  at_:w.heap[X]?=some (.cells #[u,.int .i64 ver,vh] 112 (0,0))
  ow:Su.Owns w lo u b
  hv:(∃ n cap,vh=.slice none n cap∧hs=[])∨∃ g o n cap,vh=.slice (some ⟨g,o*32,none⟩) n cap∧lo≤g∧HsAt w g o n cap hs
  lx:lo≤X
def Ws (lo X:Nat) (b:List Nat) (ver:Int) (hs:List (List Nat)) (M:Nat→Prop) (w:World):Prop:=∃ u vh,Wr lo X b ver hs u vh w∧M=MW8 X u vh
theorem Wr.keep {lo X:Nat} {b:List Nat} {ver:Int} {hs:List (List Nat)} {u vh:Value} {w w':World} (h:Wr lo X b ver hs u vh w) (hk:∀ b,MW8 X u vh b→w'.heap[b]?=w.heap[b]?):Wr lo X b ver hs u vh w':=by
  refine ⟨(hk X (.inl rfl)).trans h.at_,h.ow.block fun k hk'=>hk k (.inr (.inl hk'.symm)),?_,h.lx⟩
  rcases h.hv with h1 | ⟨g,o,n,cap,rfl,hl,h1,h2,cur,h3,h4⟩
  · exact .inl h1
  · exact .inr ⟨g,o,n,cap,rfl,hl,h1,h2,cur,(hk g (.inr (.inr ⟨_,_,_,_,rfl,rfl⟩))).trans h3,h4⟩
theorem Wr.lt {lo X:Nat} {b:List Nat} {ver:Int} {hs:List (List Nat)} {u vh:Value} {w:World} (h:Wr lo X b ver hs u vh w):lo≤w.heap.size∧∀ c,MW8 X u vh c→lo≤c∧c<w.heap.size:=by
  have hX:=(gS h.at_)
  refine ⟨by have:=h.lx;omega,fun c hc=>?_⟩
  rcases hc with rfl | hc | ⟨g,o,n,cp,hv,rfl⟩
  · exact ⟨h.lx,hX⟩
  · exact h.ow.lt c hc.symm
  · rcases h.hv with ⟨n',cap,h1,_⟩ | ⟨g',o',n',cap,h1,hl,_,_,cur,h3,_⟩
    · rw [hv] at h1;simp at h1
    · rw [hv] at h1
      simp at h1
      obtain ⟨⟨rfl,_⟩,_⟩:=h1
      exact ⟨hl,(gS h3)⟩
theorem Wr.neX {lo X:Nat} {b:List Nat} {ver:Int} {hs:List (List Nat)} {u vh:Value} {w:World} (h:Wr lo X b ver hs u vh w):some X≠u.ownBlock:=fun e=>by
  obtain ⟨_,⟨rfl,_⟩ | ⟨g,cp,cur,rv,_,rh,_⟩⟩:=h.ow
  · cases e
  · rw [rv] at e
    have:X=g:=by simpa [Value.ownBlock] using e
    subst this
    rw [h.at_] at rh
    cases rh
theorem Wr.neH {lo X:Nat} {b:List Nat} {ver:Int} {hs:List (List Nat)} {u vh:Value} {w:World} (h:Wr lo X b ver hs u vh w) {g o n c:Nat} (hv:vh=.slice (some ⟨g,o,none⟩) n c):some g≠u.ownBlock∧g≠X:=by
  rcases h.hv with ⟨n',cap,h1,_⟩ | ⟨g',o',n',cap,h1,hl,_,_,cur,h3,_⟩
  · rw [hv] at h1;simp at h1
  · rw [hv] at h1
    simp at h1
    obtain ⟨⟨rfl,_⟩,_⟩:=h1
    refine ⟨fun e=>?_,fun e=>?_⟩
    · obtain ⟨_,⟨rfl,_⟩ | ⟨gg,cp,cur',rv,_,rh,_⟩⟩:=h.ow
      · cases e
      · rw [rv] at e
        have:g=gg:=by simpa [Value.ownBlock] using e
        subst this
        rw [h3] at rh
        cases rh
    · subst e
      rw [h.at_] at h3
      cases h3
def PoW (lo X:Nat) (b:List Nat) (ver:Int) (hs:List (List Nat)) (M:Nat→Prop) (w w':World):Prop:=∃ M',Ws lo X b ver hs M' w'∧(∀ b,M' b→M b∨w.heap.size≤b)∧Fr M w w'
theorem Ws.keep {lo X:Nat} {b:List Nat} {ver:Int} {hs:List (List Nat)} {M:Nat→Prop} {w w':World} (h:Ws lo X b ver hs M w) (hg:G w w'):Ws lo X b ver hs M w':=by
  obtain ⟨u,vh,h1,rfl⟩:=h
  exact ⟨u,vh,h1.keep fun b hb=>hg.block b (h1.lt.2 b hb).2,rfl⟩
theorem PoW.after {lo X:Nat} {b:List Nat} {ver:Int} {hs:List (List Nat)} {M:Nat→Prop} {w w1 w2:World} (h:PoW lo X b ver hs M w1 w2) (hg:G w w1):PoW lo X b ver hs M w w2:=by
  obtain ⟨M',h1,h2,h3⟩:=h
  exact ⟨M',h1,fun c hc=>(h2 c hc).imp id fun h=>Nat.le_trans hg.size h,(Fr.of_G hg).trans (fun c h=>.inl h) h3⟩
theorem PoW.next {lo X:Nat} {b b':List Nat} {ver:Int} {hs hs':List (List Nat)} {M:Nat→Prop} {w w1 w2:World} (h:PoW lo X b ver hs M w w1) (hn:∀ M1,Ws lo X b ver hs M1 w1→PoW lo X b' ver hs' M1 w1 w2):PoW lo X b' ver hs' M w w2:=by
  obtain ⟨M1,h1,h2,h3⟩:=h
  obtain ⟨M2,g1,g2,g3⟩:=hn M1 h1
  exact ⟨M2,g1,fun c hc=>(g2 c hc).elim (h2 c) fun h=>.inr (Nat.le_trans h3.size h),h3.trans h2 g3⟩
theorem Wr.added {lo X:Nat} {b t:List Nat} {ver:Int} {hs:List (List Nat)} {u vh u':Value} {w w1:World} (h:Wr lo X b ver hs u vh w) (ho:Su.Owns w1 lo u' (b++t)) (hg:w.grownBy w1 u.ownBlock) (hb:u'.ownBlock=u.ownBlock∨u'.ownBlock=some w.heap.size):
    w1.heap[X]?=some (.cells #[u,.int .i64 ver,vh] 112 (0,0))∧PoW lo X (b++t) ver hs (MW8 X u vh) w (w1.setCell ⟨X,0,none⟩ u'):=by
  have hX:=(gS h.at_)
  have hx1:w1.heap[X]?=some (.cells #[u,.int .i64 ver,vh] 112 (0,0)):=(hg.block X hX h.neX).trans h.at_
  have hoth:∀ c:Nat,c≠X→(w1.setCell ⟨X,0,none⟩ u').heap[c]?=w1.heap[c]?:=fun c hc=>Below.heap_setCell _ _ _ _ hc
  have hsame:∀ c:Nat,c<w.heap.size→c≠X→some c≠u.ownBlock→(w1.setCell ⟨X,0,none⟩ u').heap[c]?=w.heap[c]?:=fun c h1 h2 h3=>(hoth c h2).trans (hg.block c h1 h3)
  have hu'X:some X≠u'.ownBlock:=fun e=>by
    rcases hb with h1 | h1
    · exact h.neX (e.trans h1)
    · rw [h1] at e;have:X=w.heap.size:=by simpa using e
      omega
  refine ⟨hx1,_,⟨u',vh,⟨?_,ho.block fun k hk=>hoth k fun e=>hu'X (by rw [← e,hk]),?_,h.lx⟩,rfl⟩,?_,?_⟩
  · unfold World.setCell
    simp only []
    rw [Array.getElem?_modify]
    simp [hx1]
  · rcases h.hv with h1 | ⟨g,o,n,cap,rfl,hl,h1,h2,cur,h3,h4⟩
    · exact .inl h1
    · have hn:=h.neH rfl
      exact .inr ⟨g,o,n,cap,rfl,hl,h1,h2,cur,(hsame g (gS h3) hn.2 hn.1).trans h3,h4⟩
  · rintro c (hc | hc | hc)
    · exact .inl (.inl hc)
    · rcases hb with h1 | h1
      · exact .inl (.inr (.inl (hc.trans h1)))
      · rw [h1] at hc
        exact .inr (by have:c=w.heap.size:=by simpa using hc
                       omega)
    · exact .inl (.inr (.inr hc))
  · refine ⟨hg.os,hg.tape,hg.output,by rw [World.size_setCell];exact hg.size,fun c hc hn=>hsame c hc (fun e=>hn (.inl e)) fun e=>hn (.inr (.inl e))⟩
theorem qk {lo X:Nat} {b t:List Nat} {ver:Int} {hs:List (List Nat)} {M:Nat→Prop} {w:World} {x:Value} (hS:Ws lo X b ver hs M w) (hx:Su.Has w x t) (hl:b.length+t.length≤16777216):
    Calls Tryz.prog 55 #[.pointer (some ⟨X,0,none⟩),x] w fun e w'=>e=.returned (.tuple #[])∧PoW lo X (b++t) ver hs M w w':=by
  obtain ⟨u,vh,hW,rfl⟩:=hS
  have q0:=jB (jD hW.at_) 0 _ rfl
  have HH:=hid (⟨hW,hx,hl⟩:_∧_∧_)
  clear hW hx hl
  go_enter Tryz.func55,Tryz.ntmps55
  go_wp2_with ((with_reducible refine gE ?_ ?_);kernel_rfl;refine pV (.tmp 8) (.tmp 9) rfl lo u x b t w rfl rfl HH.o.1.ow HH.o.2.1 HH.o.2.2 HH.o.1.lt.1 ?_;intro u' w1 ho hg hb;obtain ⟨ao,uc,rfl⟩:=kO ho;have HE:=hid (HH.o.1.added ho hg hb);clear ho hg hb;have q1:=jB (jD HE.o.1) 0 _ rfl;have f1:w1.frozen? ⟨X,0,none⟩=false:=by simp [World.frozen?,HE.o.1])
  go_end0
  have:=HE.o.2
  rw [lA] at this
  exact ⟨rfl,this⟩
theorem kq {lo X:Nat} {b:List Nat} {ver:Int} {hs:List (List Nat)} {M:Nat→Prop} {w:World} (n:Nat) (hn:n<9223372036854775808) (hS:Ws lo X b ver hs M w) (hl:b.length+16≤16777216):
    Calls Tryz.prog 56 #[.pointer (some ⟨X,0,none⟩),.int .i64 (n:Int)] w fun e w'=>e=.returned (.tuple #[])∧PoW lo X (b++encN n) ver hs M w w':=by
  have HH:=hid (⟨hS,hl⟩:_∧_)
  clear hS hl
  go_enter Tryz.func56,Tryz.ntmps56
  go_wp2_with (first
    | (go_at_call 84;refine (fy (.slice none 0 0) [] n w (Su.Has.nil w) (by omega) (by simp)).mono ?_;rintro e w2 ⟨v,rfl,h1,h2⟩;have HO:=hid (⟨h1,h2⟩:_∧_);clear h1 h2)
    | (go_at_call 55;refine (qk (HH.o.1.keep HO.o.2) HO.o.1.has (by have:=HH.o.2;have:=jT (n:=n) (by omega);simp only [List.nil_append];omega)).mono ?_;rintro e w3 ⟨rfl,h3⟩;have HP:=hid h3;clear h3))
  go_end0
  exact ⟨rfl,HP.o.after HO.o.2⟩
theorem dm {lo X:Nat} {b:List Nat} {ver:Int} {hs:List (List Nat)} {M:Nat→Prop} {w:World} (v:Vd) (hm:0≤v.mode∧v.mode<256) (hS:Ws lo X b ver hs M w) (hl:b.length+16≤16777216):
    Calls Tryz.prog 85 #[.pointer (some ⟨X,0,none⟩),.agg (vx v).toArray] w fun e w'=>e=.returned (.tuple #[])∧PoW lo X (b++if 2≤ver then [v.mode.toNat] else []) ver hs M w w':=by
  obtain ⟨u,vh,hW,hM⟩:=hS
  obtain ⟨B,hB⟩:∃ B,w.heap.size=B:=⟨_,rfl⟩
  obtain ⟨md,hmd⟩:∃ md:Nat,v.mode=(md:Int):=⟨v.mode.toNat,by omega⟩
  have hG:G w (w.alloc (.cells (vx v).toArray 24)):=G.alloc _ _
  have q1:(w.alloc (.cells (vx v).toArray 24)).cell? ⟨X,1,none⟩=some (.int .i64 ver):=hG.cell (jB (jD hW.at_) 1 _ rfl)
  have q2:(w.alloc (.cells (vx v).toArray 24)).cell? ⟨B,1,none⟩=some (.int .i64 (md:Int)):=by
    have:=jB (jW w (vx v).toArray 24) 1 (.int .i64 v.mode) rfl
    rw [hB,hmd] at this
    exact this
  have hm2:md<256:=by omega
  have e0:v.mode.toNat=md:=by rw [hmd];rfl
  have hS':Ws lo X b ver hs M w:=⟨u,vh,hW,hM⟩
  have HH:=hid (⟨hS',hl,hG⟩:_∧_∧_)
  rw [e0]
  clear hS' hW hM hl hm e0 hmd hG
  generalize (vx v).toArray=XV at *
  by_cases hver:2≤ver
  · rw [if_pos hver]
    go_enter Tryz.func85,Tryz.ntmps85
    go_wp2_with (go_at_call 55;refine (qk ((HH.o.1.keep HH.o.2.2).keep (G.alloc _ (.cells #[Su.vb md] 5))) (t:=[md]) (by have:=(zq (w.alloc (.cells XV 24)) md).has;rw [World.size_alloc,hB] at this;exact this) (by have:=HH.o.2.1;simp only [lC,lN];omega)).mono ?_;rintro e w3 ⟨rfl,h3⟩;have HP:=hid h3;clear h3)
    go_end0
    exact ⟨rfl,HP.o.after (HH.o.2.2.trans (G.alloc _ _))⟩
  · rw [if_neg hver,List.append_nil]
    go_enter Tryz.func85,Tryz.ntmps85
    go_wp2_with fail
    go_end0
    exact ⟨rfl,M,HH.o.1.keep HH.o.2.2,fun c h=>.inl h,Fr.of_G HH.o.2.2⟩
theorem xy {lo X:Nat} {b:List Nat} {ver:Int} {hs:List (List Nat)} {M:Nat→Prop} {w:World} (v:Vd) (hm:0≤v.size∧v.size<9223372036854775808) (hS:Ws lo X b ver hs M w) (hl:b.length+64≤16777216):
  Calls Tryz.prog 87 #[.pointer (some ⟨X,0,none⟩),.agg (vx v).toArray] w fun e w'=>e=.returned (.tuple #[])∧PoW lo X (b++(encN v.size.toNat++v.sum)) ver hs M w w':=by
 obtain ⟨B,hB⟩:∃ B,w.heap.size=B:=⟨_,rfl⟩
 obtain ⟨sz,hsz⟩:∃ sz:Nat,v.size=(sz:Int):=⟨v.size.toNat,by omega⟩
 have hG:G w (w.alloc (.cells (vx v).toArray 24)):=G.alloc _ _
 have q2:(w.alloc (.cells (vx v).toArray 24)).cell? ⟨B,2,none⟩=some (.int .i64 (sz:Int)):=by
  have:=jB (jW w (vx v).toArray 24) 2 (.int .i64 v.size) rfl
  rw [hB,hsz] at this
  exact this
 have e0:v.size.toNat=sz:=by rw [hsz];rfl
 have hnew:(w.alloc (.cells (vx v).toArray 24)).heap[B]?=some (.cells (vx v).toArray 24 (0,0)):=by rw [← hB];exact World.alloc_heap_new w _
 have hbd:=hS
 obtain ⟨_,_,hW0,hM0⟩:=hbd
 have hnB:¬ M B:=fun h=>by rw [hM0] at h;have:=(hW0.lt.2 B h).2;omega
 have HH:=hid (⟨hS,hl,hG,hnew,hnB⟩:_∧_∧_∧_∧_)
 have hsz2:sz<9223372036854775808:=by omega
 rw [e0]
 clear hS hl hm e0 hsz hG hnew hnB hW0 hM0
 have HV:Hid (∀ W:World,W.heap[B]?=some (.cells (vx v).toArray 24 (0,0))→Su.Has W (.slice (some ⟨B,3,none⟩) 32 32) v.sum):=fun W hW=>by
  have:=ly (w:=W) (g:=B) (o:=3) (p:=v.sum) fun j u hj=>jB (jD hW) (3+j) u (by
   rw [List.getElem?_toArray,vx,show 3+j=j+1+1+1 by omega]
   simp only [List.getElem?_cons_succ]
   exact hj)
  rw [v.len] at this
  exact this
 have HL:Hid (v.sum.length=32):=v.len
 generalize (vx v).toArray=XV at *
 go_enter Tryz.func87,Tryz.ntmps87
 go_wp2_with (first
  | (go_at_call 56;refine (kq sz hsz2 (HH.o.1.keep HH.o.2.2.1) (by have:=HH.o.2.1;omega)).mono ?_;rintro e w2 ⟨rfl,M2,h1,h2,h3⟩;have HO:=hid (⟨h1,h2,h3,(h3.same B (by rw [World.size_alloc];omega) HH.o.2.2.2.2).trans HH.o.2.2.2.1⟩:_∧_∧_∧_);clear h1 h2 h3;have y2:=zA B 3 w2)
  | (go_at_call 55;refine (qk HO.o.1 (HV.o w2 HO.o.2.2.2) (by have:=HH.o.2.1;have:=HL.o;have:=jT (n:=sz) (by omega);simp only [lA];omega)).mono ?_;rintro e w3 ⟨rfl,h4⟩;have HP:=hid h4;clear h4))
 go_end0
 refine ⟨rfl,?_⟩
 have h1:PoW lo X (b++encN sz) ver hs M (w.alloc (.cells XV 24)) w2:=⟨M2,HO.o.1,HO.o.2.1,HO.o.2.2.1⟩
 rw [← List.append_assoc]
 obtain ⟨M3,g1,g2,g3⟩:=HP.o
 exact PoW.after ⟨M3,g1,fun c hc=>(g2 c hc).elim (HO.o.2.1 c) fun h=>.inr (Nat.le_trans HO.o.2.2.1.size h),HO.o.2.2.1.trans HO.o.2.1 g3⟩ HH.o.2.2.1
def le4 (n:Nat):List Nat:=[n%256,n/256%256,n/65536%256,n/16777216%256]
theorem pW (w:World) (l:List Nat) (hl:l.length=4):Su.Owns (w.alloc (.cells (l.map Su.vb).toArray 5)) w.heap.size (.slice (some ⟨w.heap.size,0,none⟩) 4 4) l:=by
 refine ⟨by simp,.inr ⟨w.heap.size,4,(l.map Su.vb).toArray,by rw [hl],Nat.le_refl _,World.alloc_heap_new w _,by omega,by unfold maxLen;omega,by simp [hl],by rw [List.take_of_length_le (by simp)]⟩⟩
theorem gH (x:Value) (b:List Nat) (w:World) (hx:Su.Has w x b) (hB:Su.Bytes b) (hT:Su.Half w) (hl:b.length≤16777216):
  Calls Tryz.prog 58 #[x] w fun e w'=>∃ v,e=.returned v∧Su.Owns w' w.heap.size v (le4 (Su.Crc.crc b))∧G w w':=by
 have CC:=Su.wD x b w hx hB hT (by omega)
 obtain ⟨n,hn⟩:∃ n,Su.Crc.crc b=n:=⟨_,rfl⟩
 rw [hn] at CC ⊢
 have hn4:n<4294967296:=by rw [← hn];exact Su.Crc.a0O hB
 clear hx hB hT hl hn
 unfold Su.vw at CC
 go_enter Tryz.func58,Tryz.ntmps58
 go_wp2_with (go_at_call 89;refine CC.mono ?_;rintro e w2 ⟨rfl,hw2⟩;subst hw2)
 refine bodyPost_ret (results_tmp rfl _ _ _) rfl ⟨_,rfl,?_,G.alloc _ _⟩
 have e:#[Value.int .u8 ((n:Int)%256),.int .u8 ((n:Int)/256%256),.int .u8 ((n:Int)/65536%256),.int .u8 ((n:Int)/16777216)]=((le4 n).map Su.vb).toArray:=by
  have:n/16777216%256=n/16777216:=by omega
  simp only [le4,List.map_cons,List.map_nil,Su.vb,this]
  congr 1
 rw [e]
 exact pW w2 (le4 n) rfl
def z27:Array Value:=#[.int .i64 0,.int .i64 0,.int .i64 0,.int .i64 0]
theorem gJ:(Tryz.prog.info? 27).bind (·.zero)=some (.agg z27):=by kernel_rfl
theorem dM:(Tryz.prog.info? 27).map (·.size)=some 4:=by kernel_rfl
theorem pX (p:Nat) (v:Vd) (m:Md) (k:K) (w:World) (hT:AtT w p v m k):Calls Tryz.prog 128 #[.pointer (some ⟨p,0,none⟩)] w fun e w'=>e=.returned (.agg (mx m).toArray)∧G w w':=by
 obtain ⟨pk,hl,_⟩:=hT
 have hl1:=hl.part 35 39
 rw [aM] at hl1
 have HX:Hid ((mx m).toArray.size=4∧(mx m).toArray.all (·.oneCell')=true):=⟨by simp [qh],by simp [mx,Value.oneCell']⟩
 have HG:=hid (qX w 27 z27 (mx m).toArray)
 have HL:Hid (Lies (w.alloc (.cells z27 27)) p 35 (mx m).toArray):=(G.alloc _ _).lies hl1
 generalize (mx m).toArray=X at *
 clear hl hl1
 go_enter Tryz.func128,Tryz.ntmps128
 obtain ⟨B,hB⟩:∃ B,w.heap.size=B:=⟨_,rfl⟩
 rw [hB] at HG
 go_wp2_with (first
  | ((with_reducible refine jF (.pointer (some ⟨B,0,none⟩)) (w.alloc (.cells z27 27)) ?_ ?_);exact jG 27 z27 rfl gJ _ _ hB)
  | ((with_reducible refine jA (.agg X) ?_ ?_);exact jv 27 _ rfl p 35 rfl X _ HL.o Tryz.underlying27 rfl (by rw [dM,HX.o.1]))
  | ((with_reducible refine jC ((w.alloc (.cells z27 27)).setRow B X) ?_ ?_);exact jL 27 _ _ rfl B X z27 rfl rfl _ (by rw [← hB];exact World.alloc_heap_new w _) (by rw [dM,HX.o.1]) (by rw [HX.o.1];rfl) HX.o.2))
 refine bodyPost_ret (results_cell_row (P:=Tryz.prog) (p:=2) (ty:=27) rfl _ _ B 27 X (0,0) _ rfl HG.o.2.1 Tryz.underlying27 rfl (by rw [dM,HX.o.1])) rfl ⟨rfl,HG.o.1⟩
end Go.Proofs.YtjikkhbcbfpocaaGreatDoor
