import Derived.Test.YthfcanpkhjgomaaGreatVt
set_option maxRecDepth 100000
set_option maxHeartbeats 2000000
namespace Go.Proofs.YthfcanpkhjgomaaGreat.Ch
open Go.RowKit
section
variable {α:Type} {P:Program} {ops:Array Oper} {Q:Exit→Act→World→Prop} {V:α→Nat→Value} {t0 t:Array Value} {done:Nat→Bool} {Mem:α→(Nat→Bool)→World→Prop}
def IE (ops:Array Oper) (V:α→Nat→Value) (t0:Array Value) (Mem:α→(Nat→Bool)→World→Prop) (done:Nat→Bool) (a:Act) (w:World):Prop:=∃ r,IV ops (V r) t0 (Mem r) done a w
theorem Slots.re {V V':Nat→Value} (h:Slots ops V t0 t done) (he:∀ k,done k=true→V' k=V k):Slots ops V' t0 t done:=by
 obtain ⟨h1,h2,h3⟩:=h
 refine ⟨h1,h2,?_⟩
 intro i o d ho hd hi
 rw [he i hi]
 exact h3 i o d ho hd hi
theorem ie_val {i d:Nat} {o:Oper} {w w':World} (r:α) (hB:dstB ops t0.size=true) (ho:ops[i]?=some o) (hg:Region.wanted o (yielded ops t)=true) (hd:o.dst=some d) (hs:Slots ops (V r) t0 t done) (hM:Mem r (upd done i) w') (hrun:(execOp (Act.mk t []).eval o).run P w=.ok (.value (V r i)) w'):wpOp P ops Q i (IE ops V t0 Mem (upd done i)) ⟨t,[]⟩ w:=by
 unfold wpOp
 rw [ho]
 simp only
 rw [if_pos hg]
 left
 unfold Oper.wp
 rw [hrun,Oper.upon_value,hd]
 exact ⟨r,_,rfl,hs.put hB ho hd,hM⟩
theorem ie_call {i d:Nat} {o:Oper} {w:World} (r:α) (f:FuncId) (args:Array Value) (hB:dstB ops t0.size=true) (ho:ops[i]?=some o) (hg:Region.wanted o (yielded ops t)=true) (hd:o.dst=some d) (hs:Slots ops (V r) t0 t done) (hrun:(execOp (Act.mk t []).eval o).run P w=.ok (.enter f args) w)
  (hC:Calls P f args w fun e w'=>∃ r',e=.returned (V r' i)∧(∀ k,done k=true→V r' k=V r k)∧Mem r' (upd done i) w'):wpOp P ops Q i (IE ops V t0 Mem (upd done i)) ⟨t,[]⟩ w:=by
 unfold wpOp
 rw [ho]
 simp only
 rw [if_pos hg]
 left
 unfold Oper.wp
 rw [hrun]
 refine Calls.mono hC ?_
 rintro e w' ⟨r',rfl,he,hM⟩
 rw [hd]
 exact ⟨r',_,rfl,(hs.re he).put hB ho hd,hM⟩
end
section
variable {α:Type} {F:Fence} {n0:Nat} {P:Program} {ops:Array Oper} {Q:Exit→Act→World→Prop} {V:α→Nat→Value} {t0 t:Array Value} {done:Nat→Bool} {Mem:α→(Nat→Bool)→World→Prop}
theorem ie_valI {i d:Nat} {o:Oper} {w w':World} (r:α) (hF:∀ f,F.fn f) (hB:dstB ops t0.size=true) (ho:ops[i]?=some o) (hg:Region.wanted o (yielded ops t)=true) (hd:o.dst=some d) (hs:Slots ops (V r) t0 t done) (hn:∀ c,o.op≠.defer c) (hM:Mem r (upd done i) w') (hrun:(execOp (Act.mk t []).eval o).run P w=.ok (.value (V r i)) w'):wpOpIn F n0 P ops Q i (IE ops V t0 Mem (upd done i)) ⟨t,[]⟩ w:=by
 unfold wpOpIn
 rw [ho]
 simp only
 rw [if_pos hg]
 refine ⟨fun f _=>hF f,?_⟩
 rw [Oper.semAt_plain _ _ _ hn,hrun,Oper.uponIn_value,hd]
 exact ⟨r,_,rfl,hs.put hB ho hd,hM⟩
theorem ie_skipI {i d:Nat} {o:Oper} {w:World} (r:α) (hF:∀ f,F.fn f) (hB:dstB ops t0.size=true) (ho:ops[i]?=some o) (hg:Region.wanted o (yielded ops t)=false) (hd:o.dst=some d) (hs:Slots ops (V r) t0 t done) (hM:Mem r (upd done i) w) (hV:V r i=undef):wpOpIn F n0 P ops Q i (IE ops V t0 Mem (upd done i)) ⟨t,[]⟩ w:=by
 unfold wpOpIn
 rw [ho]
 simp only
 rw [if_neg (by rw [hg];simp),hd]
 have:=hs.put hB ho hd
 rw [hV] at this
 exact ⟨fun f _=>hF f,r,_,rfl,this,hM⟩
theorem ie_callI {i d:Nat} {o:Oper} {w:World} (r:α) (f:FuncId) (args:Array Value) (hF:∀ f,F.fn f) (hD:F.depth.isSome=true→1≤n0) (hB:dstB ops t0.size=true) (ho:ops[i]?=some o) (hg:Region.wanted o (yielded ops t)=true) (hd:o.dst=some d) (hs:Slots ops (V r) t0 t done) (hn:∀ c,o.op≠.defer c) (hrun:(execOp (Act.mk t []).eval o).run P w=.ok (.enter f args) w)
  (hC:CallsIn F (n0-1) P f args w fun e w'=>∃ r',e=.returned (V r' i)∧(∀ k,done k=true→V r' k=V r k)∧Mem r' (upd done i) w'):wpOpIn F n0 P ops Q i (IE ops V t0 Mem (upd done i)) ⟨t,[]⟩ w:=by
 unfold wpOpIn
 rw [ho]
 simp only
 rw [if_pos hg]
 refine ⟨fun f _=>hF f,?_⟩
 rw [Oper.semAt_plain _ _ _ hn,hrun,Oper.uponIn_enter]
 refine ⟨hD,CallsIn.mono hC ?_⟩
 rintro e w' ⟨r',rfl,he,hM⟩
 rw [hd]
 exact ⟨r',_,rfl,(hs.re he).put hB ho hd,hM⟩
end
end Go.Proofs.YthfcanpkhjgomaaGreat.Ch
namespace Go.Proofs.YthfcanpkhjgomaaGreat
open Go.RowKit Ch
structure Kp (S:Nat→Prop) (w w':World):Prop where
 os:w'.os=w.os
 tape:w'.tape=w.tape
 output:w'.output=w.output
 size:w.heap.size≤w'.heap.size
 block:∀ b,b<w.heap.size→¬ S b→w'.heap[b]?=w.heap[b]?
theorem Kp.trans {S S':Nat→Prop} {w w1 w2:World} (h:Kp S w w1) (k:Kp S' w1 w2) (hs:∀ b,b<w.heap.size→S' b→S b):Kp S w w2:=
 ⟨k.os.trans h.os,k.tape.trans h.tape,k.output.trans h.output,Nat.le_trans h.size k.size,fun b hb hn=>(k.block b (Nat.lt_of_lt_of_le hb h.size) fun e=>hn (hs b hb e)).trans (h.block b hb hn)⟩
theorem Kp.mono {S S':Nat→Prop} {w w1:World} (h:Kp S w w1) (hs:∀ b,b<w.heap.size→S b→S' b):Kp S' w w1:=⟨h.os,h.tape,h.output,h.size,fun b hb hn=>h.block b hb fun e=>hn (hs b hb e)⟩
theorem Kp.of {S:Nat→Prop} {w w1:World} (h:Below w.heap.size w w1):Kp S w w1:=⟨h.os,h.tape,h.output,h.size,fun b hb _=>h.block b hb⟩
theorem Kp.below {S:Nat→Prop} {B:Nat} {w w1:World} (h:Kp S w w1) (hB:B≤w.heap.size) (hs:∀ b,S b→B≤b):Below B w w1:=⟨h.os,h.tape,h.output,h.size,fun b hb=>h.block b (by omega) fun e=>by have:=hs b e;omega⟩
theorem Kp.refl (S:Nat→Prop) (w:World):Kp S w w:=Kp.of (Below.refl _ _)
theorem Kp.grown {w w1:World} {row:Option Nat} (h:w.grownBy w1 row):Kp (fun b=>row=some b) w w1:=⟨h.os,h.tape,h.output,h.size,fun b hb hn=>h.block b hb fun e=>hn e.symm⟩
theorem Kp.set (w:World) (b o:Nat) (u:Value):Kp (fun c=>c=b) w (w.setCell ⟨b,o,none⟩ u):=⟨rfl,rfl,rfl,by simp,fun c _ hn=>Below.heap_setCell w ⟨b,o,none⟩ u c hn⟩
abbrev Ys:=Bool→List Cd→(Nat→Prop)→World→Prop
structure Yd (lo:Nat) (J:Ys):Prop where
 keep:∀ {g pre M W W'} (S:Nat→Prop),J g pre M W→Kp S W W'→(∀ b,S b→¬ M b)→(∀ b,S b→lo≤b)→J g pre M W'
 own:∀ {g pre M W b},J g pre M W→M b→lo≤b∧∃ o:Obj,W.heap[b]?=some o∧o.isCells=true
def YOk (gf:Nat) (cap:Array Value) (J:Ys) (T:List Cd):Prop:=∀ pre M c W,J true pre M W→pre++[c] <+: T→
 Calls Tryz.prog gf (#[.agg (cc c)]++cap) W fun e W'=>∃ g M',e=.returned (.bool g)∧J g (pre++[c]) M' W'∧Kp M W W'∧∀ b,M' b→M b∨W.heap.size≤b
theorem Yd.lt {lo:Nat} {J:Ys} (h:Yd lo J) {g pre M W b} (hj:J g pre M W) (hb:M b):b<W.heap.size:=by
 obtain ⟨_,o,ho,_⟩:=h.own hj hb
 exact (Array.getElem?_eq_some_iff.1 ho).1
theorem Yd.up {lo:Nat} {J:Ys} (h:Yd lo J) {g pre M W W'} (hj:J g pre M W) (hb:Below W.heap.size W W'):J g pre M W':=h.keep (fun _=>False) hj (Kp.of hb) (fun _ e=>e.elim) (fun _ e=>e.elim)
end Go.Proofs.YthfcanpkhjgomaaGreat
namespace Go.Proofs.YthfcanpkhjgomaaGreat
open Go.RowKit Go.Shelf
def SeqAt {α:Type} (F:Fence) (n:Nat) (P:Program) (g:Nat) (lb:Array Value) (encs:α→Array Value) (Kq:World→World→Prop) (S Sp:List α→Prop) (w:World):Prop:=
 ∀ (l:Nat) (J Jx:List α→World→Prop) (W:World),Below w.heap.size w W→AbidesFrom W.heap.size J→AbidesFrom W.heap.size Jx→
  (∀ pre x W1,J pre W1→Sp (pre++[x])→YieldAt F (n-1) P l (encs x) W1 fun e W'=>(e=.returned (.bool true)∧J (pre++[x]) W'∧Kq W1 W')∨(e=.returned (.bool false)∧Jx (pre++[x]) W'))→
  J [] W→CallsIn F n P g (#[.func (.yield l) #[] #[]]++lb) W fun e W'=>(∃ v,e=.returned v)∧((∃ xs,S xs∧J xs W')∨(∃ pre,Sp pre∧Jx pre W'))
theorem wpIn_range_at {F:Fence} {n:Nat} {P:Program} {α:Type} {g:Operand} {ps:Array Tmp} {assign body:Code} {Q:Exit→Act→World→Prop} {a:Act} {w:World}
  (hro:F.round=none) (h1:1≤n) {gf:Nat} {lb:Array Value} (hg:a.eval g=.func (.func gf) #[] lb) (hFg:F.fn gf) (eg:∀ args w,(callFunc gf args).run P w=.ok (.enter gf args) w)
  {encs:α→Array Value} {Kq:World→World→Prop} {S Sp:List α→Prop} {w0:World} (hseq:SeqAt F (n-1) P gf lb encs Kq S Sp w0)
  (hKt:∀ {A B C:World},Kq A B→Kq B C→Kq A C) (hKb:∀ (W:World) (l:Nat) (o o':Obj),w.heap.size≤l→W.heap[l]?=some o→o.isCells=false→o.isWalk=false→Kq W (W.putObj l o')) (hb0:Below w0.heap.size w0 w) (hps:∀ x,(encs x).size=ps.size)
  (I:List α→World→Prop) (Ix:List α→World→Prop) (hI:OwnFrom w.heap.size I) (hIx:OwnFrom w.heap.size Ix) (h0:I [] w) (a₁:α→Act)
  (hassign:∀ (l:Nat) (x:α) (W:World) (K:Act→World→Prop),K (a₁ x) W→
   assign.wpIn (F.inRound l) (n-1-1) P (Exit.then K (fun _ _ _=>False)) { tmps:=(ps.zip (encs x)).foldl (fun t (p,v)=>t.setIfInBounds p v) a.tmps,defers:=[] } W)
  (hbody:∀ (l:Nat) (pre:List α) (x:α) (W:World),I pre W→Sp (pre++[x])→body.wpIn (F.inRound l) (n-1-1) P (fun e _ W'=>(e=.normal∧KeepsOthers W W'∧Kq W W'∧I (pre++[x]) W')∨(e=.ret∧KeepsOthers W W'∧Ix (pre++[x]) W')) (a₁ x) W)
  (hdone:∀ (D:Nat) (xs:List α) (W:World),w.heap.size≤D→S xs→I xs W→W.heap[D]?=some (.deferred (some []))→Q .normal { a with defers:={ target:=.collected D,args:=#[] }::a.defers } W)
  (hstop:∀ (D:Nat) (pre:List α) (W:World),w.heap.size≤D→Sp pre→Ix pre W→W.heap[D]?=some (.deferred (some []))→Code.ret.wpIn F n P Q { a with defers:={ target:=.collected D,args:=#[] }::a.defers } W):
  (Code.rangeFunc g ps assign body).wpIn F n P Q a w:=by
 refine wpIn_rangeFunc ?_
 intro fn hfn
 rw [hro]
 obtain ⟨rc,hrc⟩:∃ rc:LoopState→Option Code→Loop,rc=fun s p=>{ state:=s,pending:=p,fn,tmps:=a.tmps,params:=ps,assign,body,defers:=w.heap.size }:=⟨_,rfl⟩
 obtain ⟨D,hD⟩:∃ D,w.heap.size=D:=⟨_,rfl⟩
 obtain ⟨W1,hW1⟩:∃ W1,(w.alloc (.deferred (some []))).alloc (.loop (rc .ready none))=W1:=⟨_,rfl⟩
 have hL1:W1.heap[D+1]?=some (.loop (rc .ready none)):=by
  rw [← hW1,← hD]
  have:=World.alloc_heap_new (w.alloc (.deferred (some []))) (.loop (rc .ready none))
  rwa [World.size_alloc] at this
 have hK1:W1.heap[D]?=some (.deferred (some [])):=by
  rw [← hW1,← hD]
  exact (Below.heap_alloc _ _ _ (by simp)).trans (World.alloc_heap_new w _)
 have hI1:I [] W1:=by rw [← hW1];exact hI.alloc _ (hI.alloc _ h0)
 have hb1:Below w0.heap.size w0 W1:=by
  rw [← hW1]
  exact hb0.trans ((((Below.refl _ w).alloc (Nat.le_refl _) _).alloc (by simp) _).mono hb0.size)
 have hs1:W1.heap.size=D+2:=by rw [← hW1,← hD];simp
 have old:∀ {A:World} {row:Option Nat},(∀ r,row=some r→W1.heap.size≤r∧∃ o:Obj,A.heap[r]?=some o∧o.isWalk=true)→∀ r,row=some r→w.heap.size≤r∧∃ o:Obj,A.heap[r]?=some o∧o.isCells=false:=fun hr r e=>by
  obtain ⟨hB,o,ho,hw⟩:=hr r e
  exact ⟨by omega,o,ho,Obj.not_cells_of_walk hw⟩
 refine ⟨D+1,[{ target:=.collected D,args:=#[] }],W1,{ target:=.fn (.func gf) lb,args:=#[.func (.yield (D+1)) #[] #[]] },W1,gf,#[.func (.yield (D+1)) #[] #[]]++lb,W1,?_,?_,?_,?_,fun _=>h1,?_⟩
 ·rw [← hW1,← hD,hrc]
  exact run_enterLoop_outer _ _ _ _ _
 ·simp only [resolve,hg]
  simp [go_sem]
 ·intro f hf
  simp [Target.leads] at hf
  subst hf
  exact hFg
 ·simp [invoke,go_sem,eg]
 ·refine (hseq (D+1) (fun pre W=>I pre W∧W.heap[D+1]?=some (.loop (rc .ready none))∧W.heap[D]?=some (.deferred (some [])))
   (fun pre W=>Ix pre W∧W.heap[D+1]?=some (.loop (rc .done (some .ret)))∧W.heap[D]?=some (.deferred (some []))) W1 hb1
   (fun s A B row hs hg' hr=>⟨hI s A B row hs.1 hg' (old hr),(grownBy_keeps hg' (fun r e=>(hr r e).2) hs.2.1 rfl).trans hs.2.1,(grownBy_keeps hg' (fun r e=>(hr r e).2) hs.2.2 rfl).trans hs.2.2⟩)
   (fun s A B row hs hg' hr=>⟨hIx s A B row hs.1 hg' (old hr),(grownBy_keeps hg' (fun r e=>(hr r e).2) hs.2.1 rfl).trans hs.2.1,(grownBy_keeps hg' (fun r e=>(hr r e).2) hs.2.2 rfl).trans hs.2.2⟩)
   ?_ ⟨hI1,hL1,hK1⟩).mono ?_
  ·rintro pre x W ⟨hi,hl,hk⟩ hsp
   have hlt:D+1<W.heap.size:=(Array.getElem?_eq_some_iff.1 hl).1
   obtain ⟨Wb,hWb⟩:∃ Wb,W.putObj (D+1) (.loop (rc .busy none))=Wb:=⟨_,rfl⟩
   have hbeg:(Instr.beginRound (D+1)).run P W=.ok () Wb:=by
    have:=run_beginRound (P:=P) hl (by rw [hrc])
    rw [← hWb]
    rw [hrc] at this ⊢
    exact this
   have hl2:Wb.heap[D+1]?=some (.loop (rc .busy none)):=by rw [← hWb];exact World.putObj_heap_same hlt
   have hk2:Wb.heap[D]?=some (.deferred (some [])):=by rw [← hWb];exact (World.putObj_heap_other (by omega)).trans hk
   have hi2:I pre Wb:=by rw [← hWb];exact hI.putObj _ hi (by omega) hl rfl
   have hq2:Kq W Wb:=by rw [← hWb];exact hKb _ _ _ _ (by omega) hl rfl rfl
   have hy:=run_yield (P:=P) (args:=encs x) hl (by rw [hrc];exact hps x)
   rw [hrc] at hy
   refine ⟨fn,_,assign,body,hy,roundIn_of_wpIn hfn (hassign _ x W _ ⟨_,hbeg,?_⟩)⟩
   refine wpIn_mono (hbody _ pre x Wb hi2 hsp) ?_
   rintro e a3 W3 (⟨rfl,hk3,hq3,hi3⟩ | ⟨rfl,hk3,hi3⟩)
   ·have hl3:=hk3.same _ _ hl2 rfl
    have hr:=run_endRound (P:=P) none hl3
    rw [hrc] at hr hl3
    refine ⟨_,_,hr,.inl ⟨rfl,⟨hI.putObj _ hi3 (by omega) hl3 rfl,?_,(World.putObj_heap_other (by omega)).trans (hk3.same _ _ hk2 rfl)⟩,hKt (hKt hq2 hq3) (hKb _ _ _ _ (by omega) hl3 rfl rfl)⟩⟩
    rw [hrc]
    exact World.putObj_heap_same (Array.getElem?_eq_some_iff.1 hl3).1
   ·have hl3:=hk3.same _ _ hl2 rfl
    have hr:=run_endRound (P:=P) (some .ret) hl3
    rw [hrc] at hr hl3
    refine ⟨_,_,hr,.inr ⟨rfl,hIx.putObj _ hi3 (by omega) hl3 rfl,?_,(World.putObj_heap_other (by omega)).trans (hk3.same _ _ hk2 rfl)⟩⟩
    rw [hrc]
    exact World.putObj_heap_same (Array.getElem?_eq_some_iff.1 hl3).1
  ·rintro e W2 ⟨⟨v,rfl⟩,(⟨xs,hS,hi,hl,hk⟩ | ⟨pre,hSp,hi,hl,hk⟩)⟩
   ·have hr:=run_endLoop (P:=P) hl (by rw [hrc];simp)
    rw [hrc] at hr
    have hq:=hdone D xs _ (by omega) hS (hI.putObj (.loop { rc .ready none with state:=.exhausted }) hi (by omega) hl rfl) ((World.putObj_heap_other (by omega)).trans hk)
    rw [hrc] at hq
    exact ⟨none,_,hr,hq⟩
   ·have hr:=run_endLoop (P:=P) hl (by rw [hrc];simp)
    rw [hrc] at hr
    have hq:=hstop D pre _ (by omega) hSp (hIx.putObj (.loop { rc .done (some .ret) with state:=.exhausted }) hi (by omega) hl rfl) ((World.putObj_heap_other (by omega)).trans hk)
    rw [hrc] at hq
    exact ⟨some .ret,_,hr,hq⟩
open Ch
attribute [local go_sem] Oper.semAt_some
def revs (N:Nat):List Nat:=(List.range N).reverse
abbrev ixs {N:Nat} (ys:List (Fin N)):List Nat:=ys.map fun x=>x.1
theorem revs_take {N n:Nat} (h:n<N):(revs N).take (n+1)=(revs N).take n++[N-1-n]:=by
 have h1:(revs N)[n]?=some (N-1-n):=by
  unfold revs
  rw [List.getElem?_reverse (by simpa using h),List.length_range,List.getElem?_range (by omega)]
 rw [List.take_add_one,h1];rfl
def KeepB (Bs gr:Nat) (W W':World):Prop:=W'.heap[Bs]?=W.heap[Bs]?∧W'.heap[gr]?=W.heap[gr]?
theorem keepB_t {Bs gr:Nat} {A B C:World} (h:KeepB Bs gr A B) (k:KeepB Bs gr B C):KeepB Bs gr A C:=⟨k.1.trans h.1,k.2.trans h.2⟩
def iP (v:Value):Nat:=match v with | .int _ i=>(i+1).toNat | _=>0
theorem backF_any (ao:Option Addr) (N cap:Nat) (w:World):
  Calls Tryz.prog 83 #[.slice ao N cap] w fun e w'=>e=.returned (.func (.func 116) #[] #[.pointer (some ⟨w.heap.size,0,none⟩)])∧w'=w.alloc (.cells #[.slice ao N cap] 31):=by
 have hmf:∀ (fn:Fn) (first cap:Array Value) (w:World),(Instr.makeFunc fn first cap).run Tryz.prog w=.ok (.func fn first cap) w:=fun _ _ _ _=>rfl
 go_enter Tryz.func83,Tryz.ntmps83
 go_wp2
 go_ret
 exact ⟨rfl,rfl⟩
def encB (L:List Cd) (N:Nat) (i:Fin N):Array Value:=#[.int .i64 (i.1:Int),.agg (cc (L.getD i.1 (chP ⟨#[]⟩)))]
theorem back_at (n0:Nat) (hn0:1≤n0) (Bs ga oa N cp:Nat) (ao:Option Addr) (L:List Cd) (hN:L.length=N) (hN2:N≤1048576) (w:World) (hB:w.cell? ⟨Bs,0,none⟩=some (.slice ao N cp)) (hBs:Bs<w.heap.size) (hga:N=0∨(ao=some ⟨ga,oa,none⟩∧ga<w.heap.size)) (hL:∀ i x,L[i]?=some x→Ch.Lies w ga (oa+i*71) (cc x)):
  SeqAt Fence.wide n0 Tryz.prog 116 #[.pointer (some ⟨Bs,0,none⟩)] (encB L N) (KeepB Bs ga) (fun ys=>ixs ys=revs N) (fun ys=>ixs ys <+: revs N) w:=by
 intro l J Jx W hbel hJ hJx hY h0
 have HL:Hid (∀ (i:Nat) x,L[i]?=some x→N≠0→Ch.Lies W ga (oa+i*71) (cc x)):=fun i x hx _ j u hj=>(World.cell?_of_block (a:=⟨ga,oa+i*71+j,none⟩) (hbel.block ga (by rcases hga with h | ⟨_,h⟩;omega;exact h))).trans (hL i x hx j u hj)
 have hc1:W.cell? ⟨Bs,0,none⟩=some (.slice ao N cp):=(World.cell?_of_block (a:=⟨Bs,0,none⟩) (hbel.block Bs hBs)).trans hB
 have HN:=hid hN
 clear hL hB hN
 refine callsIn_of_wp Tryz.func116 rfl trivial ?_ rfl
 simp only [Tryz.ntmps116,List.size_toArray,List.length_cons,List.length_nil,Nat.reduceAdd,Nat.reduceSub,Array.replicate_succ,Array.replicate_zero,List.push_toArray,List.append_toArray,List.nil_append,List.cons_append]
 gi_wp2
 gi_loopw [3] (fun x wr=>∃ (m:Nat) (ys:List (Fin N)),x=.int .i64 ((N:Int)-1-(m:Int))∧m≤N∧wr.cell? ⟨Bs,0,none⟩=some (.slice ao N cp)∧Hid (J ys wr∧ixs ys=(revs N).take m∧(wr.heap[ga]?=W.heap[ga]?))) (fun x _=>iP x)
 case atStart=>exact ⟨0,[],by go_num,Nat.zero_le _,hc1,h0,by simp,rfl⟩
 case round=>
  obtain ⟨m,ys,rfl,hmN,hcb,HI⟩:=hrel
  by_cases hlt:m<N
  ·obtain ⟨i,hi⟩:∃ i,N-1-m=i:=⟨_,rfl⟩
   have hiN:i<N:=by omega
   have hI:(N:Int)-1-(m:Int)=(i:Int):=by omega
   rw [hI]
   have hao:ao=some ⟨ga,oa,none⟩:=by rcases hga with h | h;omega;exact h.1
   subst hao
   obtain ⟨r,hx⟩:∃ r,L[i]?=some r:=⟨L[i]'(by rw [HN.out];exact hiN),by simp⟩
   have HLI:Hid (Ch.Lies wr ga (oa+i*71) (cc r)):=fun j u hj=>(World.cell?_of_block (a:=⟨ga,oa+i*71+j,none⟩) HI.out.2.2).trans (HL.out i r hx (by omega) j u hj)
   have HS:Hid (ixs (ys++[⟨i,hiN⟩])=(revs N).take (m+1)):=by
    show _=_
    rw [revs_take hlt,← HI.out.2.1,hi];simp
   obtain ⟨fn,tmps,assign,body,hy,hR⟩:=hY ys ⟨i,hiN⟩ _ HI.out.1 (by rw [HS.out];exact List.take_prefix _ _)
   have he:encB L N ⟨i,hiN⟩=#[.int .i64 (i:Int),.agg (cc r)]:=by unfold encB;simp [List.getD,hx]
   rw [he] at hy
   obtain ⟨X,hX⟩:∃ X,cc r=X:=⟨_,rfl⟩
   have HX:Hid (X.size=71):=by show X.size=71;rw [← hX];exact cc_size r
   rw [hX] at hy HLI
   have HG:Hid (wr.heap[ga]?=W.heap[ga]?):=HI.out.2.2
   have i1:(0:Int)≤(i:Int):=by omega
   have i2:(i:Int)<(N:Int):=by omega
   clear HI hX hx he
   gi_wp2_with ((with_reducible refine wpListIn_execW (.agg X) wr ?_ ?_ ?_ ?_ ?_);rfl;exact Ch.exec_load 66 _ rfl ga (oa+i*71) rfl X _ HLI.out Ch.under55 rfl (by rw [Ch.size55,HX.out]);(intro c h;cases h);exact fun _ _=>trivial)
   refine hR.mono ?_
   rintro e W3 (⟨rfl,hJ3,hk3⟩ | ⟨rfl,hJx3⟩)
   ·have c3:W3.cell? ⟨Bs,0,none⟩=some (.slice (some ⟨ga,oa,none⟩) N cp):=(World.cell?_of_block (a:=⟨Bs,0,none⟩) hk3.1).trans hcb
    have HJ3:Hid (J (ys++[⟨i,hiN⟩]) W3∧W3.heap[ga]?=W.heap[ga]?):=⟨hJ3,hk3.2.trans HG.out⟩
    clear hJ3 hk3 hR hy
    gi_wp2
    go_roundw
    case rel=>exact ⟨m+1,_,by go_num,by omega,c3,HJ3.out.1,HS.out,HJ3.out.2⟩
    case measure=>simp [iP]
   ·have HX3:Hid (Jx (ys++[⟨i,hiN⟩]) W3):=hJx3
    have PRE:Hid (ixs (ys++[⟨i,hiN⟩]) <+: revs N):=by
     show _ <+: _
     rw [HS.out];exact List.take_prefix _ _
    clear hJx3 hR hy
    gi_wp2
    refine bodyPost_ret (results_none rfl _ _ _) rfl ?_
    exact ⟨⟨_,rfl⟩,.inr ⟨_,PRE.out,HX3.out⟩⟩
  ·have hm2:m=N:=by omega
   subst hm2
   have HE:Hid (∃ ys:List (Fin m),ixs ys=revs m∧J ys wr):=⟨ys,by rw [HI.out.2.1,List.take_of_length_le (by simp [revs])],HI.out.1⟩
   have hI:(m:Int)-1-(m:Int)=-1:=by omega
   rw [hI]
   clear HI
   gi_wp2
   exact ⟨rfl,_,results_none rfl _ _ _,⟨_,rfl⟩,.inl HE.out⟩
end Go.Proofs.YthfcanpkhjgomaaGreat
