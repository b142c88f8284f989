import Derived.Test.YthfcanpkhjgomaaGreatVf
set_option maxRecDepth 100000
set_option maxHeartbeats 4000000
namespace Go.Proofs.YthfcanpkhjgomaaGreat
open Go.RowKit Go.Shelf
theorem wpIn_range_to {F:Fence} {n:Nat} {P:Program} {α:Type} {g:Operand} {ps:Array Tmp} {assign body:Code} {Q:Exit→Act→World→Prop} {a:Act} {w:World}
  (hro:F.round=none) (h1:1≤n) {gf:Nat} {lb:Array Value} (hg:a.eval g=.func (.func gf) #[] lb) (hFg:F.fn gf) (eg:∀ args w,(callFunc gf args).run P w=.ok (.enter gf args) w)
  {encs:α→Array Value} {Kq:World→World→Prop} {S Sp:List α→Prop} {w0:World} (hseq:SeqAt F (n-1) P gf lb encs Kq S Sp w0)
  (hKt:∀ {A B C:World},Kq A B→Kq B C→Kq A C) (hKb:∀ (W:World) (l:Nat) (o o':Obj),w.heap.size≤l→W.heap[l]?=some o→o.isCells=false→o.isWalk=false→Kq W (W.putObj l o')) (hb0:Below w0.heap.size w0 w) (hps:∀ x,(encs x).size=ps.size)
  (I:List α→World→Prop) (Ix:List α→World→Prop) (hI:OwnFrom w.heap.size I) (hIx:OwnFrom w.heap.size Ix) (h0:I [] w) (a₁:α→Nat→Act) (w₁:α→World→World) (I':List α × α × Nat→World→Prop) (hI':OwnFrom w.heap.size I') (hw₁:∀ x W,Below W.heap.size W (w₁ x W)) (hst:∀ pre x W,I pre W→I' (pre,x,W.heap.size) (w₁ x W)) (hKw:∀ x W,w.heap.size≤W.heap.size→Kq W (w₁ x W))
  (hassign:∀ (l:Nat) (x:α) (W:World) (K:Act→World→Prop),K (a₁ x W.heap.size) (w₁ x W)→
   assign.wpIn (F.inRound l) (n-1-1) P (Exit.then K (fun _ _ _=>False)) { tmps:=(ps.zip (encs x)).foldl (fun t (p,v)=>t.setIfInBounds p v) a.tmps,defers:=[] } W)
  (hbody:∀ (l:Nat) (pre:List α) (x:α) (g:Nat) (W:World),I' (pre,x,g) W→Sp (pre++[x])→body.wpIn (F.inRound l) (n-1-1) P (fun e _ W'=>(e=.normal∧KeepsOthers W W'∧Kq W W'∧I (pre++[x]) W')∨(e=.ret∧KeepsOthers W W'∧Ix (pre++[x]) W')) (a₁ x g) W)
  (hdone:∀ (D:Nat) (xs:List α) (W:World),w.heap.size≤D→S xs→I xs W→W.heap[D]?=some (.deferred (some []))→Q .normal { a with defers:={ target:=.collected D,args:=#[] }::a.defers } W)
  (hstop:∀ (D:Nat) (pre:List α) (W:World),w.heap.size≤D→Sp pre→Ix pre W→W.heap[D]?=some (.deferred (some []))→Code.ret.wpIn F n P Q { a with defers:={ target:=.collected D,args:=#[] }::a.defers } W):
  (Code.rangeFunc g ps assign body).wpIn F n P Q a w:=by
 refine wpIn_rangeFunc ?_
 intro fn hfn
 rw [hro]
 obtain ⟨rc,hrc⟩:∃ rc:LoopState→Option Code→Loop,rc=fun s p=>{ state:=s,pending:=p,fn,tmps:=a.tmps,params:=ps,assign,body,defers:=w.heap.size }:=⟨_,rfl⟩
 obtain ⟨D,hD⟩:∃ D,w.heap.size=D:=⟨_,rfl⟩
 obtain ⟨W1,hW1⟩:∃ W1,(w.alloc (.deferred (some []))).alloc (.loop (rc .ready none))=W1:=⟨_,rfl⟩
 have hL1:W1.heap[D+1]?=some (.loop (rc .ready none)):=by
  rw [← hW1,← hD]
  have:=World.alloc_heap_new (w.alloc (.deferred (some []))) (.loop (rc .ready none))
  rwa [World.size_alloc] at this
 have hK1:W1.heap[D]?=some (.deferred (some [])):=by
  rw [← hW1,← hD]
  exact (Below.heap_alloc _ _ _ (by simp)).trans (World.alloc_heap_new w _)
 have hI1:I [] W1:=by rw [← hW1];exact hI.alloc _ (hI.alloc _ h0)
 have hb1:Below w0.heap.size w0 W1:=by
  rw [← hW1]
  exact hb0.trans ((((Below.refl _ w).alloc (Nat.le_refl _) _).alloc (by simp) _).mono hb0.size)
 have hs1:W1.heap.size=D+2:=by rw [← hW1,← hD];simp
 have old:∀ {A:World} {row:Option Nat},(∀ r,row=some r→W1.heap.size≤r∧∃ o:Obj,A.heap[r]?=some o∧o.isWalk=true)→∀ r,row=some r→w.heap.size≤r∧∃ o:Obj,A.heap[r]?=some o∧o.isCells=false:=fun hr r e=>by
  obtain ⟨hB,o,ho,hw⟩:=hr r e
  exact ⟨by omega,o,ho,Obj.not_cells_of_walk hw⟩
 refine ⟨D+1,[{ target:=.collected D,args:=#[] }],W1,{ target:=.fn (.func gf) lb,args:=#[.func (.yield (D+1)) #[] #[]] },W1,gf,#[.func (.yield (D+1)) #[] #[]]++lb,W1,?_,?_,?_,?_,fun _=>h1,?_⟩
 ·rw [← hW1,← hD,hrc]
  exact run_enterLoop_outer _ _ _ _ _
 ·simp only [resolve,hg]
  simp [go_sem]
 ·intro f hf
  simp [Target.leads] at hf
  subst hf
  exact hFg
 ·simp [invoke,go_sem,eg]
 ·refine (hseq (D+1) (fun pre W=>I pre W∧W.heap[D+1]?=some (.loop (rc .ready none))∧W.heap[D]?=some (.deferred (some [])))
   (fun pre W=>Ix pre W∧W.heap[D+1]?=some (.loop (rc .done (some .ret)))∧W.heap[D]?=some (.deferred (some []))) W1 hb1
   (fun s A B row hs hg' hr=>⟨hI s A B row hs.1 hg' (old hr),(grownBy_keeps hg' (fun r e=>(hr r e).2) hs.2.1 rfl).trans hs.2.1,(grownBy_keeps hg' (fun r e=>(hr r e).2) hs.2.2 rfl).trans hs.2.2⟩)
   (fun s A B row hs hg' hr=>⟨hIx s A B row hs.1 hg' (old hr),(grownBy_keeps hg' (fun r e=>(hr r e).2) hs.2.1 rfl).trans hs.2.1,(grownBy_keeps hg' (fun r e=>(hr r e).2) hs.2.2 rfl).trans hs.2.2⟩)
   ?_ ⟨hI1,hL1,hK1⟩).mono ?_
  ·rintro pre x W ⟨hi,hl,hk⟩ hsp
   have hlt:D+1<W.heap.size:=(Array.getElem?_eq_some_iff.1 hl).1
   obtain ⟨W1',hW1'⟩:∃ W1',w₁ x W=W1':=⟨_,rfl⟩
   have hbw:Below W.heap.size W W1':=by rw [← hW1'];exact hw₁ x W
   have hl1:W1'.heap[D+1]?=some (.loop (rc .ready none)):=(hbw.block _ hlt).trans hl
   have hk1:W1'.heap[D]?=some (.deferred (some [])):=(hbw.block _ (by omega)).trans hk
   have hlt1:D+1<W1'.heap.size:=(Array.getElem?_eq_some_iff.1 hl1).1
   have hi1:I' (pre,x,W.heap.size) W1':=by rw [← hW1'];exact hst pre x W hi
   obtain ⟨Wb,hWb⟩:∃ Wb,W1'.putObj (D+1) (.loop (rc .busy none))=Wb:=⟨_,rfl⟩
   have hbeg:(Instr.beginRound (D+1)).run P W1'=.ok () Wb:=by
    have:=run_beginRound (P:=P) hl1 (by rw [hrc])
    rw [← hWb]
    rw [hrc] at this ⊢
    exact this
   have hl2:Wb.heap[D+1]?=some (.loop (rc .busy none)):=by rw [← hWb];exact World.putObj_heap_same hlt1
   have hk2:Wb.heap[D]?=some (.deferred (some [])):=by rw [← hWb];exact (World.putObj_heap_other (by omega)).trans hk1
   have hi2:I' (pre,x,W.heap.size) Wb:=by rw [← hWb];exact hI'.putObj _ hi1 (by omega) hl1 rfl
   have hq1:Kq W W1':=by rw [← hW1'];exact hKw x W (by omega)
   have hq2:Kq W Wb:=hKt hq1 (by rw [← hWb];exact hKb _ _ _ _ (by omega) hl1 rfl rfl)
   have hy:=run_yield (P:=P) (args:=encs x) hl (by rw [hrc];exact hps x)
   rw [hrc] at hy
   refine ⟨fn,_,assign,body,hy,roundIn_of_wpIn hfn (hassign _ x W _ ⟨_,by rw [hW1'];exact hbeg,?_⟩)⟩
   refine wpIn_mono (hbody _ pre x _ Wb hi2 hsp) ?_
   rintro e a3 W3 (⟨rfl,hk3,hq3,hi3⟩ | ⟨rfl,hk3,hi3⟩)
   ·have hl3:=hk3.same _ _ hl2 rfl
    have hr:=run_endRound (P:=P) none hl3
    rw [hrc] at hr hl3
    refine ⟨_,_,hr,.inl ⟨rfl,⟨hI.putObj _ hi3 (by omega) hl3 rfl,?_,(World.putObj_heap_other (by omega)).trans (hk3.same _ _ hk2 rfl)⟩,hKt (hKt hq2 hq3) (hKb _ _ _ _ (by omega) hl3 rfl rfl)⟩⟩
    rw [hrc]
    exact World.putObj_heap_same (Array.getElem?_eq_some_iff.1 hl3).1
   ·have hl3:=hk3.same _ _ hl2 rfl
    have hr:=run_endRound (P:=P) (some .ret) hl3
    rw [hrc] at hr hl3
    refine ⟨_,_,hr,.inr ⟨rfl,hIx.putObj _ hi3 (by omega) hl3 rfl,?_,(World.putObj_heap_other (by omega)).trans (hk3.same _ _ hk2 rfl)⟩⟩
    rw [hrc]
    exact World.putObj_heap_same (Array.getElem?_eq_some_iff.1 hl3).1
  ·rintro e W2 ⟨⟨v,rfl⟩,(⟨xs,hS,hi,hl,hk⟩ | ⟨pre,hSp,hi,hl,hk⟩)⟩
   ·have hr:=run_endLoop (P:=P) hl (by rw [hrc];simp)
    rw [hrc] at hr
    have hq:=hdone D xs _ (by omega) hS (hI.putObj (.loop { rc .ready none with state:=.exhausted }) hi (by omega) hl rfl) ((World.putObj_heap_other (by omega)).trans hk)
    rw [hrc] at hq
    exact ⟨none,_,hr,hq⟩
   ·have hr:=run_endLoop (P:=P) hl (by rw [hrc];simp)
    rw [hrc] at hr
    have hq:=hstop D pre _ (by omega) hSp (hIx.putObj (.loop { rc .done (some .ret) with state:=.exhausted }) hi (by omega) hl rfl) ((World.putObj_heap_other (by omega)).trans hk)
    rw [hrc] at hq
    exact ⟨some .ret,_,hr,hq⟩
open Ch
attribute [local go_sem] Oper.semAt_some
def dpM (t:T3) (c:Cd):Option T3:=if vcV c.new≠Vd.zero then some t else if (match subS t c.path with | none=>0 | some x=>x.2.2.depth)≠0 then none else if dropE t c.path≠0 then none else some (dropT t (cutN c.path))
def dpL:T3→List Cd→Option T3
 | t,[]=>some t
 | t,c::l=>(dpM t c).bind fun u=>dpL u l
theorem dpL_app:∀ (t:T3) (a b:List Cd),dpL t (a++b)=(dpL t a).bind fun u=>dpL u b
 | t,[],b=>rfl
 | t,c::a,b=>by
  rw [List.cons_append,dpL,dpL]
  cases dpM t c with
  | none=>rfl
  | some u=>exact dpL_app u a b
def els {N:Nat} (L:List Cd) (ys:List (Fin N)):List Cd:=ys.map fun i=>L.getD i.1 (chP ⟨#[]⟩)
theorem els_ixs {N:Nat} (L:List Cd) (ys:List (Fin N)):els L ys=(ixs ys).map fun i=>L.getD i (chP ⟨#[]⟩):=by
 unfold els ixs
 rw [List.map_map];rfl
theorem els_revs {N:Nat} {L:List Cd} (h:L.length=N):(revs N).map (fun i=>L.getD i (chP ⟨#[]⟩))=L.reverse:=by
 unfold revs
 rw [List.map_reverse]
 refine congrArg List.reverse (List.ext_getElem (by simp [h]) fun i h1 h2=>?_)
 simp [List.getD,h2]
theorem els_pre {N:Nat} {L:List Cd} {ys:List (Fin N)} (h:L.length=N) (hp:ixs ys <+: revs N):els L ys <+: L.reverse:=by
 rw [els_ixs,← els_revs h]
 exact hp.map _
theorem dropT_le {t:T3} {L:List ByteArray} (h:t.2.2.rises):(dropT t L).2.2.size≤t.2.2.size:=dropT_size h
structure ClI (w:World) (B:Nat) (t:T3) (L:List Cd) (N:Nat) (S:Nat) (pre:List (Fin N)) (pk:Nat) (tk:T3) (W:World):Prop where
 bt:Bx W B 34 (.pointer (some ⟨pk,0,none⟩))
 b1:Bx W (B+1) 34 (.pointer none)
 b2:Bx W (B+2) 57 (.int .i64 0)
 b3:∃ v,Bx W (B+3) 31 v
 tr:T1 W pk tk
 ri:tk.2.2.rises
 sz:tk.2.2.size≤S
 dp:dpL t (els L pre)=some tk
 g:G w W
theorem ClI.grown {w:World} {B:Nat} {t:T3} {L:List Cd} {N S:Nat} {pre:List (Fin N)} {pk:Nat} {tk:T3} {A C:World} {row:Option Nat} (h:ClI w B t L N S pre pk tk A) (hg:A.grownBy C row) (hr:∀ r,row=some r→w.heap.size≤r∧∃ o:Obj,A.heap[r]?=some o∧o.isCells=false):ClI w B t L N S pre pk tk C:=
 ⟨bx_grown hg (fun r e=>(hr r e).2) h.bt,bx_grown hg (fun r e=>(hr r e).2) h.b1,bx_grown hg (fun r e=>(hr r e).2) h.b2,h.b3.imp fun _ q=>bx_grown hg (fun r e=>(hr r e).2) q,h.tr.cel (cel_grown hg fun r e=>(hr r e).2) (tr_grown hg fun r e=>(hr r e).2),h.ri,h.sz,h.dp,below_grown h.g hg fun r e=>(hr r e).1⟩
def ClX (w:World) (B:Nat) (t:T3) (L:List Cd) (W:World):Prop:=∃ E:Int,Bx W (B+1) 34 (.pointer none)∧Bx W (B+2) 57 (.int .i64 E)∧E≠0∧dpL t L.reverse=none∧G w W
theorem ClX.grown {w:World} {B:Nat} {t:T3} {L:List Cd} {A C:World} {row:Option Nat} (h:ClX w B t L A) (hg:A.grownBy C row) (hr:∀ r,row=some r→w.heap.size≤r∧∃ o:Obj,A.heap[r]?=some o∧o.isCells=false):ClX w B t L C:=by
 obtain ⟨E,h1,h2,h3,h4,h5⟩:=h
 exact ⟨E,bx_grown hg (fun r e=>(hr r e).2) h1,bx_grown hg (fun r e=>(hr r e).2) h2,h3,h4,below_grown h5 hg fun r e=>(hr r e).1⟩
def ClE (w:World) (B:Nat) (t:T3) (L:List Cd) (N:Nat) (S:Nat) (pre:List (Fin N)) (W:World):Prop:=∃ pk tk,ClI w B t L N S pre pk tk W
theorem ClI.up {w:World} {B:Nat} {t:T3} {L:List Cd} {N S:Nat} {pre:List (Fin N)} {pk:Nat} {tk:T3} {A C:World} (h:ClI w B t L N S pre pk tk A) (hg:G A C):ClI w B t L N S pre pk tk C:=
 h.grown (row:=none) ⟨hg.os,hg.tape,hg.output,hg.size,fun b hb _=>hg.block b hb⟩ fun r e=>by cases e
theorem lies_set1 {w:World} {b:Nat} {v:Value} {t:TypeId} (hb:Bx w b t v) (u:Value) {g:Nat} {c:Array Value} (hs:2≤c.size) (hl:Lies w g 0 c):Lies (w.setCell ⟨b,0,none⟩ u) g 0 c:=by
 have hne:g≠b:=fun e=>by
  have h1:=hl 1 c[1] (by simp)
  subst e
  simp [World.cell?,show w.heap[g]?=_ from hb] at h1
 exact fun j x hj=>(World.cell?_of_block (a:=⟨g,0+j,none⟩) (Below.heap_setCell w ⟨b,0,none⟩ u g hne)).trans (hl j x hj)
theorem At.set1 {w:World} {b:Nat} {v:Value} {t:TypeId} (hb:Bx w b t v) (u:Value):∀ {k:K} {x:Value},At w k x→At (w.setCell ⟨b,0,none⟩ u) k x
 | .nil,_,q=>q
 | .node _ _ _ _ _ _ _ _,_,⟨h1,pk,pa,pb,⟨h2,h3⟩,h4,h5,h6⟩=>⟨h1,pk,pa,pb,⟨lies_set1 hb u (by simp [kc]) h2,lies_set1 hb u (by rw [tc_size];decide) h3⟩,At.set1 hb u h4,At.set1 hb u h5,At.set1 hb u h6⟩
theorem Tr.set1 {w:World} {b:Nat} {v:Value} {ty:TypeId} (hb:Bx w b ty v) (u:Value) (q:Nat) (h:Tr w q):Tr (w.setCell ⟨b,0,none⟩ u) q:=by
 obtain ⟨c,h⟩:=h
 by_cases e:q=b
 ·subst e
  have h1:=hb.symm.trans h
  injection h1 with h1
  injection h1 with _ h1 _
  subst h1
  exact ⟨_,hb.set u⟩
 ·exact ⟨c,(Below.heap_setCell w ⟨b,0,none⟩ u q e).trans h⟩
theorem T1.set1 {w:World} {b:Nat} {v:Value} {ty:TypeId} (hb:Bx w b ty v) (u:Value) {p:Nat} {t:T3} (ht:T1 w p t):T1 (w.setCell ⟨b,0,none⟩ u) p t:=by
 obtain ⟨k,⟨pk,h1,h2⟩,h3,h4,h5⟩:=ht
 exact ⟨k,⟨pk,lies_set1 hb u (by rw [tc_size];decide) h1,h2.set1 hb u⟩,h3,K.all_monoR (Tr.set1 hb u) h4,h5.1,Tr.set1 hb u _ h5.2⟩
theorem G.setNew {w W:World} (h:G w W) {b:Nat} (hb:w.heap.size≤b) (u:Value):G w (W.setCell ⟨b,0,none⟩ u):=
 ⟨h.os,h.tape,h.output,by rw [World.size_setCell];exact h.size,fun k hk=>(Below.heap_setCell W ⟨b,0,none⟩ u k (show k≠b by omega)).trans (h.block k hk)⟩
theorem boxes3 (w:World) (u v x:Value) (t1 t2 t3:TypeId):Bx (((w.alloc (.cells #[u] t1)).alloc (.cells #[v] t2)).alloc (.cells #[x] t3)) w.heap.size t1 u∧Bx (((w.alloc (.cells #[u] t1)).alloc (.cells #[v] t2)).alloc (.cells #[x] t3)) (w.heap.size+1) t2 v∧Bx (((w.alloc (.cells #[u] t1)).alloc (.cells #[v] t2)).alloc (.cells #[x] t3)) (w.heap.size+2) t3 x:=by
 have s1:(w.alloc (.cells #[u] t1)).heap.size=w.heap.size+1:=by simp
 have s2:((w.alloc (.cells #[u] t1)).alloc (.cells #[v] t2)).heap.size=w.heap.size+2:=by simp
 have g2:=G.alloc (w.alloc (.cells #[u] t1)) (.cells #[v] t2)
 have g3:=G.alloc ((w.alloc (.cells #[u] t1)).alloc (.cells #[v] t2)) (.cells #[x] t3)
 have n1:=World.alloc_heap_new w (.cells #[u] t1)
 have n2:=World.alloc_heap_new (w.alloc (.cells #[u] t1)) (.cells #[v] t2)
 have n3:=World.alloc_heap_new ((w.alloc (.cells #[u] t1)).alloc (.cells #[v] t2)) (.cells #[x] t3)
 rw [s1] at n2
 rw [s2] at n3
 exact ⟨(g3.block _ (by omega)).trans ((g2.block _ (by omega)).trans n1),(g3.block _ (by omega)).trans n2,n3⟩
theorem cleared_any (p:Nat) (t:T3) (ao:Option Addr) (cp:Nat) (L:List Cd) (w:World) (ht:T1 w p t) (hr:t.2.2.rises) (h:HasA w (.slice ao L.length cp) L) (hn:L.length≤50000) (hb:t.2.2.size≤150000) (hp:∀ c∈L,c.path.size≤1048576):
  Calls Tryz.prog 40 #[.pointer (some ⟨p,0,none⟩),.slice ao L.length cp] w (OptTo (dpL t L.reverse) w):=by
 obtain ⟨N,hN⟩:∃ n,L.length=n:=⟨_,rfl⟩
 have HA:=hid h
 have HN:=hid hN
 have HP:=hid hp
 rw [hN] at hn HA ⊢
 obtain ⟨B,hB⟩:∃ B,w.heap.size=B:=⟨_,rfl⟩
 have HB:=hid hB
 have HT:=hid (⟨ht,hr,hb⟩:T1 w p t∧t.2.2.rises∧t.2.2.size≤150000)
 clear h hN hp ht hr hb
 obtain ⟨W3,hW3⟩:∃ W3,((w.alloc (.cells #[.pointer (some ⟨p,0,none⟩)] 34)).alloc (.cells #[.pointer none] 34)).alloc (.cells #[.int .i64 0] 57)=W3:=⟨_,rfl⟩
 have g3:G w W3:=by rw [← hW3];exact ((G.alloc w _).trans (G.alloc _ _)).trans (G.alloc _ _)
 have s3:W3.heap.size=B+3:=by rw [← hW3];simp [hB]
 obtain ⟨hb0,hb1,hb2⟩:Bx W3 B 34 (.pointer (some ⟨p,0,none⟩))∧Bx W3 (B+1) 34 (.pointer none)∧Bx W3 (B+2) 57 (.int .i64 0):=by
  rw [← hW3,← hB]
  exact boxes3 w _ _ _ _ _ _
 obtain ⟨W4,hW4⟩:∃ W4,W3.alloc (.cells #[.slice ao N cp] 31)=W4:=⟨_,rfl⟩
 have g4:G W3 W4:=by rw [← hW4];exact G.alloc _ _
 have hb3:Bx W4 (B+3) 31 (.slice ao N cp):=by
  unfold Bx
  rw [← hW4,← s3]
  exact World.alloc_heap_new W3 _
 have CB:=hid (backF_any ao N cp W3)
 refine (callsIn_wide (n:=3)).1 ?_
 refine callsIn_of_wp_marks Tryz.func40 rfl trivial (Go.wpIn_mono (Q:=RetM Tryz.f40 _) ?_ RetM.post) rfl
 simp only [Tryz.ntmps40,List.size_toArray,List.length_cons,List.length_nil,Nat.reduceAdd,Nat.reduceSub,Array.replicate_succ,Array.replicate_zero,List.push_toArray,List.append_toArray,List.nil_append,List.cons_append]
 rw [s3,hW4] at CB
 gi_wp2_with (first
  | (refine ⟨trivial,?_⟩;gi_at_call 83;refine (callsIn_wide.2 CB.out).mono ?_;rintro e w' ⟨rfl,e4⟩;rw [e4];clear e4 w')
  | (gi_at_call 83;refine (callsIn_wide.2 CB.out).mono ?_;rintro e w' ⟨rfl,e4⟩;rw [e4];clear e4 w'))
 obtain ⟨ga,oa,hga,hgB,hL⟩:∃ ga oa,(N=0∨(ao=some ⟨ga,oa,none⟩∧ga<w.heap.size))∧(ga<B∨ga=B+3)∧∀ (i:Nat) x,L[i]?=some x→Ch.Lies w ga (oa+i*71) (cc x):=by
  have hn0:N=0→∀ (i:Nat) x,L[i]?=some x→False:=fun h0 i x hx=>by have:=(List.getElem?_eq_some_iff.1 hx).1;have:=HN.out;omega
  by_cases h0:N=0
  ·exact ⟨B+3,0,.inl h0,by omega,fun i x hx=>(hn0 h0 i x hx).elim⟩
  ·rcases HA.out with ⟨_,e⟩ | ⟨g,o,cap,e,_,hl⟩
   ·subst e
    exact absurd (by have:=HN.out;simpa using this.symm) h0
   ·have hlt:g<w.heap.size:=by
     obtain ⟨x,hx⟩:∃ x,L[0]?=some x:=⟨L[0]'(by have:=HN.out;omega),by simp⟩
     exact World.block_lt_of_cell? _ _ ((hl 0 x hx).path)
    injection e with e1 _ _
    exact ⟨g,o,.inr ⟨e1,hlt⟩,by omega,hl⟩
 have s4:W4.heap.size=B+4:=by rw [← hW4];simp [s3]
 have g04:G w W4:=g3.trans g4
 have I0:ClI w B t L N 150000 [] p t W4:=⟨(g4.block _ (by omega)).trans hb0,(g4.block _ (by omega)).trans hb1,(g4.block _ (by omega)).trans hb2,⟨_,hb3⟩,HT.out.1.grow g04,HT.out.2.1,HT.out.2.2,rfl,g04⟩
 have SEQ:=back_at 2 (by omega) (B+3) ga oa N cp ao L HN.out (by omega) W4 hb3.cell (by omega) (hga.imp id fun q=>⟨q.1,by have:=q.2;omega⟩) (fun i x hx=>(hL i x hx).below g04)
 have HG:=hid (⟨s4,hB,hgB⟩:_∧_∧_)
 clear hga hL CB hb0 hb1 hb2 hb3 g3 g4 hW3 hW4 s3 g04
 refine wpIn_range_to rfl (by omega) (gf:=116) (lb:=#[.pointer (some ⟨B+3,0,none⟩)]) rfl trivial (enters_of Tryz.func116 (by kernel_rfl) rfl) SEQ keepB_t
  (fun W l o o' hl _ _ _=>⟨World.putObj_heap_other (by omega),World.putObj_heap_other (by omega)⟩) (Below.refl _ _) (fun _=>rfl)
  (fun pre W=>ClE w B t L N 150000 pre W) (fun _ W=>ClX w B t L W)
  (fun s A C row ⟨pk,tk,h⟩ hg hr=>⟨pk,tk,h.grown hg fun r e=>⟨by have:=(hr r e).1;omega,(hr r e).2⟩⟩)
  (fun s A C row h hg hr=>h.grown hg fun r e=>⟨by have:=(hr r e).1;omega,(hr r e).2⟩)
  ⟨p,t,I0⟩
  (fun x g=>{ tmps:=#[.pointer (some ⟨p,0,none⟩),.slice ao N cp,.pointer (some ⟨B,0,none⟩),undef,.pointer (some ⟨B+1,0,none⟩),.pointer (some ⟨B+1+1,0,none⟩),undef,.pointer (some ⟨g,0,none⟩),undef,undef,undef,.slice ao N cp,.func (.func 116) #[] #[.pointer (some ⟨B+3,0,none⟩)],.int .i64 (x.1:Int),.agg (cc (L.getD x.1 (chP ⟨#[]⟩))),undef,undef,undef,undef,undef,undef,undef,undef,undef,undef,undef,undef,undef,undef,undef,undef,undef,undef,undef,undef,undef,undef,undef,undef,undef,undef,undef,undef],defers:=[] })
  (fun x W=>(W.alloc (.cells z55 66)).setRow W.heap.size (cc (L.getD x.1 (chP ⟨#[]⟩))))
  (fun s W=>ClE w B t L N 150000 s.1 W∧Lies W s.2.2 0 (cc (L.getD s.2.1.1 (chP ⟨#[]⟩)))∧B+4≤s.2.2)
  (fun s A C row ⟨⟨pk,tk,h⟩,h2,h3⟩ hg hr=>⟨⟨pk,tk,h.grown hg fun r e=>⟨by have:=(hr r e).1;omega,(hr r e).2⟩⟩,(cel_grown hg fun r e=>(hr r e).2).lies h2,h3⟩)
  (fun x W=>(Ch.new_varT W 66 z55 _).1)
  (fun pre x W ⟨pk,tk,h⟩=>by
   have hc:=cvar W (L.getD x.1 (chP ⟨#[]⟩)) W.heap.size rfl
   obtain ⟨_,h3⟩:=h.b3
   exact ⟨⟨pk,tk,h.up hc.1⟩,hc.2.1,by
    have:=(Array.getElem?_eq_some_iff.1 h3).1
    show B+4≤W.heap.size
    omega⟩)
  (fun x W hs=>by
   have hb:=(Ch.new_varT W 66 z55 (cc (L.getD x.1 (chP ⟨#[]⟩)))).1
   exact ⟨hb.block _ (by omega),hb.block _ (by omega)⟩)
  ?assign ?body ?done ?stop
 case assign=>
  intro l x W K hK
  obtain ⟨g,hg⟩:∃ g,W.heap.size=g:=⟨_,rfl⟩
  have hc:=cvar W (L.getD x.1 (chP ⟨#[]⟩)) g hg
  have hs:=jl (L.getD x.1 (chP ⟨#[]⟩))
  have ho:=cc_one (L.getD x.1 (chP ⟨#[]⟩))
  simp only [encB]
  rw [hg] at hK
  generalize cc (L.getD x.1 (chP ⟨#[]⟩))=X at *
  obtain ⟨W1,hW1⟩:∃ W1,W.alloc (.cells z55 66)=W1:=⟨_,rfl⟩
  rw [hW1] at hc hK
  obtain ⟨W2,hW2⟩:∃ W2,W1.setRow g X=W2:=⟨_,rfl⟩
  rw [hW2] at hK
  have hst:∀ (o:Oper) (a:Act),o.op=.store 66 (.tmp 7) (.tmp 14)→a.eval (.tmp 7)=.pointer (some ⟨g,0,none⟩)→a.eval (.tmp 14)=.agg X→(execOp a.eval o).run Tryz.prog W1=.ok .skip W2:=fun o a h1 h2 h3=>by
   rw [← hW2]
   exact Ch.exec_storeT 66 _ _ h1 g X z55 h2 h3 _ hc.2.2 (by rw [Ch.size55,hs]) (by rw [z55_size,hs]) ho
  have HX:=hid (⟨hst,hW1⟩:_∧_)
  have HK:=hid hK
  clear hs ho hc hK hW1 hW2 hst
  go_simp
  gi_wp2_with (first
   | ((with_reducible refine jT (.pointer (some ⟨g,0,none⟩)) W1 ?_ ?_ ?_ ?_ ?_);rfl;exact (by rw [← HX.out.2];exact Ch.exec_allocT 66 z55 rfl zero55 _ _ hg);(intro c h;cases h);exact fun _ _=>trivial)
   | ((with_reducible refine wpListIn_skipW W2 ?_ ?_ ?_ ?_ ?_);rfl;exact HX.out.1 _ _ rfl rfl rfl;(intro c h;cases h);exact fun _ _=>trivial))
  exact HK.out
 case body=>
  rintro l pre x g W ⟨⟨pk,tk,h⟩,hl,hg⟩ hsp
  obtain ⟨r,hr⟩:∃ r,L.getD x.1 (chP ⟨#[]⟩)=r:=⟨_,rfl⟩
  have hxN:x.1<L.length:=by have:=x.2;have:=HN.out;omega
  have hrL:r∈L:=by rw [← hr];simp [List.getD,hxN]
  have hels:els L (pre++[x])=els L pre++[r]:=by unfold els;rw [List.map_append,List.map_singleton,hr]
  have hpre:=els_pre HN.out hsp
  have hdp:dpL t (els L (pre++[x]))=dpM tk r:=by
   rw [hels,dpL_app,h.dp,Option.bind_some,dpL]
   cases dpM tk r<;>rfl
  have hall:dpM tk r=none→dpL t L.reverse=none:=fun e=>by
   obtain ⟨q,hq⟩:=hpre
   rw [← hq,dpL_app,hdp,e];rfl
  have hs:=HP.out r hrL
  replace hl:Ch.Lies W g 0 (cc r):=by rw [← hr];exact hl
  have c0:W.cell? ⟨g,0,none⟩=some (.string r.path):=hl.path
  have HNw:Hid (Lies W g 36 (vx (vcV r.new)).toArray):=by have:=hl.new;rwa [Nat.zero_add] at this
  obtain ⟨YN,hYN⟩:∃ Y,(vx (vcV r.new)).toArray=Y:=⟨_,rfl⟩
  obtain ⟨ZO,hZO⟩:∃ Y,(vx Vd.zero).toArray=Y:=⟨_,rfl⟩
  have HYN:Hid (YN=(vx (vcV r.new)).toArray∧YN.size=35):=⟨hYN.symm,by rw [← hYN];simp [jQ]⟩
  have HZO:Hid (ZO=(vx Vd.zero).toArray):=hZO.symm
  rw [hYN] at HNw
  have ct:=h.bt.cell
  have ft:=h.bt.frozen
  have c1:=h.b1.cell
  have f1:=h.b1.frozen
  have c2:=h.b2.cell
  have f2:=h.b2.frozen
  have HH:=hid (⟨h,hl,hg,hdp,hall,hs⟩:_∧_∧_∧_∧_∧_)
  have CS:=hid (sub_any (P:=fun _=>True) pk tk r.path W h.tr h.ri hs)
  simp only [hr]
  generalize cc r=XX
  clear h hl hsp hr hrL hels hpre hdp hall hs hYN hZO hxN
  by_cases hz:vcV r.new=Vd.zero
  case neg=>
   have HBO:Hid ((!decide (vcV r.new=Vd.zero))=true):=by show (!decide (vcV r.new=Vd.zero))=true;simp [hz]
   have HD:Hid (dpM tk r=some tk):=by show dpM tk r=some tk;unfold dpM;rw [if_pos hz]
   clear hz
   gi_wp2_with (first
    | ((with_reducible refine jT (.agg YN) W ?_ ?_ ?_ ?_ ?_);rfl;exact jE _ rfl g 36 rfl YN HYN.out.2 HNw.out;(intro c h;cases h);exact fun _ _=>trivial)
    | ((with_reducible refine jT (.agg ZO) W ?_ ?_ ?_ ?_ ?_);rfl;exact jR 24 rfl ZO (by rw [HZO.out];exact qJ) _;(intro c h;cases h);exact fun _ _=>trivial)
    | ((with_reducible refine jT (.bool true) W ?_ ?_ ?_ ?_ ?_);rfl;exact jd _ _ rfl YN ZO rfl rfl (vcV r.new) Vd.zero HYN.out.1 HZO.out true HBO.out _;(intro c h;cases h);exact fun _ _=>trivial))
   refine ⟨KeepsOthers.refl _,⟨rfl,rfl⟩,pk,tk,?_⟩
   obtain ⟨h,_,_,hdp,_⟩:=HH.out
   exact { h with dp:=hdp.trans HD.out }
  have HBO:Hid ((!decide (vcV r.new=Vd.zero))=false):=by show (!decide (vcV r.new=Vd.zero))=false;simp [hz]
  have HZ1:=hid hz
  clear hz
  obtain ⟨E,hE⟩:∃ E,dropE tk r.path=E:=⟨_,rfl⟩
  have HE:=hid hE
  clear hE
  obtain ⟨dd,hdd⟩:∃ dd,(match subS tk r.path with | none=>0 | some y=>y.2.2.depth)=dd:=⟨_,rfl⟩
  have HD0:Hid (dpM tk r=if dd≠0 then none else if E≠0 then none else some (dropT tk (cutN r.path))):=by
   show dpM tk r=_
   unfold dpM
   rw [if_neg (by simpa using HZ1.out),hdd,HE.out]
  cases hsub:subS tk r.path with
  | none=>
   rw [hsub] at CS hdd
   subst hdd
   have HD:Hid (dpM tk r=if E≠0 then none else some (dropT tk (cutN r.path))):=by
    show dpM tk r=_
    rw [HD0.out,if_neg (by simp)]
   clear hsub HD0
   by_cases h0:E=0
   case' pos=>
    subst h0
    gi_wp2_with (first
    | ((with_reducible refine jT (.agg YN) W ?_ ?_ ?_ ?_ ?_);rfl;exact jE _ rfl g 36 rfl YN HYN.out.2 HNw.out;(intro c h;cases h);exact fun _ _=>trivial)
    | ((with_reducible refine jT (.agg ZO) W ?_ ?_ ?_ ?_ ?_);rfl;exact jR 24 rfl ZO (by rw [HZO.out];exact qJ) _;(intro c h;cases h);exact fun _ _=>trivial)
    | ((with_reducible refine jT (.bool false) W ?_ ?_ ?_ ?_ ?_);rfl;exact jd _ _ rfl YN ZO rfl rfl (vcV r.new) Vd.zero HYN.out.1 HZO.out false HBO.out _;(intro c h;cases h);exact fun _ _=>trivial)
    | (refine ⟨trivial,?_⟩;gi_at_call 84;refine (CallsIn.inRound l (callsIn_wide.2 CS.out)).mono ?_;rintro e W2 ⟨u,rfl,hu,hg2⟩;obtain rfl:=(show u=.pointer none from hu);have c02:=hg2.cell c0;have ct2:=(HH.out.1.up hg2).bt.cell;have ft2:=(HH.out.1.up hg2).bt.frozen;have c12:=(HH.out.1.up hg2).b1.cell;have f12:=(HH.out.1.up hg2).b1.frozen;have c22:=(HH.out.1.up hg2).b2.cell;have f22:=(HH.out.1.up hg2).b2.frozen;have HW:=hid hg2;have CD:=hid (drop_any pk tk r.path W2 (HH.out.1.tr.grow hg2) HH.out.1.ri HH.out.2.2.2.2.2 HH.out.1.sz);rw [HE.out] at CD;clear hu hg2)
    | (refine ⟨trivial,?_⟩;gi_at_call 86;refine (CallsIn.inRound l (callsIn_wide.2 CD.out)).mono ?_;rintro e W3 ⟨u3,rfl,q1,_,q3⟩;obtain ⟨p',rfl,hp'⟩:=q3 rfl;have HW3:=hid (⟨HW.out.trans q1,hp'⟩:_∧_);have ct3:=(HH.out.1.up HW3.out.1).bt.cell;have ft3:=(HH.out.1.up HW3.out.1).bt.frozen;have c13:=(HH.out.1.up HW3.out.1).b1.cell;have f13:=(HH.out.1.up HW3.out.1).b1.frozen;have c23:=(HH.out.1.up HW3.out.1).b2.cell;have f23:=(HH.out.1.up HW3.out.1).b2.frozen;clear q1 q3 hp')
    | (refine ⟨trivial,?_⟩))
    refine ⟨(jy HW3.out.1).trans (KeepsOthers.setCell _ _ _),?_,?_⟩
    ·obtain ⟨v3,hb3⟩:=HH.out.1.b3
     exact ⟨(Below.heap_setCell _ _ _ _ (show B+3≠B by omega)).trans (HW3.out.1.block _ (Array.getElem?_eq_some_iff.1 hb3).1),(Below.heap_setCell _ _ _ _ (show ga≠B by omega)).trans (HW3.out.1.block _ (by have:=(Array.getElem?_eq_some_iff.1 hb3).1;omega))⟩
    ·have h3:=HH.out.1.up HW3.out.1
     exact ⟨p',dropT tk (cutN r.path),h3.bt.set _,h3.b1.other (by omega),h3.b2.other (by omega),h3.b3.imp fun _ q=>q.other (by omega),HW3.out.2.set1 h3.bt _,dropT_rises h3.ri,Nat.le_trans (dropT_le h3.ri) h3.sz,HH.out.2.2.2.1.trans (by rw [HD.out,if_neg (by simp)]),h3.g.setNew (by omega) _⟩
   case' neg=>
    have hE0:(E != 0)=true:=by simpa using h0
    have H0:=hid h0
    clear h0
    gi_wp2_with (first
    | ((with_reducible refine jT (.agg YN) W ?_ ?_ ?_ ?_ ?_);rfl;exact jE _ rfl g 36 rfl YN HYN.out.2 HNw.out;(intro c h;cases h);exact fun _ _=>trivial)
    | ((with_reducible refine jT (.agg ZO) W ?_ ?_ ?_ ?_ ?_);rfl;exact jR 24 rfl ZO (by rw [HZO.out];exact qJ) _;(intro c h;cases h);exact fun _ _=>trivial)
    | ((with_reducible refine jT (.bool false) W ?_ ?_ ?_ ?_ ?_);rfl;exact jd _ _ rfl YN ZO rfl rfl (vcV r.new) Vd.zero HYN.out.1 HZO.out false HBO.out _;(intro c h;cases h);exact fun _ _=>trivial)
    | (refine ⟨trivial,?_⟩;gi_at_call 84;refine (CallsIn.inRound l (callsIn_wide.2 CS.out)).mono ?_;rintro e W2 ⟨u,rfl,hu,hg2⟩;obtain rfl:=(show u=.pointer none from hu);have c02:=hg2.cell c0;have ct2:=(HH.out.1.up hg2).bt.cell;have ft2:=(HH.out.1.up hg2).bt.frozen;have c12:=(HH.out.1.up hg2).b1.cell;have f12:=(HH.out.1.up hg2).b1.frozen;have c22:=(HH.out.1.up hg2).b2.cell;have f22:=(HH.out.1.up hg2).b2.frozen;have HW:=hid hg2;have CD:=hid (drop_any pk tk r.path W2 (HH.out.1.tr.grow hg2) HH.out.1.ri HH.out.2.2.2.2.2 HH.out.1.sz);rw [HE.out] at CD;clear hu hg2)
    | (refine ⟨trivial,?_⟩;gi_at_call 86;refine (CallsIn.inRound l (callsIn_wide.2 CD.out)).mono ?_;rintro e W3 ⟨u3,rfl,q1,q2,_⟩;obtain rfl:=q2 H0.out;have HW3:=hid (HW.out.trans q1);have ct3:=(HH.out.1.up HW3.out).bt.cell;have ft3:=(HH.out.1.up HW3.out).bt.frozen;have c13:=(HH.out.1.up HW3.out).b1.cell;have f13:=(HH.out.1.up HW3.out).b1.frozen;have c23:=(HH.out.1.up HW3.out).b2.cell;have f23:=(HH.out.1.up HW3.out).b2.frozen;clear q1 q2)
    | (refine ⟨trivial,?_⟩))
    refine ⟨((jy HW3.out).trans (KeepsOthers.setCell _ _ _)).trans ((KeepsOthers.setCell _ _ _).trans (KeepsOthers.setCell _ _ _)),?_⟩
    have h3:=HH.out.1.up HW3.out
    have b1:=(h3.b1.other (b':=B) (u:=.pointer none) (by omega)).set (.pointer none)
    have b2:=((h3.b2.other (b':=B) (u:=.pointer none) (by omega)).other (b':=B+1) (u:=.pointer none) (by omega)).set (.int .i64 E)
    exact ⟨E,b1.other (by omega),b2,H0.out,HH.out.2.2.2.2.1 (by rw [HD.out,if_pos H0.out]),((h3.g.setNew (by omega) _).setNew (by omega) _).setNew (by omega) _⟩
  | some y=>
   rw [hsub] at CS hdd
   have HDY:Hid ((y.2.2.depth:Int)=(dd:Int)):=by show (y.2.2.depth:Int)=_;rw [show y.2.2.depth=dd from hdd]
   clear hsub hdd
   by_cases hd0:dd=0
   ·subst hd0
    have HD:Hid (dpM tk r=if E≠0 then none else some (dropT tk (cutN r.path))):=by
     show dpM tk r=_
     rw [HD0.out,if_neg (by simp)]
    clear HD0
    by_cases h0:E=0
    case' pos=>
     subst h0
     gi_wp2_with (first
    | ((with_reducible refine jT (.agg YN) W ?_ ?_ ?_ ?_ ?_);rfl;exact jE _ rfl g 36 rfl YN HYN.out.2 HNw.out;(intro c h;cases h);exact fun _ _=>trivial)
    | ((with_reducible refine jT (.agg ZO) W ?_ ?_ ?_ ?_ ?_);rfl;exact jR 24 rfl ZO (by rw [HZO.out];exact qJ) _;(intro c h;cases h);exact fun _ _=>trivial)
    | ((with_reducible refine jT (.bool false) W ?_ ?_ ?_ ?_ ?_);rfl;exact jd _ _ rfl YN ZO rfl rfl (vcV r.new) Vd.zero HYN.out.1 HZO.out false HBO.out _;(intro c h;cases h);exact fun _ _=>trivial)
    | (refine ⟨trivial,?_⟩;gi_at_call 84;refine (CallsIn.inRound l (callsIn_wide.2 CS.out)).mono ?_;rintro e W2 ⟨u,rfl,hu,hg2⟩;obtain ⟨py,rfl,hy⟩:=hu;have HY:=hid hy;clear hy;have c02:=hg2.cell c0;have ct2:=(HH.out.1.up hg2).bt.cell;have ft2:=(HH.out.1.up hg2).bt.frozen;have c12:=(HH.out.1.up hg2).b1.cell;have f12:=(HH.out.1.up hg2).b1.frozen;have c22:=(HH.out.1.up hg2).b2.cell;have f22:=(HH.out.1.up hg2).b2.frozen;have HW:=hid hg2;have CD:=hid (drop_any pk tk r.path W2 (HH.out.1.tr.grow hg2) HH.out.1.ri HH.out.2.2.2.2.2 HH.out.1.sz);rw [HE.out] at CD;clear hg2)
    | (refine ⟨trivial,?_⟩;gi_at_call 85;refine (CallsIn.inRound l (callsIn_wide.2 (depthF_any (P:=fun _=>True) HY.out))).mono ?_;rintro e Wd ⟨rfl,ed⟩;rw [HDY.out,ed];clear ed Wd)
    | (refine ⟨trivial,?_⟩;gi_at_call 86;refine (CallsIn.inRound l (callsIn_wide.2 CD.out)).mono ?_;rintro e W3 ⟨u3,rfl,q1,_,q3⟩;obtain ⟨p',rfl,hp'⟩:=q3 rfl;have HW3:=hid (⟨HW.out.trans q1,hp'⟩:_∧_);have ct3:=(HH.out.1.up HW3.out.1).bt.cell;have ft3:=(HH.out.1.up HW3.out.1).bt.frozen;have c13:=(HH.out.1.up HW3.out.1).b1.cell;have f13:=(HH.out.1.up HW3.out.1).b1.frozen;have c23:=(HH.out.1.up HW3.out.1).b2.cell;have f23:=(HH.out.1.up HW3.out.1).b2.frozen;clear q1 q3 hp')
    | (refine ⟨trivial,?_⟩))
    refine ⟨(jy HW3.out.1).trans (KeepsOthers.setCell _ _ _),?_,?_⟩
    ·obtain ⟨v3,hb3⟩:=HH.out.1.b3
     exact ⟨(Below.heap_setCell _ _ _ _ (show B+3≠B by omega)).trans (HW3.out.1.block _ (Array.getElem?_eq_some_iff.1 hb3).1),(Below.heap_setCell _ _ _ _ (show ga≠B by omega)).trans (HW3.out.1.block _ (by have:=(Array.getElem?_eq_some_iff.1 hb3).1;omega))⟩
    ·have h3:=HH.out.1.up HW3.out.1
     exact ⟨p',dropT tk (cutN r.path),h3.bt.set _,h3.b1.other (by omega),h3.b2.other (by omega),h3.b3.imp fun _ q=>q.other (by omega),HW3.out.2.set1 h3.bt _,dropT_rises h3.ri,Nat.le_trans (dropT_le h3.ri) h3.sz,HH.out.2.2.2.1.trans (by rw [HD.out,if_neg (by simp)]),h3.g.setNew (by omega) _⟩
    case' neg=>
     have hE0:(E != 0)=true:=by simpa using h0
     have H0:=hid h0
     clear h0
     gi_wp2_with (first
    | ((with_reducible refine jT (.agg YN) W ?_ ?_ ?_ ?_ ?_);rfl;exact jE _ rfl g 36 rfl YN HYN.out.2 HNw.out;(intro c h;cases h);exact fun _ _=>trivial)
    | ((with_reducible refine jT (.agg ZO) W ?_ ?_ ?_ ?_ ?_);rfl;exact jR 24 rfl ZO (by rw [HZO.out];exact qJ) _;(intro c h;cases h);exact fun _ _=>trivial)
    | ((with_reducible refine jT (.bool false) W ?_ ?_ ?_ ?_ ?_);rfl;exact jd _ _ rfl YN ZO rfl rfl (vcV r.new) Vd.zero HYN.out.1 HZO.out false HBO.out _;(intro c h;cases h);exact fun _ _=>trivial)
    | (refine ⟨trivial,?_⟩;gi_at_call 84;refine (CallsIn.inRound l (callsIn_wide.2 CS.out)).mono ?_;rintro e W2 ⟨u,rfl,hu,hg2⟩;obtain ⟨py,rfl,hy⟩:=hu;have HY:=hid hy;clear hy;have c02:=hg2.cell c0;have ct2:=(HH.out.1.up hg2).bt.cell;have ft2:=(HH.out.1.up hg2).bt.frozen;have c12:=(HH.out.1.up hg2).b1.cell;have f12:=(HH.out.1.up hg2).b1.frozen;have c22:=(HH.out.1.up hg2).b2.cell;have f22:=(HH.out.1.up hg2).b2.frozen;have HW:=hid hg2;have CD:=hid (drop_any pk tk r.path W2 (HH.out.1.tr.grow hg2) HH.out.1.ri HH.out.2.2.2.2.2 HH.out.1.sz);rw [HE.out] at CD;clear hg2)
    | (refine ⟨trivial,?_⟩;gi_at_call 85;refine (CallsIn.inRound l (callsIn_wide.2 (depthF_any (P:=fun _=>True) HY.out))).mono ?_;rintro e Wd ⟨rfl,ed⟩;rw [HDY.out,ed];clear ed Wd)
    | (refine ⟨trivial,?_⟩;gi_at_call 86;refine (CallsIn.inRound l (callsIn_wide.2 CD.out)).mono ?_;rintro e W3 ⟨u3,rfl,q1,q2,_⟩;obtain rfl:=q2 H0.out;have HW3:=hid (HW.out.trans q1);have ct3:=(HH.out.1.up HW3.out).bt.cell;have ft3:=(HH.out.1.up HW3.out).bt.frozen;have c13:=(HH.out.1.up HW3.out).b1.cell;have f13:=(HH.out.1.up HW3.out).b1.frozen;have c23:=(HH.out.1.up HW3.out).b2.cell;have f23:=(HH.out.1.up HW3.out).b2.frozen;clear q1 q2)
    | (refine ⟨trivial,?_⟩))
    refine ⟨((jy HW3.out).trans (KeepsOthers.setCell _ _ _)).trans ((KeepsOthers.setCell _ _ _).trans (KeepsOthers.setCell _ _ _)),?_⟩
    have h3:=HH.out.1.up HW3.out
    have b1:=(h3.b1.other (b':=B) (u:=.pointer none) (by omega)).set (.pointer none)
    have b2:=((h3.b2.other (b':=B) (u:=.pointer none) (by omega)).other (b':=B+1) (u:=.pointer none) (by omega)).set (.int .i64 E)
    exact ⟨E,b1.other (by omega),b2,H0.out,HH.out.2.2.2.2.1 (by rw [HD.out,if_pos H0.out]),((h3.g.setNew (by omega) _).setNew (by omega) _).setNew (by omega) _⟩
   ·have hdp:(0:Int)<(dd:Int):=by omega
    have HDD:=hid hd0
    clear hd0
    gi_wp2_with (first
    | ((with_reducible refine jT (.agg YN) W ?_ ?_ ?_ ?_ ?_);rfl;exact jE _ rfl g 36 rfl YN HYN.out.2 HNw.out;(intro c h;cases h);exact fun _ _=>trivial)
    | ((with_reducible refine jT (.agg ZO) W ?_ ?_ ?_ ?_ ?_);rfl;exact jR 24 rfl ZO (by rw [HZO.out];exact qJ) _;(intro c h;cases h);exact fun _ _=>trivial)
    | ((with_reducible refine jT (.bool false) W ?_ ?_ ?_ ?_ ?_);rfl;exact jd _ _ rfl YN ZO rfl rfl (vcV r.new) Vd.zero HYN.out.1 HZO.out false HBO.out _;(intro c h;cases h);exact fun _ _=>trivial)
    | (refine ⟨trivial,?_⟩;gi_at_call 84;refine (CallsIn.inRound l (callsIn_wide.2 CS.out)).mono ?_;rintro e W2 ⟨u,rfl,hu,hg2⟩;obtain ⟨py,rfl,hy⟩:=hu;have HY:=hid hy;clear hy;have c02:=hg2.cell c0;have ct2:=(HH.out.1.up hg2).bt.cell;have ft2:=(HH.out.1.up hg2).bt.frozen;have c12:=(HH.out.1.up hg2).b1.cell;have f12:=(HH.out.1.up hg2).b1.frozen;have c22:=(HH.out.1.up hg2).b2.cell;have f22:=(HH.out.1.up hg2).b2.frozen;have HW:=hid hg2;have CD:=hid (drop_any pk tk r.path W2 (HH.out.1.tr.grow hg2) HH.out.1.ri HH.out.2.2.2.2.2 HH.out.1.sz);rw [HE.out] at CD;clear hg2)
    | (refine ⟨trivial,?_⟩;gi_at_call 85;refine (CallsIn.inRound l (callsIn_wide.2 (depthF_any (P:=fun _=>True) HY.out))).mono ?_;rintro e Wd ⟨rfl,ed⟩;rw [HDY.out,ed];clear ed Wd)
    | (refine ⟨trivial,?_⟩))
    refine ⟨((jy HW.out).trans (KeepsOthers.setCell _ _ _)).trans (KeepsOthers.setCell _ _ _),?_⟩
    have h3:=HH.out.1.up HW.out
    exact ⟨132,(h3.b1.set (.pointer none)).other (by omega),(h3.b2.other (b':=B+1) (u:=.pointer none) (by omega)).set (.int .i64 132),by decide,HH.out.2.2.2.2.1 (by rw [HD0.out,if_pos HDD.out]),(h3.g.setNew (by omega) _).setNew (by omega) _⟩
 case done=>
  rintro D xs W hD hxs ⟨pk,tk,h⟩ hK
  have ct:=h.bt.cell
  have c1:=h.b1.cell
  have f1:=h.b1.frozen
  have c2:=h.b2.cell
  have f2:=h.b2.frozen
  have hdp:=h.dp
  have HZ:=hid (⟨hxs,h,hK,hD⟩:_∧_∧_∧_)
  clear h hK hxs hdp
  gi_wp2
  obtain ⟨hxs,h,hK,hD⟩:=HZ.out
  obtain ⟨Wz,hWz⟩:∃ Wz,(W.setCell ⟨B+1,0,none⟩ (.pointer (some ⟨pk,0,none⟩))).setCell ⟨B+2,0,none⟩ (.int .i64 0)=Wz:=⟨_,rfl⟩
  have k1:Wz.heap[D]?=some (.deferred (some [])):=by
   rw [← hWz]
   exact (KeepsOthers.setCell _ _ _).same D _ ((KeepsOthers.setCell _ _ _).same D _ hK rfl) rfl
  have hb2':=h.b2.other (u:=.pointer (some ⟨pk,0,none⟩)) (show B+2≠B+1 by omega)
  have z1:Bx Wz (B+1) 34 (.pointer (some ⟨pk,0,none⟩)):=by rw [← hWz];exact (h.b1.set _).other (by omega)
  have z2:Bx Wz (B+2) 57 (.int .i64 0):=by rw [← hWz];exact hb2'.set _
  have zt:T1 Wz pk tk:=by rw [← hWz];exact (h.tr.set1 h.b1 _).set1 hb2' _
  have zg:G w Wz:=by rw [← hWz];exact (h.g.setNew (by omega) _).setNew (by omega) _
  have hgr:=grownBy_putObj' Wz D (.deferred none)
  have hro:∀ r,some D=some r→∃ o:Obj,Wz.heap[r]?=some o∧o.isCells=false:=fun r e=>by cases e;exact ⟨_,k1,rfl⟩
  show RetM Tryz.f40 _ _ _ ((W.setCell ⟨B+1,0,none⟩ (.pointer (some ⟨pk,0,none⟩))).setCell ⟨B+2,0,none⟩ (.int .i64 0))
  rw [hWz]
  refine ⟨by simp,.inl ⟨_,_,rfl,run_takeDeferred k1,?_⟩⟩
  have r1:=(bx_grown hgr hro z1).cell
  have r2:=(bx_grown hgr hro z2).cell
  refine ⟨.tuple #[.pointer (some ⟨pk,0,none⟩),.int .i64 0],?_,?_⟩
  ·simp [results,Tryz.f40,go_sem,r1,r2]
  ·refine ⟨_,_,rfl,below_grown zg hgr (fun r e=>by cases e;omega),?_⟩
   have hdp:=h.dp
   have he:els L xs=L.reverse:=by rw [els_ixs,hxs,els_revs HN.out]
   rw [he] at hdp
   rw [hdp]
   exact ⟨rfl,pk,rfl,zt.cel (cel_grown hgr hro) (tr_grown hgr hro)⟩
 case stop=>
  rintro D ps W hD hps ⟨E,h1,h2,h3,h4,h5⟩ hK
  have HZ:=hid (⟨h1,h2,h3,h4,h5,hK,hD⟩:_∧_∧_∧_∧_∧_∧_)
  clear h1 h2 h3 h4 h5 hK
  gi_wp2
  obtain ⟨h1,h2,h3,h4,h5,hK,hD⟩:=HZ.out
  have hgr:=grownBy_putObj' W D (.deferred none)
  have hro:∀ r,some D=some r→∃ o:Obj,W.heap[r]?=some o∧o.isCells=false:=fun r e=>by cases e;exact ⟨_,hK,rfl⟩
  refine ⟨by simp,.inl ⟨_,_,rfl,run_takeDeferred hK,?_⟩⟩
  have r1:=(bx_grown hgr hro h1).cell
  have r2:=(bx_grown hgr hro h2).cell
  refine ⟨.tuple #[.pointer none,.int .i64 E],?_,?_⟩
  ·simp [results,Tryz.f40,go_sem,r1,r2]
  ·refine ⟨_,_,rfl,below_grown h5 hgr (fun r e=>by cases e;omega),?_⟩
   rw [h4]
   exact h3
end Go.Proofs.YthfcanpkhjgomaaGreat
