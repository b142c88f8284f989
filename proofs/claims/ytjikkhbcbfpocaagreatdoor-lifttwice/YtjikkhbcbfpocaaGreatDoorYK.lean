import Derived.Test.YtjikkhbcbfpocaaGreatDoorWays
import Derived.Test.YtjikkhbcbfpocaaGreatDoorYV
set_option maxRecDepth 100000
set_option maxHeartbeats 4000000
namespace Go.Proofs.YtjikkhbcbfpocaaGreatDoor
open Go.RowKit
def F.nameL:F→List ByteArray
 | .nil=>[]
 | .cons n _ _ _ r=>n::r.nameL
def F.blank:F→F
 | .nil=>.nil
 | .cons _ v m k r=>.cons ⟨#[]⟩ v m k r.blank
def F.nm:F→List ByteArray→Nat→F
 | .cons _ v m k r,x::L,i+1=>.cons x v m k (r.nm L i)
 | f,_,_=>f
theorem F.nm_zero:∀ (f:F) (L:List ByteArray),f.nm L 0=f
 | .nil,_=>rfl
 | .cons ..,[]=>rfl
 | .cons ..,_::_=>rfl
theorem F.nm_blank:∀ f:F,f.blank.nm f.nameL f.len=f
 | .nil=>rfl
 | .cons n v m k r=>by rw [F.blank,F.nameL,F.len,F.nm,F.nm_blank r]
theorem F.nm_len:∀ (f:F) (L:List ByteArray) (i:Nat),(f.nm L i).len=f.len
 | .nil,L,i=>by cases L<;>cases i<;>rfl
 | .cons ..,[],_=>rfl
 | .cons ..,_::_,0=>rfl
 | .cons n v m k r,x::L,i+1=>by rw [F.nm,F.len,F.len,F.nm_len r L i]
theorem F.zT:∀ f:F,f.blank.len=f.len
 | .nil=>rfl
 | .cons _ _ _ _ r=>by rw [F.blank,F.len,F.len,F.zT r]
theorem F.nameL_len:∀ f:F,f.nameL.length=f.len
 | .nil=>rfl
 | .cons _ _ _ _ r=>by rw [F.nameL,F.len,lC,F.nameL_len r]
theorem ja.nm {w:World} {T:Nat→Prop}:∀ {f:F} {L:List ByteArray} {i:Nat} {x:ByteArray} {xs:List Value},ja w T (f.nm L i) xs→L[i]?=some x→i<f.len→ja w T (f.nm L (i+1)) (xs.set (i*41) (.string x))
 | .nil,_,_,_,_,_,_,h=>by simp [F.len] at h
 | .cons ..,[],_,_,_,_,h,_=>by simp at h
 | .cons n v m k r,y::L,0,x,xs,⟨kv,xs',h1,h2,h3⟩,h,_=>by
  simp at h
  subst h
  rw [F.nm,F.nm_zero]
  refine ⟨kv,xs',?_,h2,h3⟩
  rw [h1]
  simp [nc]
 | .cons n v m k r,y::L,i+1,x,xs,⟨kv,xs',h1,h2,h3⟩,h,hl=>by
  rw [F.nm]
  refine ⟨kv,xs'.set (i*41) (.string x),?_,h2,ja.nm h3 (by simpa using h) (by simp only [F.len] at hl;omega)⟩
  rw [h1,List.set_append_right _ _ (by simp [jO];omega)]
  congr 2
  simp [jO]
  omega
def yZ (w:World) (g:Nat) (c:Array Value):Prop:=w.heap[g]?=some (.cells c 24 (0,0))
theorem yZ.lt {w:World} {g:Nat} {c:Array Value} (h:yZ w g c):g<w.heap.size:=(gS h)
theorem yZ.grow {w w':World} {g:Nat} {c:Array Value} (h:yZ w g c) (hg:G w w'):yZ w' g c:=(Below.block hg g h.lt).trans h
theorem ya (v:Vd):(vx v).toArray.size=35:=by simp [je]
theorem yZ.setCell {w:World} {g:Nat} {c:Array Value} (h:yZ w g c) (j:Nat) (x:Value):yZ (w.setCell ⟨g,j,none⟩ x) g (c.setIfInBounds j x):=by
 have h':w.heap[g]?=some (.cells c 24 (0,0)):=h
 unfold yZ World.setCell
 simp only []
 rw [Array.getElem?_modify]
 simp [h']
theorem ux (v:Vd) (x:Int):(vx v).toArray.setIfInBounds 1 (.int .i64 x)=(vx { v with mode:=x }).toArray:=by simp [vx]
theorem yZ.lies {w:World} {g:Nat} {c:Array Value} (h:yZ w g c):Lies w g 0 c:=fun j u hj=>by
 rw [Nat.zero_add,World.cell?,h]
 exact hj
theorem build30k (v:Vd) (a:Option Addr) (n cap:Nat) (w:World):(Instr.build 30 #[(1,.agg (vx v).toArray),(3,.slice a n cap)]).run Tryz.prog w=.ok (.agg (nc ⟨#[]⟩ v Md.zero (.slice a n cap))) w:=by
 refine run_build w 30 _ _ ?_
 have hz:∃ z:List Value,(Tryz.prog.info? 30).bind (·.zero)=some (.agg (List.toArray (.string ⟨#[]⟩::(z++(mx Md.zero++[.slice none 0 0])))))∧z.length=35:=⟨vx Vd.zero,by kernel_rfl,by kernel_rfl⟩
 obtain ⟨z,hz,hl⟩:=hz
 have hp:(Tryz.prog.fieldsOf 30).toList.mapM (fun f=>(Tryz.prog.info? f.type).map fun i=>(f.offset,i.size))=some [(0,1),(1,35),(36,4),(40,1)]:=by kernel_rfl
 have hu2:Tryz.prog.underlying 30=some (.struct (Tryz.prog.fieldsOf 30)):=by kernel_rfl
 unfold Program.built
 cases hi:Tryz.prog.info? 30 with
 | none=>rw [hi] at hz;cases hz
 | some it=>
  rw [hi] at hz
  simp only [Option.bind_some] at hz
  simp only [hu2,hz,hp]
  show Instr.fill _ (List.toArray _) _=_
  have hx:=je v
  have hm:=qh Md.zero
  rw [qy _ _ 1 1 35 _ (vx v) _ rfl rfl hx (by simp;omega),qy _ _ 3 40 1 _ [.slice a n cap] _ rfl rfl rfl (by simp [over,hx];omega),Instr.fill]
  simp only [over,nc,hx]
  refine congrArg some (congrArg List.toArray ?_)
  simp only [List.take_succ_cons,List.take_zero,List.cons_append,List.nil_append,List.drop_succ_cons,Nat.reduceAdd,lC,lN]
  have d1:(z++(mx Md.zero++[Value.slice none 0 0])).drop 35=mx Md.zero++[Value.slice none 0 0]:=by
   rw [List.drop_append,hl,List.drop_of_length_le (by omega)];rfl
  rw [d1]
  have t1:(vx v++(mx Md.zero++[Value.slice none 0 0])).take 39=vx v++mx Md.zero:=by
   rw [List.take_append,hx,List.take_of_length_le (by omega)];rfl
  have t2:(vx v++(mx Md.zero++[Value.slice none 0 0])).drop 40=[]:=by
   rw [List.drop_of_length_le (by simp [hx,hm])]
  rw [t1,t2]
  simp
theorem yr {o:Oper} {a:Act} (parts:Array (Nat × Operand)) (ho:o.op=.build 30 parts) (v:Vd) (X:Array Value) (hX:X=(vx v).toArray) (aa:Option Addr) (n cap:Nat)
  (hp:(parts.map fun (p:Nat × Operand)=>(p.1,a.eval p.2))=#[(1,.agg X),(3,.slice aa n cap)]) (w:World):(execOp a.eval o).run Tryz.prog w=.ok (.value (.agg (nc ⟨#[]⟩ v Md.zero (.slice aa n cap)))) w:=by
 subst hX
 unfold execOp
 simp only [ho]
 have:(parts.map fun (x:Nat × Operand)=>match x with | (i,x)=>(i,a.eval x))=#[(1,.agg (vx v).toArray),(3,.slice aa n cap)]:=hp
 rw [this]
 simp only [Sem.run_bind,build30k v aa n cap w,Result.andThen_ok,Sem.run_pure]
structure CL (w wr:World) (B lo n k:Nat) (X:Array Value) (ut:Value) (T:Nat→Prop) (fs:F) (L:List ByteArray):Prop where
 g:(w.grownBy wr ut.ownBlock)
 x:yZ wr B X
 z:Var wr (B+2) z30
 r:∃ xs,wr.ownsRow lo 30 41 ut n xs∧ja wr T (fs.nm L k) xs
theorem CL.step {w wr:World} {B lo n k:Nat} {X:Array Value} {g cap:Nat} {T:Nat→Prop} {fs:F} {L:List ByteArray} {x:ByteArray} (h:CL w wr B lo n k X (.slice (some ⟨g,0,none⟩) n cap) T fs L) (hB:w.heap.size=B) (hg:g<w.heap.size) (hT:∀ b,T b→b<w.heap.size∧b≠g) (hx:L[k]?=some x) (hk:k<fs.len):
  CL w (wr.setCell ⟨g,k*41,none⟩ (.string x)) B lo n (k+1) X (.slice (some ⟨g,0,none⟩) n cap) T fs L:=by
 obtain ⟨xs,h1,h2⟩:=h.r
 obtain ⟨r1,r2⟩:=h1.stored (k*41) (.string x)
 have hb:∀ b,b≠g→(wr.setCell ⟨g,k*41,none⟩ (.string x)).heap[b]?=wr.heap[b]?:=fun b hb=>Below.heap_setCell _ _ _ _ hb
 refine ⟨h.g.trans r2,(hb B (by omega)).trans h.x,(hb (B+2) (by omega)).trans h.z,xs.set (k*41) (.string x),r1,?_⟩
 exact ja.keep (fun b hT2=>⟨hb b (hT b hT2).2,hT2⟩) (h2.nm hx hk)
theorem sS (ver:Int) (q:ByteArray) (v:Vd) (m:Md) (un:Value) (a:Option Addr) (n cap:Nat) (L:List ByteArray) (fs:F) (xs:List Value) (T:Nat→Prop) (lo Bv:Nat) (w:World)
  (hver:w.cell? ⟨Bv,0,none⟩=some (.int .i64 ver)) (hL:L.length=n) (hf:fs.len=n) (hn:n≤100000) (hU:∀ W,w.grownBy W (Value.slice a n cap).ownBlock→HasT W un L)
  (hO:w.ownsRow lo 30 41 (.slice a n cap) n xs) (hR:ja w T fs xs) (hT:∀ b,T b→b<w.heap.size∧some b≠(Value.slice a n cap).ownBlock):
  Calls Tryz.prog 53 #[.string q,.agg (vx v).toArray,.agg (mx m).toArray,un,.slice a n cap,.pointer (some ⟨Bv,0,none⟩)] w fun e w'=>∃ xs',e=.returned (.agg (nc ⟨#[]⟩ (pv ver v) Md.zero (.slice a n cap)))∧w.grownBy w' (Value.slice a n cap).ownBlock∧w'.ownsRow lo 30 41 (.slice a n cap) n xs'∧ja w' T (fs.nm L n) xs':=by
 obtain ⟨ao,cu,rfl,_⟩:=(hU w ⟨rfl,rfl,rfl,Nat.le_refl _,fun _ _ _=>rfl⟩).form
 rw [hL] at hU ⊢
 obtain ⟨X,hX⟩:∃ X,(vx v).toArray=X:=⟨_,rfl⟩
 obtain ⟨M,hM⟩:∃ M,(mx m).toArray=M:=⟨_,rfl⟩
 rw [hX,hM]
 obtain ⟨B,hB⟩:∃ B,w.heap.size=B:=⟨_,rfl⟩
 have hG1:G w (((w.alloc (.cells X 24)).alloc (.cells M 27)).alloc (.cells z30 30)):=((G.alloc _ _).trans (G.alloc _ _)).trans (G.alloc _ _)
 have hVX:yZ (((w.alloc (.cells X 24)).alloc (.cells M 27)).alloc (.cells z30 30)) B X:=by
  have h:yZ (w.alloc (.cells X 24)) w.heap.size X:=World.alloc_heap_new w _
  rw [hB] at h
  exact (h.grow (G.alloc _ _)).grow (G.alloc _ _)
 have hVZ:Var (((w.alloc (.cells X 24)).alloc (.cells M 27)).alloc (.cells z30 30)) (B+2) z30:=by
  have h:=Var.new ((w.alloc (.cells X 24)).alloc (.cells M 27)) z30
  rw [World.size_alloc,World.size_alloc,hB] at h
  exact h
 have hcv:=hG1.cell hver
 have H1:=hid (⟨hG1,hVX,hVZ⟩:_∧_∧_)
 have hk0:=jB hVX.lies 0 (.int .i64 v.kind) (by rw [← hX];rfl)
 have hk1:=jB hVX.lies 1 (.int .i64 v.mode) (by rw [← hX];rfl)
 have hfz:(((w.alloc (.cells X 24)).alloc (.cells M 27)).alloc (.cells z30 30)).frozen? ⟨B,1,none⟩=false:=by
  have h':(((w.alloc (.cells X 24)).alloc (.cells M 27)).alloc (.cells z30 30)).heap[B]?=some (.cells X 24 (0,0)):=hVX
  simp [World.frozen?,h']
 obtain ⟨kd,hkd⟩:∃ kd,v.kind=kd:=⟨_,rfl⟩
 rw [hkd] at hk0
 have HK:=hid (⟨hkd,hX⟩:v.kind=kd∧(vx v).toArray=X)
 have HA:=hid (⟨hL,hf,hU,hO,hR,hT⟩:_∧_∧_∧_∧_∧_)
 have HB:=hid hB
 obtain ⟨X1,hX1⟩:∃ X1,(vx (pv ver v)).toArray=X1:=⟨_,rfl⟩
 have HX1:=hid hX1
 have hX1s:X1.size=35:=by rw [← hX1];exact ya _
 obtain ⟨CN,hCN⟩:∃ CN,nc ⟨#[]⟩ (pv ver v) Md.zero (.slice a n cap)=CN:=⟨_,rfl⟩
 have hco:CN.all (·.oneCell')=true:=by rw [← hCN];exact qz _ _ _ _ rfl
 have hcz:CN.size=41:=by rw [← hCN];exact jO ..
 rw [hCN]
 have HCN:=hid hCN
 clear hCN
 clear hver hG1 hVX hVZ hX hM hL hf hU hO hR hT hkd hX1
 go_enter Tryz.func53,Tryz.ntmps53
 go_upto_region 1 with (with_reducible refine jF (.pointer (some ⟨((w.alloc (.cells X 24)).alloc (.cells M 27)).heap.size,0,none⟩)) (((w.alloc (.cells X 24)).alloc (.cells M 27)).alloc (.cells z30 30)) ?_ ?_;exact zO rfl _)
 try simp only [Act.put,List.setIfInBounds_toArray,List.set_cons_zero,List.set_cons_succ,World.size_alloc]
 generalize ((w.alloc (.cells X 24)).alloc (.cells M 27)).alloc (.cells z30 30)=w1 at *
 try rw [hB]
 clear hB
 try rw [show B+1+1=B+2 from rfl]
 have key:(ver=1∧kd≠3)∨(ver=1∧kd=3)∨ver≠1:=by omega
 rcases key with ⟨h1,h3⟩ | ⟨h1,h3⟩ | h1
 ·have HH1:=hid h1
  have b1:(ver==1)=true:=by simp [h1]
  have b3:(kd !=3)=true:=by simp [h3]
  have HH3:=hid h3
  have HC:Hid (CL w (w1.setCell ⟨B,1,none⟩ (.int .i64 8)) B lo n 0 X1 (.slice a n cap) T fs L):=by
   have hOB:OB B w1 (w1.setCell ⟨B,1,none⟩ (.int .i64 8)):=OB.setCell w1 B 1 _
   have hg1:w.grownBy w1 (Value.slice a n cap).ownBlock:=⟨H1.o.1.os,H1.o.1.tape,H1.o.1.output,H1.o.1.size,fun k hk _=>H1.o.1.block k hk⟩
   have hBw:=HB.o
   have hgA:w.grownBy ((w1.setCell ⟨B,1,none⟩ (.int .i64 8))) (Value.slice a n cap).ownBlock:=⟨hOB.2.2.1.trans hg1.os,hOB.2.2.2.1.trans hg1.tape,hOB.2.2.2.2.trans hg1.output,by rw [hOB.1];exact hg1.size,fun k hk _=>(hOB.2.1 k (by omega)).trans (H1.o.1.block k hk)⟩
   have hg:G w ((w1.setCell ⟨B,1,none⟩ (.int .i64 8))):=⟨hgA.os,hgA.tape,hgA.output,hgA.size,fun b hb=>(hOB.2.1 b (by omega)).trans (H1.o.1.block b hb)⟩
   refine ⟨hgA,?_,(hOB.2.1 _ (by omega)).trans H1.o.2.2,xs,yC HA.o.2.2.2.1 hg,?_⟩
   ·have h:=H1.o.2.1.setCell 1 (.int .i64 8)
    rw [← HK.o.2,ux] at h
    rw [← HX1.o]
    unfold pv unkV
    rw [if_pos HH1.o,if_neg (by rw [HK.o.1];exact HH3.o)]
    exact h
   ·rw [F.nm_zero]
    exact ja.keep (fun b hb=>⟨Below.block hg b (HA.o.2.2.2.2.2 b hb).1,hb⟩) HA.o.2.2.2.2.1
  clear h1 h3
  go_upto_region 3 with fail
  generalize w1.setCell ⟨B,1,none⟩ (.int .i64 8)=wA at *
  clear hk0 hk1 hfz hcv H1
  go_wp2_with fail
  go_loopw [24] (fun i wr=>∃ k:Nat,i=.int .i64 k∧k≤n∧Hid (CL w wr B lo n k X1 (.slice a n cap) T fs L)) (fun i _=>n-iOf i)
  case atStart=>exact ⟨0,rfl,Nat.zero_le _,HC.o⟩
  case round=>
   clear HC
   obtain ⟨k,rfl,hk,HI⟩:=hrel
   by_cases hlt:k<n
   ·have hltI:(k:Int)<(n:Int):=by omega
    obtain ⟨x,hx⟩:∃ x,L[k]?=some x:=⟨_,gl (by rw [HA.o.1];exact hlt)⟩
    obtain ⟨ad,cap',hv,hc⟩:=(HA.o.2.2.1 wr HI.o.g).at hx
    obtain rfl:ao=some ad:=by injection hv
    obtain ⟨g,rfl⟩:∃ g,a=some ⟨g,0,none⟩:=by
     have ho:=HA.o.2.2.2.1
     rw [show n=(n-1)+1 by omega] at ho
     obtain ⟨g,cp,e⟩:=yz ho
     injection e with e1
     exact ⟨g,e1⟩
    have hst:=CL.step HI.o HB.o (World.ownsRow.lt HA.o.2.2.2.1 g rfl).2 (fun b hb=>⟨(HA.o.2.2.2.2.2 b hb).1,fun e=>(HA.o.2.2.2.2.2 b hb).2 (by rw [e];rfl)⟩) hx (by rw [HA.o.2.1];exact hlt)
    have HST:=hid hst
    obtain ⟨ys,hoy,hry⟩:=HI.o.r
    have hfr:wr.frozen? ⟨g,k*41,none⟩=false:=hoy.frozenAt _
    obtain ⟨u0,hu0⟩:∃ u0,wr.cell? ⟨g,k*41,none⟩=some u0:=by
     have hl:k*41<ys.length:=by
      have:=hry.len
      rw [F.nm_len,HA.o.2.1] at this
      omega
     have:=hoy.cells (g:=g) rfl (k*41) (ys[k*41]'hl) (by simp)
     rw [Addr.add_mid,Nat.zero_add] at this
     exact ⟨_,this⟩
    clear hv hst hoy hry HI
    go_wp2_with fail
    go_roundw
    case rel=>exact ⟨k+1,by go_num,by omega,HST.o⟩
    case measure=>simp;omega
   ·have hltI:¬ (k:Int)<(n:Int):=by omega
    obtain rfl:k=n:=by omega
    go_wp2_with (first
     | ((with_reducible refine jA (.agg X1) ?_ ?_);exact jJ _ rfl B 0 rfl X1 hX1s HI.o.x.lies)
     | ((with_reducible refine jA (.agg CN) ?_ ?_);(rw [← HCN.o];exact yr _ rfl (pv ver v) X1 HX1.o.symm a k cap (by go_simp) _))
     | ((with_reducible refine jC (wr.setRow (B+2) CN) ?_ ?_);exact jU _ _ rfl (B+2) _ z30 rfl rfl _ HI.o.z hcz jN hco))
    refine bodyPost_ret (results_cell_row (P:=Tryz.prog) (p:=11) (ty:=30) rfl _ _ (B+2) 30 CN (0,0) _ rfl HI.o.z.set qe rfl (by rw [kL,hcz])) rfl ?_
    obtain ⟨ys,hoy,hry⟩:=HI.o.r
    have hBw:=HB.o
    have hoth:∀ b,b≠B+2→(wr.setRow (B+2) CN).heap[b]?=wr.heap[b]?:=fun b hb=>setRow_other _ (B+2) b _ hb
    have hgz:=HI.o.g
    refine ⟨rfl,⟨hgz.os,hgz.tape,hgz.output,by simp;exact hgz.size,fun b hb hn=>(hoth b (by omega)).trans (hgz.block b hb hn)⟩,ys,?_,ja.keep (fun b hb=>⟨hoth b (by have:=(HA.o.2.2.2.2.2 b hb).1;omega),hb⟩) hry⟩
    obtain ⟨h0,h1⟩:=hoy
    refine ⟨h0,h1.imp id fun ⟨g,cp,cur,e1,e2,e3,e4⟩=>⟨g,cp,cur,e1,e2,(hoth g ?_).trans e3,e4⟩⟩
    have hlt2:=(World.ownsRow.lt HA.o.2.2.2.1 g (by rw [e1];rfl)).2
    omega
 ·have HH1:=hid h1
  have b1:(ver==1)=true:=by simp [h1]
  have b3:(kd !=3)=false:=by simp [h3]
  have HH3:=hid h3
  have HC:Hid (CL w w1 B lo n 0 X1 (.slice a n cap) T fs L):=by
   have hOB:OB B w1 w1:=⟨rfl,fun _ _=>rfl,rfl,rfl,rfl⟩
   have hg1:w.grownBy w1 (Value.slice a n cap).ownBlock:=⟨H1.o.1.os,H1.o.1.tape,H1.o.1.output,H1.o.1.size,fun k hk _=>H1.o.1.block k hk⟩
   have hBw:=HB.o
   have hgA:w.grownBy w1 (Value.slice a n cap).ownBlock:=⟨hOB.2.2.1.trans hg1.os,hOB.2.2.2.1.trans hg1.tape,hOB.2.2.2.2.trans hg1.output,by rw [hOB.1];exact hg1.size,fun k hk _=>(hOB.2.1 k (by omega)).trans (H1.o.1.block k hk)⟩
   have hg:G w w1:=⟨hgA.os,hgA.tape,hgA.output,hgA.size,fun b hb=>(hOB.2.1 b (by omega)).trans (H1.o.1.block b hb)⟩
   refine ⟨hgA,?_,(hOB.2.1 _ (by omega)).trans H1.o.2.2,xs,yC HA.o.2.2.2.1 hg,?_⟩
   ·have h:=H1.o.2.1
    rw [← HK.o.2] at h
    rw [← HX1.o]
    unfold pv
    unfold unkV
    rw [if_pos HH1.o,if_pos (by rw [HK.o.1];exact HH3.o)]
    exact h
   ·rw [F.nm_zero]
    exact ja.keep (fun b hb=>⟨Below.block hg b (HA.o.2.2.2.2.2 b hb).1,hb⟩) HA.o.2.2.2.2.1
  clear h1 h3
  go_upto_region 3 with fail
  skip
  clear hk0 hk1 hfz hcv H1
  go_wp2_with fail
  go_loopw [24] (fun i wr=>∃ k:Nat,i=.int .i64 k∧k≤n∧Hid (CL w wr B lo n k X1 (.slice a n cap) T fs L)) (fun i _=>n-iOf i)
  case atStart=>exact ⟨0,rfl,Nat.zero_le _,HC.o⟩
  case round=>
   clear HC
   obtain ⟨k,rfl,hk,HI⟩:=hrel
   by_cases hlt:k<n
   ·have hltI:(k:Int)<(n:Int):=by omega
    obtain ⟨x,hx⟩:∃ x,L[k]?=some x:=⟨_,gl (by rw [HA.o.1];exact hlt)⟩
    obtain ⟨ad,cap',hv,hc⟩:=(HA.o.2.2.1 wr HI.o.g).at hx
    obtain rfl:ao=some ad:=by injection hv
    obtain ⟨g,rfl⟩:∃ g,a=some ⟨g,0,none⟩:=by
     have ho:=HA.o.2.2.2.1
     rw [show n=(n-1)+1 by omega] at ho
     obtain ⟨g,cp,e⟩:=yz ho
     injection e with e1
     exact ⟨g,e1⟩
    have hst:=CL.step HI.o HB.o (World.ownsRow.lt HA.o.2.2.2.1 g rfl).2 (fun b hb=>⟨(HA.o.2.2.2.2.2 b hb).1,fun e=>(HA.o.2.2.2.2.2 b hb).2 (by rw [e];rfl)⟩) hx (by rw [HA.o.2.1];exact hlt)
    have HST:=hid hst
    obtain ⟨ys,hoy,hry⟩:=HI.o.r
    have hfr:wr.frozen? ⟨g,k*41,none⟩=false:=hoy.frozenAt _
    obtain ⟨u0,hu0⟩:∃ u0,wr.cell? ⟨g,k*41,none⟩=some u0:=by
     have hl:k*41<ys.length:=by
      have:=hry.len
      rw [F.nm_len,HA.o.2.1] at this
      omega
     have:=hoy.cells (g:=g) rfl (k*41) (ys[k*41]'hl) (by simp)
     rw [Addr.add_mid,Nat.zero_add] at this
     exact ⟨_,this⟩
    clear hv hst hoy hry HI
    go_wp2_with fail
    go_roundw
    case rel=>exact ⟨k+1,by go_num,by omega,HST.o⟩
    case measure=>simp;omega
   ·have hltI:¬ (k:Int)<(n:Int):=by omega
    obtain rfl:k=n:=by omega
    go_wp2_with (first
     | ((with_reducible refine jA (.agg X1) ?_ ?_);exact jJ _ rfl B 0 rfl X1 hX1s HI.o.x.lies)
     | ((with_reducible refine jA (.agg CN) ?_ ?_);(rw [← HCN.o];exact yr _ rfl (pv ver v) X1 HX1.o.symm a k cap (by go_simp) _))
     | ((with_reducible refine jC (wr.setRow (B+2) CN) ?_ ?_);exact jU _ _ rfl (B+2) _ z30 rfl rfl _ HI.o.z hcz jN hco))
    refine bodyPost_ret (results_cell_row (P:=Tryz.prog) (p:=11) (ty:=30) rfl _ _ (B+2) 30 CN (0,0) _ rfl HI.o.z.set qe rfl (by rw [kL,hcz])) rfl ?_
    obtain ⟨ys,hoy,hry⟩:=HI.o.r
    have hBw:=HB.o
    have hoth:∀ b,b≠B+2→(wr.setRow (B+2) CN).heap[b]?=wr.heap[b]?:=fun b hb=>setRow_other _ (B+2) b _ hb
    have hgz:=HI.o.g
    refine ⟨rfl,⟨hgz.os,hgz.tape,hgz.output,by simp;exact hgz.size,fun b hb hn=>(hoth b (by omega)).trans (hgz.block b hb hn)⟩,ys,?_,ja.keep (fun b hb=>⟨hoth b (by have:=(HA.o.2.2.2.2.2 b hb).1;omega),hb⟩) hry⟩
    obtain ⟨h0,h1⟩:=hoy
    refine ⟨h0,h1.imp id fun ⟨g,cp,cur,e1,e2,e3,e4⟩=>⟨g,cp,cur,e1,e2,(hoth g ?_).trans e3,e4⟩⟩
    have hlt2:=(World.ownsRow.lt HA.o.2.2.2.1 g (by rw [e1];rfl)).2
    omega
 ·have HH1:=hid h1
  have b1:(ver==1)=false:=by simp [h1]
  have HC:Hid (CL w w1 B lo n 0 X1 (.slice a n cap) T fs L):=by
   have hOB:OB B w1 w1:=⟨rfl,fun _ _=>rfl,rfl,rfl,rfl⟩
   have hg1:w.grownBy w1 (Value.slice a n cap).ownBlock:=⟨H1.o.1.os,H1.o.1.tape,H1.o.1.output,H1.o.1.size,fun k hk _=>H1.o.1.block k hk⟩
   have hBw:=HB.o
   have hgA:w.grownBy w1 (Value.slice a n cap).ownBlock:=⟨hOB.2.2.1.trans hg1.os,hOB.2.2.2.1.trans hg1.tape,hOB.2.2.2.2.trans hg1.output,by rw [hOB.1];exact hg1.size,fun k hk _=>(hOB.2.1 k (by omega)).trans (H1.o.1.block k hk)⟩
   have hg:G w w1:=⟨hgA.os,hgA.tape,hgA.output,hgA.size,fun b hb=>(hOB.2.1 b (by omega)).trans (H1.o.1.block b hb)⟩
   refine ⟨hgA,?_,(hOB.2.1 _ (by omega)).trans H1.o.2.2,xs,yC HA.o.2.2.2.1 hg,?_⟩
   ·have h:=H1.o.2.1
    rw [← HK.o.2] at h
    rw [← HX1.o]
    unfold pv
    rw [if_neg HH1.o]
    exact h
   ·rw [F.nm_zero]
    exact ja.keep (fun b hb=>⟨Below.block hg b (HA.o.2.2.2.2.2 b hb).1,hb⟩) HA.o.2.2.2.2.1
  clear h1
  go_upto_region 3 with fail
  skip
  clear hk0 hk1 hfz hcv H1
  go_wp2_with fail
  go_loopw [24] (fun i wr=>∃ k:Nat,i=.int .i64 k∧k≤n∧Hid (CL w wr B lo n k X1 (.slice a n cap) T fs L)) (fun i _=>n-iOf i)
  case atStart=>exact ⟨0,rfl,Nat.zero_le _,HC.o⟩
  case round=>
   clear HC
   obtain ⟨k,rfl,hk,HI⟩:=hrel
   by_cases hlt:k<n
   ·have hltI:(k:Int)<(n:Int):=by omega
    obtain ⟨x,hx⟩:∃ x,L[k]?=some x:=⟨_,gl (by rw [HA.o.1];exact hlt)⟩
    obtain ⟨ad,cap',hv,hc⟩:=(HA.o.2.2.1 wr HI.o.g).at hx
    obtain rfl:ao=some ad:=by injection hv
    obtain ⟨g,rfl⟩:∃ g,a=some ⟨g,0,none⟩:=by
     have ho:=HA.o.2.2.2.1
     rw [show n=(n-1)+1 by omega] at ho
     obtain ⟨g,cp,e⟩:=yz ho
     injection e with e1
     exact ⟨g,e1⟩
    have hst:=CL.step HI.o HB.o (World.ownsRow.lt HA.o.2.2.2.1 g rfl).2 (fun b hb=>⟨(HA.o.2.2.2.2.2 b hb).1,fun e=>(HA.o.2.2.2.2.2 b hb).2 (by rw [e];rfl)⟩) hx (by rw [HA.o.2.1];exact hlt)
    have HST:=hid hst
    obtain ⟨ys,hoy,hry⟩:=HI.o.r
    have hfr:wr.frozen? ⟨g,k*41,none⟩=false:=hoy.frozenAt _
    obtain ⟨u0,hu0⟩:∃ u0,wr.cell? ⟨g,k*41,none⟩=some u0:=by
     have hl:k*41<ys.length:=by
      have:=hry.len
      rw [F.nm_len,HA.o.2.1] at this
      omega
     have:=hoy.cells (g:=g) rfl (k*41) (ys[k*41]'hl) (by simp)
     rw [Addr.add_mid,Nat.zero_add] at this
     exact ⟨_,this⟩
    clear hv hst hoy hry HI
    go_wp2_with fail
    go_roundw
    case rel=>exact ⟨k+1,by go_num,by omega,HST.o⟩
    case measure=>simp;omega
   ·have hltI:¬ (k:Int)<(n:Int):=by omega
    obtain rfl:k=n:=by omega
    go_wp2_with (first
     | ((with_reducible refine jA (.agg X1) ?_ ?_);exact jJ _ rfl B 0 rfl X1 hX1s HI.o.x.lies)
     | ((with_reducible refine jA (.agg CN) ?_ ?_);(rw [← HCN.o];exact yr _ rfl (pv ver v) X1 HX1.o.symm a k cap (by go_simp) _))
     | ((with_reducible refine jC (wr.setRow (B+2) CN) ?_ ?_);exact jU _ _ rfl (B+2) _ z30 rfl rfl _ HI.o.z hcz jN hco))
    refine bodyPost_ret (results_cell_row (P:=Tryz.prog) (p:=11) (ty:=30) rfl _ _ (B+2) 30 CN (0,0) _ rfl HI.o.z.set qe rfl (by rw [kL,hcz])) rfl ?_
    obtain ⟨ys,hoy,hry⟩:=HI.o.r
    have hBw:=HB.o
    have hoth:∀ b,b≠B+2→(wr.setRow (B+2) CN).heap[b]?=wr.heap[b]?:=fun b hb=>setRow_other _ (B+2) b _ hb
    have hgz:=HI.o.g
    refine ⟨rfl,⟨hgz.os,hgz.tape,hgz.output,by simp;exact hgz.size,fun b hb hn=>(hoth b (by omega)).trans (hgz.block b hb hn)⟩,ys,?_,ja.keep (fun b hb=>⟨hoth b (by have:=(HA.o.2.2.2.2.2 b hb).1;omega),hb⟩) hry⟩
    obtain ⟨h0,h1⟩:=hoy
    refine ⟨h0,h1.imp id fun ⟨g,cp,cur,e1,e2,e3,e4⟩=>⟨g,cp,cur,e1,e2,(hoth g ?_).trans e3,e4⟩⟩
    have hlt2:=(World.ownsRow.lt HA.o.2.2.2.1 g (by rw [e1];rfl)).2
    omega
theorem mw (w:World):(zeroValue 24).run Tryz.prog w=.ok (.agg (vx Vd.zero).toArray) w:=by
 have h:(Tryz.prog.info? 24).bind (·.zero)=some (.agg (vx Vd.zero).toArray):=by kernel_rfl
 cases hq:Tryz.prog.info? 24 with
 | none=>rw [hq] at h;cases h
 | some i=>
  rw [hq] at h
  simp only [Option.bind_some] at h
  simp [zeroValue,typeInfo,hq,h]
theorem zM {o:Oper} {a:Act} (ho:o.op=.alloc 24) (w:World):(execOp a.eval o).run Tryz.prog w=.ok (.value (.pointer (some ⟨w.heap.size,0,none⟩))) (w.alloc (.cells (vx Vd.zero).toArray 24)):=by
 unfold execOp
 simp only [ho,Instr.alloc,Sem.run_bind,mw,Result.andThen_ok]
 simp [newVar,newRow,newObj,Value.cells]
 rfl
theorem zN {o:Oper} {a:Act} (x y:Operand) (ho:o.op=.store 24 x y) (g:Nat) (c old:Array Value) (hx:a.eval x=.pointer (some ⟨g,0,none⟩)) (hy:a.eval y=.agg c) (w:World) (hg:yZ w g old)
  (hs:c.size=35) (hs':old.size=35) (h1:c.all (·.oneCell')=true):(execOp a.eval o).run Tryz.prog w=.ok .skip (w.setRow g c):=by
 unfold execOp
 simp only [ho,hx,hy,Instr.storeAt,Instr.sureAddr,Sem.run_bind,Sem.run_pure,Result.andThen_ok,run_storeVar_row (P:=Tryz.prog) w g 24 24 old c hg (by rw [pc,hs]) (by rw [hs,hs']) h1]
theorem xY {fn:Func} {p u:Tmp} (h:fn.results=#[.cell p 24,.tmp u]) (tmps:Array Value) (w:World) (g:Nat) (cs:Array Value) (hp:tmps.getD p undef=.pointer (some ⟨g,0,none⟩)) (hg:yZ w g cs) (hs:cs.size=35):
  (results fn tmps).run Tryz.prog w=.ok (.tuple #[.agg cs,tmps.getD u undef]) w:=by
 have hu:Tryz.prog.underlying 24=some (.struct (Tryz.prog.fieldsOf 24)):=by kernel_rfl
 rw [results_cell_tmp h,hp]
 simp only [asAddr,Sem.run_pure,Result.andThen_ok,run_loadVar_row (P:=Tryz.prog) w g 24 24 cs (0,0) _ hg hu rfl (by rw [pc,hs])]
def atV (t:T3) (s:ByteArray):Vd:=match subS t s with | none=>Vd.zero | some x=>x.1
theorem fT (p:Nat) (t:T3) (s:ByteArray) (w:World) (ht:AtTF w p t.1 t.2.1 t.2.2) (hr:t.2.2.rises) (hs:s.size≤1048576):
  Calls Tryz.prog 46 #[.pointer (some ⟨p,0,none⟩),.string s] w fun e w'=>e=.returned (.tuple #[.agg (vx (atV t s)).toArray,.bool (subS t s).isSome])∧G w w':=by
 have hG:G w (w.alloc (.cells (vx Vd.zero).toArray 24)):=G.alloc _ _
 have C1:=wQ p t s _ (ht.grow hG) hr hs
 have hV:yZ (w.alloc (.cells (vx Vd.zero).toArray 24)) w.heap.size (vx Vd.zero).toArray:=World.alloc_heap_new w _
 have HV:=hid (⟨hV,hG⟩:_∧_)
 have hat:atV t s=(match subS t s with | none=>Vd.zero | some x=>x.1):=rfl
 cases hS:subS t s with
 | none=>
  rw [hS] at C1 hat
  rw [hat]
  clear hat hS ht hr hV hG
  go_enter Tryz.func46,Tryz.ntmps46
  go_upto_region 1 with ((with_reducible refine jF (.pointer (some ⟨w.heap.size,0,none⟩)) (w.alloc (.cells (vx Vd.zero).toArray 24)) ?_ ?_);exact zM rfl _)
  generalize w.alloc (.cells (vx Vd.zero).toArray 24)=w1 at *
  generalize hB:w.heap.size=B at *
  have HB:=hid hB
  clear hB
  go_wp2_with (first
   | (go_at_call 74;refine C1.mono ?_;rintro e w2 ⟨u,rfl,hu,hg2⟩;have hu2:u=.pointer none:=hu;subst hu2;have HV2:=hid (⟨HV.o.1.grow hg2,HV.o.2.trans hg2⟩:yZ w2 B (vx Vd.zero).toArray∧G w w2);clear hu hg2)
   | ((with_reducible refine jA (.agg (vx Vd.zero).toArray) ?_ ?_);exact exec_build 24 _ rfl _ _ _ rfl (run_build _ 24 _ _ (by kernel_rfl)))
   | ((with_reducible refine jC (w2.setRow B (vx Vd.zero).toArray) ?_ ?_);exact zN _ _ rfl B _ (vx Vd.zero).toArray rfl rfl _ HV2.o.1 (ya _) (ya _) (xC _)))
  refine bodyPost_ret (xY (p:=4) (u:=5) rfl _ _ B (vx Vd.zero).toArray rfl (setRow_heap _ _ _ _ 24 _ HV2.o.1) (ya _)) rfl ⟨rfl,?_⟩
  have hBw:=HB.o
  exact Below.trans (B:=w.heap.size) HV2.o.2 ⟨rfl,rfl,rfl,by simp,fun b hb=>setRow_other _ B b _ (by omega)⟩
 | some x=>
  rw [hS] at C1 hat
  rw [hat]
  clear hat hS ht hr hV hG
  go_enter Tryz.func46,Tryz.ntmps46
  go_upto_region 1 with ((with_reducible refine jF (.pointer (some ⟨w.heap.size,0,none⟩)) (w.alloc (.cells (vx Vd.zero).toArray 24)) ?_ ?_);exact zM rfl _)
  generalize w.alloc (.cells (vx Vd.zero).toArray 24)=w1 at *
  generalize hB:w.heap.size=B at *
  have HB:=hid hB
  clear hB
  go_wp2_with (first
   | (go_at_call 74;refine C1.mono ?_;rintro e w2 ⟨u,rfl,⟨p2,hu,h2⟩,hg2⟩;subst hu;have HV2:=hid (⟨HV.o.1.grow hg2,HV.o.2.trans hg2⟩:yZ w2 B (vx Vd.zero).toArray∧G w w2);obtain ⟨ak,hli,_⟩:=h2.kids;have HL:Hid (Lies w2 p2 0 (vx x.1).toArray):=fun j u hj=>hli j u (by rw [tc,List.getElem?_toArray,List.getElem?_append_left (by have:=(gS hj);simpa using this)];simpa using hj);clear h2 hg2 hli)
   | ((with_reducible refine jA (.agg (vx x.1).toArray) ?_ ?_);exact jJ _ rfl p2 0 rfl _ (ya _) HL.o)
   | ((with_reducible refine jC (w2.setRow B (vx x.1).toArray) ?_ ?_);exact zN _ _ rfl B _ (vx Vd.zero).toArray rfl rfl _ HV2.o.1 (ya _) (ya _) (xC _)))
  refine bodyPost_ret (xY (p:=4) (u:=5) rfl _ _ B (vx x.1).toArray rfl (setRow_heap _ _ _ _ 24 _ HV2.o.1) (ya _)) rfl ⟨rfl,?_⟩
  have hBw:=HB.o
  exact Below.trans (B:=w.heap.size) HV2.o.2 ⟨rfl,rfl,rfl,by simp,fun b hb=>setRow_other _ B b _ (by omega)⟩
open Go.Shelf
attribute [local go_sem] Oper.semAt_some
def fv7:Vd:=⟨2,6,3,jw,by simp [jw]⟩
def fm7:Md:=⟨4,5,0,0⟩
def fN:ByteArray:=⟨#[102]⟩
def KF:F:=.cons fN fv7 fm7 .nil .nil
def knF:Array Value:=nc fN fv7 fm7 (.slice none 0 0)
def knT (g:Nat):Array Value:=nc ⟨#[]⟩ kv7 Md.zero (.slice (some ⟨g,0,none⟩) 1 1)
theorem uJ {o:Oper} {a:Act} (ho:o.op=.build 24 #[(0,.const (.int .i64 2)),(1,.const (.int .i64 6)),(2,.const (.int .i64 3))]) (w:World):(execOp a.eval o).run Tryz.prog w=.ok (.value (.agg (vx fv7).toArray)) w:=by
 unfold execOp
 simp only [ho]
 kernel_rfl
theorem uK {o:Oper} {a:Act} (ho:o.op=.build 26 #[(0,.const (.int .i64 4)),(1,.const (.int .i64 5))]) (w:World):(execOp a.eval o).run Tryz.prog w=.ok (.value (.agg #[.int .i64 4,.int .i64 5])) w:=by
 unfold execOp
 simp only [ho]
 kernel_rfl
theorem uL {o:Oper} {a:Act} (ho:o.op=.build 26 #[]) (w:World):(execOp a.eval o).run Tryz.prog w=.ok (.value (.agg #[.int .i64 0,.int .i64 0])) w:=by
 unfold execOp
 simp only [ho]
 kernel_rfl
theorem uM {o:Oper} {a:Act} (x y:Operand) (ho:o.op=.build 27 #[(0,x),(1,y)]) (hx:a.eval x=.agg #[.int .i64 4,.int .i64 5]) (hy:a.eval y=.agg #[.int .i64 0,.int .i64 0]) (w:World):(execOp a.eval o).run Tryz.prog w=.ok (.value (.agg (mx fm7).toArray)) w:=by
 unfold execOp
 simp only [ho,List.map_toArray,List.map_cons,List.map_nil,hx,hy]
 kernel_rfl
theorem uN {o:Oper} {a:Act} (x y:Operand) (ho:o.op=.build 30 #[(0,.const (.string fN)),(1,x),(2,y)]) (hx:a.eval x=.agg (vx fv7).toArray) (hy:a.eval y=.agg (mx fm7).toArray) (w:World):(execOp a.eval o).run Tryz.prog w=.ok (.value (.agg knF)) w:=by
 unfold execOp
 simp only [ho,List.map_toArray,List.map_cons,List.map_nil,hx,hy]
 kernel_rfl
theorem uO {o:Oper} {a:Act} (x y:Operand) (g:Nat) (ho:o.op=.build 30 #[(1,x),(3,y)]) (hx:a.eval x=.agg knX) (hy:a.eval y=.slice (some ⟨g,0,none⟩) 1 1) (w:World):(execOp a.eval o).run Tryz.prog w=.ok (.value (.agg (knT g))) w:=by
 unfold execOp
 simp only [ho,List.map_toArray,List.map_cons,List.map_nil,hx,hy]
 kernel_rfl
theorem wR:tl fN=[102]:=by simp [tl,fN]
theorem bX:qL kv7 Md.zero KF=0:=by
 have h1:qo none fN 1=0:=by
  unfold qo
  rw [wR]
  rfl
 refine xd (by decide) ?_
 unfold KF
 rw [jc,show ([]:List ByteArray).length+1=1 from rfl,h1]
 rfl
theorem wS (W:World):HasN (W.alloc (.cells knF 30)) (knT W.heap.size) ⟨#[]⟩ kv7 Md.zero KF:=by
 refine ⟨_,rfl,some ⟨W.heap.size,0,none⟩,1,rfl,Nat.le_refl _,.inr ⟨W.heap.size,0,rfl,⟨none,0,fun j u hj=>?_,Nat.le_refl _,.inl rfl⟩,trivial⟩⟩
 rw [Nat.zero_add]
 have:=World.cell?_alloc_new W knF 30 j
 rw [this]
 exact hj
theorem lU:Ar 2 kv7 Md.zero KF:=⟨by decide,by decide,rfl,bX,⟨fun q=>absurd q (by decide),⟨fun q=>absurd q (by decide),trivial,trivial⟩⟩,xK,⟨xK,trivial,trivial⟩,by decide⟩
def fm':Md:=mz 2 fm7
def KG:F:=KF.mp id (mz 2)
theorem uP:KG.rises:=⟨trivial,trivial,trivial⟩
theorem a0d:subS (kv7,mz 2 Md.zero,KG) fN=some (fv7,mz 2 fm7,.nil):=by
 have h1:yo (tl fN) 64=0:=by rw [wR];decide
 have h2:cutN fN=[fN]:=by
  unfold cutN
  have e:jo (tl fN)=[tl fN]:=by rw [wR];decide
  rw [e,List.map_cons,uu]
  rfl
 unfold subS
 rw [if_pos h1,h2]
 show (F.get KG fN).bind _=_
 unfold KG KF F.mp F.get
 rw [if_pos rfl]
 rfl
theorem a0T (p:Nat) (k:K) (W:World) (hT:AtT W p kv7 Md.zero k) (hk:k.flat=KF) (hTb:Su.Tabs W) (hTh:Su.Half W):
  Calls Tryz.prog 11 #[.pointer (some ⟨p,0,none⟩),.int .i64 2,.int .i64 9] W fun e w'=>∃ x,e=.returned (.tuple #[x,.int .i64 0])∧G W w'∧Su.Has w' x (arcW 2 kv7 Md.zero KF):=by
 refine (zW p kv7 Md.zero k W 2 9 hT (bi (jn bX).1 xK) (by rw [hk];exact lU.g.1) (by rw [hk];exact lU.g.2) (by rw [hk];decide) (by rw [hk];exact Nat.le_trans lU.hw (by decide)) (by rw [hk];exact xe bX) hTb hTh).mono ?_
 rintro e w' h
 have h0:encE 2 kv7.kind (1+k.flat.size:Nat) 9=0:=by rw [hk];decide
 rcases h with ⟨q,_⟩ | ⟨_,x,q1,q2,q3⟩
 ·exact absurd h0 q
 ·have e1:wrF 2 k.flat=KF:=by rw [hk];unfold wrF;rw [if_neg (by decide)]
  have e2:wrV 2 kv7=kv7:=by unfold wrV;rw [if_neg (by decide)]
  rw [e1,e2] at q2
  exact ⟨x,q1,q3,q2.has⟩
theorem wT (tv:Nat) (h2:2≤tv) (h3:tv≤3):Ar tv kv7 (mz 2 Md.zero) KG:=lU.later h2 h3
def kA3:List Nat:=arcW 3 kv7 (mz 2 Md.zero) KG
theorem bY:kA3.take 4=twn∧kA3.getD 4 0=3∧4<kA3.length:=by
 have hA:kA3=[116,119,110,101,3]++((encN (1+KG.size)++encT 3 [] kv7 (mz 2 Md.zero) KG)++le4 (Su.Crc.crc (arcB 3 kv7 (mz 2 Md.zero) KG))):=by
  unfold kA3 arcW
  rw [← List.append_assoc,bn 3 (by decide)];rfl
 rw [hA]
 refine ⟨rfl,rfl,?_⟩
 rw [lA]
 simp only [lC,lN]
 omega
theorem oI (w:World) (hTb:Su.Tabs w) (hTh:Su.Half w) (hE:ErrT w) (h1:1<w.heap.size):Calls Tryz.prog 22 #[] w fun e w'=>e=.returned (.bool true)∧G w w':=by
 have HG0:Hid (G w (w.alloc (.cells knF 30))):=G.alloc _ _
 have C1:Hid (Calls Tryz.prog 29 #[.agg (knT w.heap.size)] (w.alloc (.cells knF 30)) fun e w'=>∃ p k,e=.returned (.tuple #[.pointer (some ⟨p,0,none⟩),.int .i64 0])∧G (w.alloc (.cells knF 30)) w'∧AtT w' p kv7 Md.zero k∧k.flat=KF):=
  (cY (knT w.heap.size) ⟨#[]⟩ kv7 Md.zero KF _ (wS w) (Nat.le_trans lU.hw (by decide))).mono fun e w' ⟨u,q1,q2,q3⟩=>by
   rw [bX] at q1 q3
   rcases q3 with ⟨q,_⟩ | ⟨_,p,k,rfl,h3,h4,_⟩
   ·exact absurd rfl q
   ·exact ⟨p,k,q1,q2,h3,h4⟩
 have HC2:Hid (∀ (p:Nat) (k:K) (W:World),G w W→AtT W p kv7 Md.zero k→k.flat=KF→Calls Tryz.prog 11 #[.pointer (some ⟨p,0,none⟩),.int .i64 2,.int .i64 9] W fun e w'=>∃ x,e=.returned (.tuple #[x,.int .i64 0])∧G W w'∧Su.Has w' x (arcW 2 kv7 Md.zero KF)):=
  fun p k W hg h2 h3=>a0T p k W h2 h3 (hTb.up hg) (hTh.below hg (by omega))
 have HC3:Hid (∀ (x:Value) (W:World),G w W→Su.Has W x (arcW 2 kv7 Md.zero KF)→Calls Tryz.prog 24 #[x,.int .i64 3,.int .i64 9] W fun e w'=>∃ a cap,e=.returned (.tuple #[.slice (some a) kA3.length cap,.nilIface])∧G W w'∧Su.Has w' (.slice (some a) kA3.length cap) kA3∧kA3.length≤cap):=
  fun x W hg h2=>(dG x 3 9 W lU (by decide) h2 (hTb.up hg) (hTh.below hg (by omega)) (hE.up hg) (by have:=hg.size;omega)).mono fun e w' ⟨q0,q⟩=>by
   rcases q with ⟨q,_⟩ | ⟨_,x,q1,q2⟩
   ·omega
   ·have q2:Su.Has w' x kA3:=q2
    have h5:=bY.2.2
    rcases q2 with ⟨_,e2⟩ | ⟨a,cap,e1,e2,e3⟩
    ·rw [e2] at h5;exact absurd h5 (by decide)
    ·subst e1;exact ⟨a,cap,q1,q0,.inr ⟨a,cap,rfl,e2,e3⟩,e2⟩
 have HC4:Hid (∀ (a:Addr) (cap:Nat) (W:World),Su.Has W (.slice (some a) kA3.length cap) kA3→kA3.length≤cap→Calls Tryz.prog 45 #[.slice (some a) kA3.length cap] W fun e w'=>e=.returned (.tuple #[.int .i64 3,.bool true])∧G W w'):=
  fun a cap W h2 h3=>lV a cap 3 kA3 W h2 h3 bY.2.2 (wT 3 (by decide) (by decide)).bytes bY.1 bY.2.1 (by decide) (by decide)
 have HC5:Hid (∀ (v:Value) (W:World),G w W→Su.Has W v kA3→Calls Tryz.prog 13 #[v,.int .i64 9] W fun e w'=>∃ p,e=.returned (.tuple #[.pointer (some ⟨p,0,none⟩),.int .i64 3,.nilIface])∧G W w'∧AtTF w' p kv7 (mz 2 Md.zero) KG):=
  fun v W hg h2=>(eT v W (wT 3 (by decide) (by decide)) (by decide) h2 (hTb.up hg) (hTh.below hg (by omega)) (hE.up hg) (by have:=hg.size;omega)).mono fun _ _ ⟨p,k,q1,q2,q3,q4⟩=>by
   have hb:=lU.back (tv:=3) (by decide)
   have hb1:mz (3:Nat) (mz 2 Md.zero)=mz 2 Md.zero:=hb.1
   have hb2:KG.mp id (mz (3:Nat))=KG:=hb.2
   rw [hb1] at q3
   rw [hb2] at q4
   exact ⟨p,q1,q2,k,q3,q4⟩
 have HC6:Hid (∀ (p:Nat) (W:World),AtTF W p kv7 (mz 2 Md.zero) KG→Calls Tryz.prog 46 #[.pointer (some ⟨p,0,none⟩),.string { data:=#[102] }] W fun e w'=>e=.returned (.tuple #[.agg (vx fv7).toArray,.bool true])∧G W w'):=
  fun p W h2=>(fT p (kv7,mz 2 Md.zero,KG) fN W h2 uP (by decide)).mono fun _ _ ⟨q1,q2⟩=>by
   unfold atV at q1
   rw [a0d] at q1
   exact ⟨q1,q2⟩
 have HC7:Hid (∀ (x:Value) (W:World),G w W→Su.Has W x kA3→Calls Tryz.prog 24 #[x,.int .i64 2,.int .i64 9] W fun e w'=>∃ fb,e=.returned (.tuple #[.slice none 0 0,.iface 72 (.pointer (some ⟨fb,0,none⟩))])∧G W w'∧w'.heap[fb]?=some (.cells (fc 4 ⟨#[]⟩ 70) 93 (0,0))):=
  fun x W hg h2=>(dG x 2 9 W (wT 3 (by decide) (by decide)) (by decide) h2 (hTb.up hg) (hTh.below hg (by omega)) (hE.up hg) (by have:=hg.size;omega)).mono fun e w' ⟨q0,q⟩=>by
   rcases q with ⟨_,fb,q1,q2⟩ | ⟨q,_⟩
   ·exact ⟨fb,q1,q0,q2⟩
   ·omega
 have HTo:Hid (∀ (fb:Nat) (W:World),W.heap[fb]?=some (.cells (fc 4 ⟨#[]⟩ 70) 93 (0,0))→Calls Tryz.prog 25 #[.iface 72 (.pointer (some ⟨fb,0,none⟩))] W fun x w'=>x=.returned (.tuple #[.agg #[.int .i64 4,.string ⟨#[]⟩,.int .i64 70],.bool true])∧G W w'):=
  fun fb W h=>oH fb 4 70 ⟨#[]⟩ W h (by decide)
 clear hTb hTh hE h1
 generalize hN:kA3.length=N at *
 have hNN:Hid (kA3.length=N):=hN
 clear hN
 go_enter Tryz.func22,Tryz.ntmps22
 go_upto_region 8 with (first
  | ((with_reducible refine jA (.agg knX) ?_ ?_);exact tH rfl _)
  | ((with_reducible refine jA (.agg (vx fv7).toArray) ?_ ?_);exact uJ rfl _)
  | ((with_reducible refine jA (.agg #[.int .i64 4,.int .i64 5]) ?_ ?_);exact uK rfl _)
  | ((with_reducible refine jA (.agg #[.int .i64 0,.int .i64 0]) ?_ ?_);exact uL rfl _)
  | ((with_reducible refine jA (.agg (mx fm7).toArray) ?_ ?_);exact uM _ _ rfl rfl rfl _)
  | ((with_reducible refine jA (.agg knF) ?_ ?_);exact uN _ _ rfl rfl rfl _)
  | ((with_reducible refine jA (.agg (knT w.heap.size)) ?_ ?_);exact uO _ _ _ rfl rfl rfl _)
  | (go_at_call 29;refine C1.o.mono ?_;rintro e w1 ⟨p,k,rfl,hg1,hT1,hk1⟩;have HT1:=hid (⟨G.trans HG0.o hg1,hT1,hk1⟩:_∧_∧_);clear hg1 hT1 hk1)
  | (go_at_call 11;refine (HC2.o p k _ HT1.o.1 HT1.o.2.1 HT1.o.2.2).mono ?_;rintro e w2 ⟨x2,rfl,hg2,hh2⟩;have HT2:=hid (⟨G.trans HT1.o.1 hg2,hh2⟩:_∧_);clear hg2 hh2)
  | (go_at_call 24;refine (HC3.o _ _ HT2.o.1 HT2.o.2).mono ?_;rintro e w3 ⟨a,cap,rfl,hg3,hh3,hc3⟩;have HT3:=hid (⟨G.trans HT2.o.1 hg3,hh3,hc3⟩:_∧_∧_);clear hg3 hh3 hc3)
  | (go_at_call 45;refine (HC4.o a cap w3 HT3.o.2.1 HT3.o.2.2).mono ?_;rintro e w4 ⟨rfl,hg4⟩;have HT4:=hid (⟨G.trans HT3.o.1 hg4,HT3.o.2.1.below hg4⟩:_∧_);clear hg4)
  | (go_at_call 13;refine (HC5.o _ w4 HT4.o.1 HT4.o.2).mono ?_;rintro e w5 ⟨p5,rfl,hg5,hT5⟩;have HT5:=hid (⟨G.trans HT4.o.1 hg5,HT4.o.2.below hg5,hT5⟩:_∧_∧_);clear hg5 hT5))
 go_upto_region 11 with (first
  | (go_at_call 46;refine (HC6.o p5 w5 HT5.o.2.2).mono ?_;rintro e w6 ⟨rfl,hg6⟩;have HT6:=hid (⟨G.trans HT5.o.1 hg6,HT5.o.2.1.below hg6⟩:_∧_);clear hg6)
  | ((with_reducible refine jF (.pointer (some ⟨w6.heap.size,0,none⟩)) (w6.alloc (.cells (vx Vd.zero).toArray 24)) ?_ ?_);exact zM rfl _)
  | ((with_reducible refine jC ((w6.alloc (.cells (vx Vd.zero).toArray 24)).setRow w6.heap.size (vx fv7).toArray) ?_ ?_);exact zN _ _ rfl w6.heap.size _ (vx Vd.zero).toArray rfl rfl _ (World.alloc_heap_new w6 _) (ya _) (ya _) (xC _)))
 have HV:Hid (yZ ((w6.alloc (.cells (vx Vd.zero).toArray 24)).setRow w6.heap.size (vx fv7).toArray) w6.heap.size (vx fv7).toArray):=setRow_heap _ _ _ _ 24 _ (World.alloc_heap_new w6 _)
 have HT7:Hid (G w6 ((w6.alloc (.cells (vx Vd.zero).toArray 24)).setRow w6.heap.size (vx fv7).toArray)):=Below.trans (B:=w6.heap.size) (G.alloc _ _) ⟨rfl,rfl,rfl,by simp,fun b hb=>setRow_other _ _ b _ (by omega)⟩
 generalize (w6.alloc (.cells (vx Vd.zero).toArray 24)).setRow w6.heap.size (vx fv7).toArray=w7 at *
 generalize hB:w6.heap.size=B at *
 have HB:=hid hB
 clear hB
 go_upto_region 13 with (first
  | (go_at_call 24;refine (HC7.o _ w7 (G.trans HT6.o.1 HT7.o) (HT6.o.2.below HT7.o)).mono ?_;rintro e w8 ⟨fb,rfl,hg8,hf8⟩;have HT8:=hid (⟨hg8,hf8⟩:_∧_);clear hg8 hf8)
  | (go_at_call 25;refine (HTo.o fb w8 HT8.o.2).mono ?_;rintro e w9 ⟨rfl,hg9⟩;have HT9:=hid (G.trans HT8.o.1 hg9);clear hg9))
 have hV9:yZ (w9.alloc (.cells #[.int .i64 4,.string { data:=#[] },.int .i64 70] 49)) B (vx fv7).toArray:=HV.o.grow (G.trans HT9.o (G.alloc _ _))
 have hV9':(w9.alloc (.cells #[.int .i64 4,.string { data:=#[] },.int .i64 70] 49)).heap[B]?=some (.cells (vx fv7).toArray 24 (0,0)):=hV9
 have c1:(w9.alloc (.cells #[.int .i64 4,.string { data:=#[] },.int .i64 70] 49)).cell? ⟨B,1,none⟩=some (.int .i64 6):=by simp only [World.cell?,hV9'];rfl
 have c2:(w9.alloc (.cells #[.int .i64 4,.string { data:=#[] },.int .i64 70] 49)).cell? ⟨B,2,none⟩=some (.int .i64 3):=by simp only [World.cell?,hV9'];rfl
 clear hV9 hV9'
 go_wp2_with fail
 go_ret
 exact ⟨rfl,G.trans HT6.o.1 (G.trans HT7.o (G.trans HT9.o (G.alloc _ _)))⟩
end Go.Proofs.YtjikkhbcbfpocaaGreatDoor
