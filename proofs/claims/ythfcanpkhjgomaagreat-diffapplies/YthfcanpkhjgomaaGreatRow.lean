import Derived.Test.YthfcanpkhjgomaaGreatCells
set_option maxRecDepth 100000
namespace Go.Proofs.YthfcanpkhjgomaaGreat
open Go.RowKit
def HasRP (w:World) (P:Nat→Prop):F→Nat→Nat→Prop
 | .nil,_,_=>True
 | .cons nm v m kids rest,g,o=>(∃ a cap,Lies w g o (nc nm v m (.slice a kids.len cap))∧(kids.len≤cap∧(kids=.nil∨∃ g' o',a=some ⟨g',o',none⟩∧P g'∧HasRP w P kids g' o')))∧HasRP w P rest g (o+41)
def HasSP (w:World) (P:Nat→Prop) (v:Value) (f:F):Prop:=∃ a cap,v=.slice a f.len cap∧f.len≤cap∧(f=.nil∨∃ g o,a=some ⟨g,o,none⟩∧P g∧HasRP w P f g o)
def HasNP (w:World) (P:Nat→Prop) (c:Array Value) (nm:ByteArray) (v:Vd) (m:Md) (ks:F):Prop:=∃ kv,c=nc nm v m kv∧HasSP w P kv ks
theorem HasRP.has {w:World} {P:Nat→Prop}:∀ {f:F} {g o:Nat},HasRP w P f g o→HasR w f g o
 | .nil,_,_,_=>trivial
 | .cons _ _ _ _ _,_,_,⟨⟨a,cap,hc,hl,hk⟩,hr⟩=>⟨⟨a,cap,hc,hl,hk.imp id fun ⟨g',o',ha,_,h⟩=>⟨g',o',ha,HasRP.has h⟩⟩,HasRP.has hr⟩
theorem HasSP.has {w:World} {P:Nat→Prop} {v:Value} {f:F} (h:HasSP w P v f):HasS w v f:=by
 obtain ⟨a,cap,hv,hl,h⟩:=h
 exact ⟨a,cap,hv,hl,h.imp id fun ⟨g,o,ha,_,h⟩=>⟨g,o,ha,h.has⟩⟩
theorem HasNP.has {w:World} {P:Nat→Prop} {c:Array Value} {nm:ByteArray} {v:Vd} {m:Md} {ks:F} (h:HasNP w P c nm v m ks):HasN w c nm v m ks:=by
 obtain ⟨kv,hc,h⟩:=h
 exact ⟨kv,hc,h.has⟩
theorem Lies.same {w w':World} {g o:Nat} {c:Array Value} (h:Lies w g o c) (hb:w'.heap[g]?=w.heap[g]?):Lies w' g o c:=fun j u hj=>(World.cell?_of_block (w:=w) (a:=⟨g,o+j,none⟩) hb).trans (h j u hj)
theorem HasRP.keep {w w':World} {P P':Nat→Prop} (hP:∀ b,P b→w'.heap[b]?=w.heap[b]?∧P' b):∀ {f:F} {g o:Nat},HasRP w P f g o→w'.heap[g]?=w.heap[g]?→HasRP w' P' f g o
 | .nil,_,_,_,_=>trivial
 | .cons _ _ _ _ _,_,_,⟨⟨a,cap,hc,hl,hk⟩,hr⟩,hg=>⟨⟨a,cap,hc.same hg,hl,hk.imp id fun ⟨g',o',ha,hp,h⟩=>⟨g',o',ha,(hP _ hp).2,HasRP.keep hP h (hP _ hp).1⟩⟩,HasRP.keep hP hr hg⟩
theorem HasSP.keep {w w':World} {P P':Nat→Prop} {v:Value} {f:F} (h:HasSP w P v f) (hP:∀ b,P b→w'.heap[b]?=w.heap[b]?∧P' b):HasSP w' P' v f:=by
 obtain ⟨a,cap,hv,hl,h⟩:=h
 exact ⟨a,cap,hv,hl,h.imp id fun ⟨g,o,ha,hp,h⟩=>⟨g,o,ha,(hP _ hp).2,h.keep hP (hP _ hp).1⟩⟩
def RCells (w:World) (P:Nat→Prop):F→List Value→Prop
 | .nil,xs=>xs=[]
 | .cons nm v m ks r,xs=>∃ kv xs',xs=(nc nm v m kv).toList++xs'∧HasSP w P kv ks∧RCells w P r xs'
theorem RCells.len {w:World} {P:Nat→Prop}:∀ {f:F} {xs:List Value},RCells w P f xs→xs.length=f.len*41
 | .nil,_,h=>by rw [h];simp [F.len]
 | .cons nm v m ks r,xs,⟨kv,xs',h,_,hr⟩=>by rw [h,List.length_append,RCells.len hr,F.len];simp [jZ];omega
theorem RCells.snoc {w:World} {P:Nat→Prop} {nm:ByteArray} {v:Vd} {m:Md} {kv:Value} {ks:F} (hk:HasSP w P kv ks):∀ {f:F} {xs:List Value},RCells w P f xs→RCells w P (f.app (.cons nm v m ks .nil)) (xs++(nc nm v m kv).toList)
 | .nil,xs,h=>⟨kv,[],by rw [h];simp,hk,rfl⟩
 | .cons _ _ _ _ r,xs,⟨kv',xs',h,hs,hr⟩=>⟨kv',xs'++(nc nm v m kv).toList,by rw [h,List.append_assoc],hs,RCells.snoc hk hr⟩
theorem RCells.keep {w w':World} {P P':Nat→Prop} (hP:∀ b,P b→w'.heap[b]?=w.heap[b]?∧P' b):∀ {f:F} {xs:List Value},RCells w P f xs→RCells w' P' f xs
 | .nil,_,h=>h
 | .cons _ _ _ _ _,_,⟨kv,xs',h,hs,hr⟩=>⟨kv,xs',h,hs.keep hP,RCells.keep hP hr⟩
theorem RCells.row {w:World} {P:Nat→Prop} {g:Nat}:∀ {f:F} {xs:List Value} {o:Nat},RCells w P f xs→(∀ j u,xs[j]?=some u→w.cell? ⟨g,o+j,none⟩=some u)→HasRP w P f g o
 | .nil,_,_,_,_=>trivial
 | .cons nm v m ks r,xs,o,⟨kv,xs',h,hs,hr⟩,hc=>by
  subst h
  obtain ⟨a,cap,rfl,hl,hk⟩:=hs
  have h41:(nc nm v m (.slice a ks.len cap)).toList.length=41:=by simp [jZ]
  refine ⟨⟨a,cap,fun j u hj=>hc j u ?_,hl,hk⟩,RCells.row hr fun j u hj=>?_⟩
  ·have hlt:=(Array.getElem?_eq_some_iff.1 hj).1
   rw [jZ] at hlt
   rw [List.getElem?_append_left (by omega)]
   simpa using hj
  ·have:=hc (41+j) u (by rw [List.getElem?_append_right (by omega),h41];simpa using hj)
   rw [show o+41+j=o+(41+j) by omega]
   exact this
theorem RCells.slice {w:World} {P:Nat→Prop} {lo:Nat} {f:F} {xs:List Value} {v:Value} (h:RCells w P f xs) (ho:w.ownsRow lo 30 41 v f.len xs) (hP:∀ g,v.ownBlock=some g→P g):HasSP w P v f:=by
 have h0:=ho
 obtain ⟨_,q | ⟨g,cap,cur,rfl,hb,hh,hn,hm,hs,ht⟩⟩:=ho
 ·obtain ⟨rfl,hl⟩:=q
  have:f=.nil:=by
   cases f with
   | nil=>rfl
   | cons=>simp [F.len] at hl
  subst this
  exact ⟨none,0,rfl,Nat.le_refl _,.inl rfl⟩
 ·refine ⟨_,cap,rfl,hn,.inr ⟨g,0,rfl,hP g rfl,h.row fun j u hj=>?_⟩⟩
  have:=World.ownsRow.cells h0 (g:=g) rfl j u hj
  rwa [show ((⟨g,0,none⟩:Addr).add j)=⟨g,0+j,none⟩ from Addr.add_mid g 0 j] at this
theorem info30:(Tryz.prog.info? 30).map (fun i=>(i.zero,i.size,i.bytes))=some (some (.agg z30),41,128):=by kernel_rfl
theorem exec_slice1 {o:Oper} {a:Act} (x:Operand) (ho:o.op=.buildSlice 28 1 #[(0,x)]) (c:Array Value) (hx:a.eval x=.agg c) (hs:c.size=41) (w:World):
  (execOp a.eval o).run Tryz.prog w=.ok (.value (.slice (some ⟨w.heap.size,0,none⟩) 1 1)) (w.alloc (.cells c 30)):=by
 obtain ⟨i0,hi,hz0,hz1,hz2⟩:=info_parts info30
 have hf:Instr.fill (fun i=>some (i*41,41)) ((Array.range (1*41)).map (z30[·%z30.size]!)) [(0,.agg c)]=some c:=by
  obtain ⟨z,hz,hzl⟩:∃ z:List Value,((Array.range (1*41)).map (z30[·%z30.size]!))=z.toArray∧z.length=41:=⟨((Array.range (1*41)).map (z30[·%z30.size]!)).toList,Array.toArray_toList.symm,by simp⟩
  rw [hz,fill_cons _ z 0 0 41 _ c.toList _ rfl (by simp [Value.cells]) (by simpa using hs) (by omega),Instr.fill]
  have hd:z.drop 41=[]:=List.drop_of_length_le (by omega)
  simp [over,hs,hd]
 have hsz:(sizeOf 30).run Tryz.prog w=.ok 41 w:=by simp [sizeOf,typeInfo,hi,hz1]
 have hzv:=run_zero30 w
 generalize z30=zz at hf hzv
 have hb:(Instr.buildSlice 28 1 #[(0,.agg c)]).run Tryz.prog w=.ok (.slice (some ⟨w.heap.size,0,none⟩) 1 1) (w.alloc (.cells c 30)):=by
  unfold Instr.buildSlice
  simp only [Sem.run_bind,run_underlying Tryz.underlying28,Result.andThen_ok,hsz]
  have h1:¬ (1*41 > 2 ^ 24):=by omega
  have h2:¬ (1*41=0):=by omega
  simp only [h1,h2,if_false,Sem.run_bind,Sem.run_pure,Result.andThen_ok,hzv,Value.cells,hf]
  rfl
 unfold execOp
 simp only [ho]
 have hmap:(#[(0,x)].map fun (p:Nat × Operand)=>match p with | (i,x)=>(i,a.eval x))=#[(0,.agg c)]:=by simp [hx]
 rw [hmap]
 simp only [Sem.run_bind,hb,Result.andThen_ok,Sem.run_pure]
theorem nc_kset (nm:ByteArray) (v:Vd) (m:Md) (kv kv':Value):(nc nm v m kv).setIfInBounds 40 kv'=nc nm v m kv':=by
 simp only [nc,List.setIfInBounds_toArray,List.set_cons_succ]
 rw [List.set_append_right _ _ (by simp [jQ]),jQ,List.set_append_right _ _ (by simp [ji])]
 simp [ji]
theorem nc_nset (nm nm':ByteArray) (v:Vd) (m:Md) (kv:Value):(nc nm v m kv).setIfInBounds 0 (.string nm')=nc nm' v m kv:=by
 simp [nc]
end Go.Proofs.YthfcanpkhjgomaaGreat
