import Derived.Test.YthfcanpkhjgomaaGreatAtA
namespace Go.Proofs.YthfcanpkhjgomaaGreat
open Go.RowKit Go.Shelf
def NewC (w w':World) (b:Nat):Prop:=w.heap.size≤b∧∃ o:Obj,w'.heap[b]?=some o∧o.isCells=true
def kidsF:List Kid→F
 | []=>.nil
 | x::r=>.cons x.nm x.v x.m x.k.flat (kidsF r)
theorem kidsF_app:∀ a b:List Kid,kidsF (a++b)=(kidsF a).app (kidsF b)
 | [],_=>rfl
 | x::a,b=>by rw [List.cons_append,kidsF,kidsF,F.app,kidsF_app a b]
theorem kidsF_items:∀ k:K,kidsF k.items=k.flat
 | .nil=>rfl
 | .node _ _ _ _ _ _ ah be=>by rw [K.items,kidsF_app,kidsF_items ah,kidsF,kidsF_items be,K.flat]
def NI (w:World) (B:Nat) (v:Vd) (m:Md) (fs:F) (k:Nat) (W:World):Prop:=∃ u xs T,G w W∧Var W B z30∧Var W (B+1) (nc ⟨#[]⟩ v m u)∧W.ownsRow (B+2) 30 41 u k xs∧RCells W T fs xs∧
 ∀ b,T b→B+2≤b∧(∃ o:Obj,W.heap[b]?=some o∧o.isCells=true)∧some b≠u.ownBlock
theorem NI.own {w:World} {B B5 S:Nat} {w0:World} {v:Vd} {m:Md} (hB:w.heap.size=B) (h5:B≤B5):OwnFrom B5 (fun (pre:List (KidIn w0 S)) W=>NI w B v m (kidsF (kids pre)) pre.length W):=by
 intro s W W' row ⟨u,xs,T,h1,h2,h3,h4,h6,h7⟩ hg hr
 have hc:∀ (b:Nat) (o:Obj),W.heap[b]?=some o→o.isCells=true→W'.heap[b]?=W.heap[b]?:=fun b o hb ho=>hg.block b (Array.getElem?_eq_some_iff.1 hb).1 fun e=>by
  obtain ⟨_,o',ho',hc'⟩:=hr b e.symm
  rw [hb] at ho'
  cases ho'
  rw [ho] at hc'
  cases hc'
 refine ⟨u,xs,T,?_,(hc _ _ h2 rfl).trans h2,(hc _ _ h3 rfl).trans h3,?_,h6.keep fun b hb=>?_,fun b hb=>?_⟩
 ·exact Below.trans (B:=w.heap.size) h1 ⟨hg.os,hg.tape,hg.output,hg.size,fun b hb=>hg.block b (by have:=h1.size;omega) fun e=>by have:=(hr b e.symm).1;omega⟩
 ·obtain ⟨hl,h | ⟨g,cap,cur,hv,hb,hh,hr'⟩⟩:=h4
  ·exact ⟨hl,.inl h⟩
  ·exact ⟨hl,.inr ⟨g,cap,cur,hv,hb,(hc _ _ hh rfl).trans hh,hr'⟩⟩
 ·obtain ⟨_,⟨o,ho,hoc⟩,_⟩:=h7 b hb
  exact ⟨hc b o ho hoc,hb⟩
 ·obtain ⟨h8,⟨o,ho,hoc⟩,h9⟩:=h7 b hb
  exact ⟨h8,⟨o,(hc b o ho hoc).trans ho,hoc⟩,h9⟩
structure Left (Wa Wz:World) (B g k:Nat) (v:Vd) (m:Md) (u':Value) (ys:List Value):Prop where
 os:Wz.os=Wa.os
 tape:Wz.tape=Wa.tape
 output:Wz.output=Wa.output
 size:Wz.heap.size=Wa.heap.size
 block:∀ b,b≠B+1→b≠g→Wz.heap[b]?=Wa.heap[b]?
 var:Var Wz (B+1) (nc ⟨#[]⟩ v m u')
 row:Wz.ownsRow (B+2) 30 41 u' (k+1) ys
theorem NI.step {w W W3 Wa Wz:World} {B g k cap:Nat} {v:Vd} {m:Md} {fs:F} {u:Value} {xs:List Value} {T:Nat→Prop} {x:Kid} {kv:Value}
  (hB:w.heap.size=B) (h1:G w W) (h2:Var W B z30) (h3:Var W (B+1) (nc ⟨#[]⟩ v m u)) (h4:W.ownsRow (B+2) 30 41 u k xs) (h6:RCells W T fs xs) (h7:∀ b,T b→B+2≤b∧(∃ o:Obj,W.heap[b]?=some o∧o.isCells=true)∧some b≠u.ownBlock)
  (hg3:G W W3) (hk:HasSP W3 (NewC W W3) kv x.k.flat) (hga:W3.grownBy Wa u.ownBlock) (hat:u.ownBlock=some g∨W3.heap.size≤g)
  (hL:Left Wa Wz B g k v m (.slice (some ⟨g,0,none⟩) (k+1) cap) (xs++(nc x.nm x.v x.m kv).toList)):
  KeepsOthers W Wz∧Below B W Wz∧NI w B v m (fs.app (.cons x.nm x.v x.m x.k.flat .nil)) (k+1) Wz:=by
 have hs1:=h1.size
 have hs3:=hg3.size
 have hsa:=hga.size
 have hlt:=World.ownsRow.lt h4
 have hB1:=h3.lt
 have hgB:B+2≤g:=by
  rcases hat with e | e
  ·exact (hlt g e).1
  ·have:=hB1;omega
 have hsame:∀ b,b<W3.heap.size→b≠B+1→some b≠u.ownBlock→Wz.heap[b]?=W3.heap[b]?:=fun b hb hn hu=>by
  rw [hL.block b hn (fun e=>by
   rcases hat with q | q
   ·exact hu (by rw [e,q])
   ·omega)]
  exact hga.block b hb hu
 have hold:∀ b,b<W.heap.size→b≠B+1→some b≠u.ownBlock→Wz.heap[b]?=W.heap[b]?:=fun b hb hn hu=>(hsame b (by omega) hn hu).trans (Below.block hg3 b hb)
 have hbel:Below B W Wz:=⟨by rw [hL.os,hga.os];exact hg3.os,by rw [hL.tape,hga.tape];exact hg3.tape,by rw [hL.output,hga.output];exact hg3.output,by rw [hL.size];omega,fun b hb=>hold b (by omega) (by omega) fun e=>by have:=(hlt b e.symm).1;omega⟩
 have hnu:∀ b,b<B+2→some b≠u.ownBlock:=fun b hb e=>by have:=(hlt b e.symm).1;omega
 refine ⟨⟨hbel.size,fun b o hb ho=>?_⟩,hbel,_,_,fun b=>T b∨NewC W W3 b,Below.trans (B:=w.heap.size) h1 (by rw [hB];exact hbel),(hold B h2.lt (by omega) (hnu B (by omega))).trans h2,hL.var,hL.row,?_,?_⟩
 ·rw [hold b (Array.getElem?_eq_some_iff.1 hb).1 (fun e=>?_) (fun e=>?_)]
  ·exact hb
  ·subst e
   have h3':W.heap[B+1]?=some (.cells (nc ⟨#[]⟩ v m u) 30 (0,0)):=h3
   rw [h3'] at hb
   cases hb
   cases ho
  ·obtain ⟨_,q | ⟨g',cap',cur,hv,_,hh,_⟩⟩:=h4
   ·rw [q.1] at e;cases e
   ·rw [hv] at e
    obtain rfl:b=g':=by simpa [Value.ownBlock] using e
    rw [hh] at hb
    cases hb
    cases ho
 ·refine RCells.snoc (hk.keep fun b hb=>⟨?_,.inr hb⟩) (h6.keep fun b hb=>⟨?_,.inl hb⟩)
  ·obtain ⟨h8,o,ho,hoc⟩:=hb
   exact hsame b (Array.getElem?_eq_some_iff.1 ho).1 (by omega) fun e=>by have:=(hlt b e.symm).2;omega
  ·obtain ⟨h8,⟨o,ho,hoc⟩,h9⟩:=h7 b hb
   exact hold b (Array.getElem?_eq_some_iff.1 ho).1 (by omega) h9
 ·rintro b (hb | hb)
  ·obtain ⟨h8,⟨o,ho,hoc⟩,h9⟩:=h7 b hb
   have hbl:=(Array.getElem?_eq_some_iff.1 ho).1
   refine ⟨h8,⟨o,(hold b hbl (by omega) h9).trans ho,hoc⟩,fun e=>?_⟩
   obtain rfl:b=g:=by simpa [Value.ownBlock] using e
   rcases hat with q | q
   ·exact h9 q.symm
   ·omega
  ·obtain ⟨h8,o,ho,hoc⟩:=hb
   have hbl:=(Array.getElem?_eq_some_iff.1 ho).1
   have hu:some b≠u.ownBlock:=fun e=>by have:=(hlt b e.symm).2;omega
   refine ⟨by omega,⟨o,(hsame b hbl (by omega) hu).trans ho,hoc⟩,fun e=>?_⟩
   obtain rfl:b=g:=by simpa [Value.ownBlock] using e
   rcases hat with q | q
   ·exact hu q.symm
   ·omega
theorem jt (g:Nat):∀ (vs:List Value) (o:Nat) (w:World) (b:Nat),b≠g→(w.setCells g o vs).heap[b]?=w.heap[b]?
 | [],_,_,_,_=>rfl
 | _::r,o,_,b,h=>(jt g r (o+1) _ b h).trans (Below.heap_setCell _ _ _ _ h)
theorem setCells_size (g:Nat):∀ (vs:List Value) (o:Nat) (w:World),(w.setCells g o vs).heap.size=w.heap.size
 | [],_,_=>rfl
 | _::r,o,w=>(setCells_size g r (o+1) _).trans (by simp)
theorem over_end (xs zs cs:List Value) (o:Nat) (h1:xs.length=o) (h2:zs.length=cs.length):over (xs++zs) o cs=xs++cs:=by
 unfold over
 rw [List.take_append_of_le_length (by omega),List.take_of_length_le (by omega),List.drop_of_length_le (by simp;omega),List.append_nil]
theorem owns_other {w w':World} {base e size g n cap:Nat} {xs:List Value} (h:w.ownsRow base e size (.slice (some ⟨g,0,none⟩) n cap) n xs) (hb:w'.heap[g]?=w.heap[g]?):w'.ownsRow base e size (.slice (some ⟨g,0,none⟩) n cap) n xs:=by
 obtain ⟨hl,q | ⟨g',cap',cur,hv,h1,hh,hr⟩⟩:=h
 ·cases q.1
 ·injection hv with e1 e2 e3
  injection e1 with e1
  injection e1 with e1
  subst e1 e3
  exact ⟨hl,.inr ⟨g,cap,cur,rfl,h1,hb.trans hh,hr⟩⟩
theorem left_a {Wa:World} {B g k cap:Nat} {v:Vd} {m:Md} {u:Value} {xs:List Value} {cn:Array Value} (ho:Wa.ownsRow (B+2) 30 41 (.slice (some ⟨g,0,none⟩) (k+1) cap) (k+1) (xs++z30.toList)) (hx:xs.length=k*41) (hv:Var Wa (B+1) (nc ⟨#[]⟩ v m u)) (hg:B+2≤g) (hc:cn.size=41):
  Left Wa ((Wa.setCells g (k*41) cn.toList).setCell ⟨B+1,40,none⟩ (.slice (some ⟨g,0,none⟩) (k+1) cap)) B g k v m (.slice (some ⟨g,0,none⟩) (k+1) cap) (xs++cn.toList):=by
 obtain ⟨r1,r2⟩:=qD cn.toList (k*41) Wa _ ho (by simp [jU,hx,hc])
 rw [over_end _ _ _ _ hx (by simp [jU,hc])] at r1
 refine ⟨r2.os,r2.tape,r2.output,?_,fun b h1 h2=>?_,?_,owns_other r1 (Below.heap_setCell _ _ _ _ (by show g≠B+1;omega))⟩
 ·rw [World.size_setCell,setCells_size]
 ·exact (Below.heap_setCell _ _ _ _ h1).trans (jt g _ _ _ _ h2)
 ·have h:=Var.setCell (w:=Wa.setCells g (k*41) cn.toList) ((jt g _ _ _ _ (by omega)).trans hv) 40 (.slice (some ⟨g,0,none⟩) (k+1) cap)
  rw [nc_kset] at h
  exact h
theorem left_b {Wa:World} {B g k cap:Nat} {v:Vd} {m:Md} {u:Value} {xs:List Value} {cn:Array Value} (ho:Wa.ownsRow (B+2) 30 41 (.slice (some ⟨g,0,none⟩) (k+1) cap) (k+1) (xs++z30.toList)) (hx:xs.length=k*41) (hv:Var Wa (B+1) (nc ⟨#[]⟩ v m u)) (hg:B+2≤g) (hc:cn.size=41):
  Left Wa ((Wa.setCell ⟨B+1,40,none⟩ (.slice (some ⟨g,0,none⟩) (k+1) cap)).setCells g (k*41) cn.toList) B g k v m (.slice (some ⟨g,0,none⟩) (k+1) cap) (xs++cn.toList):=by
 have ho2:(Wa.setCell ⟨B+1,40,none⟩ (.slice (some ⟨g,0,none⟩) (k+1) cap)).ownsRow (B+2) 30 41 (.slice (some ⟨g,0,none⟩) (k+1) cap) (k+1) (xs++z30.toList):=owns_other ho (Below.heap_setCell _ _ _ _ (by show g≠B+1;omega))
 obtain ⟨r1,r2⟩:=qD cn.toList (k*41) _ _ ho2 (by simp [jU,hx,hc])
 rw [over_end _ _ _ _ hx (by simp [jU,hc])] at r1
 refine ⟨r2.os,r2.tape,r2.output,?_,fun b h1 h2=>?_,?_,r1⟩
 ·rw [setCells_size,World.size_setCell]
 ·exact (jt g _ _ _ _ h2).trans (Below.heap_setCell _ _ _ _ h1)
 ·have h:=hv.setCell 40 (.slice (some ⟨g,0,none⟩) (k+1) cap)
  rw [nc_kset] at h
  exact (jt g _ _ _ _ (by omega)).trans h
theorem NI.start {w Wz W4:World} {B p N:Nat} {v:Vd} {m:Md} (hB:w.heap.size=B) (hG:G w Wz) (hV0:Var Wz B z30) (hV1:Var Wz (B+1) (nc ⟨#[]⟩ v m (.slice none 0 0))) (how:W4.ownsRow (B+2) 30 41 (.slice (some ⟨B+2,0,none⟩) 0 N) 0 []) (hgr:Wz.grownBy W4 none):
  NI w B v m .nil 0 ((W4.setCell ⟨B+1,40,none⟩ (.slice (some ⟨B+2,0,none⟩) 0 N)).alloc (.cells #[.pointer (some ⟨p,0,none⟩)] 34)):=by
 have hs:=hG.size
 have hsg:=hgr.size
 have hl1:=hV1.lt
 have hlt:=(World.ownsRow.lt how (B+2) rfl).2
 have e1:Var W4 (B+1) (nc ⟨#[]⟩ v m (.slice none 0 0)):=(hgr.block _ hl1 (by simp)).trans hV1
 have e0:Var W4 B z30:=(hgr.block _ (by omega) (by simp)).trans hV0
 have hG4:G w W4:=Below.trans (B:=w.heap.size) hG ⟨hgr.os,hgr.tape,hgr.output,hgr.size,fun b hb=>hgr.block b (by omega) (by simp)⟩
 refine ⟨_,[],fun _=>False,?_,?_,?_,World.ownsRow.alloc (owns_other how (Below.heap_setCell _ _ _ _ (by show B+2≠B+1;omega))) _,rfl,fun b hb=>hb.elim⟩
 ·refine Below.trans (B:=w.heap.size) hG4 (Below.trans (b:=W4.setCell ⟨B+1,40,none⟩ (.slice (some ⟨B+2,0,none⟩) 0 N)) ⟨rfl,rfl,rfl,by simp,fun b hb=>Below.heap_setCell _ _ _ _ (by show b≠B+1;omega)⟩ ((Below.refl _ _).alloc (by simp;omega) _))
 ·exact (Below.heap_alloc _ _ _ (by simp;omega)).trans ((Below.heap_setCell _ _ _ _ (by show B≠B+1;omega)).trans e0)
 ·have h:=e1.setCell 40 (.slice (some ⟨B+2,0,none⟩) 0 N)
  rw [nc_kset] at h
  exact (Below.heap_alloc _ _ _ (by simp;omega)).trans h
theorem owns_form {w:World} {base e size n:Nat} {u:Value} {xs:List Value} (h:w.ownsRow base e size u n xs):∃ ao uc,u=.slice ao n uc:=by
 obtain ⟨_,q | ⟨g,cap,cur,hv,_⟩⟩:=h
 ·obtain ⟨rfl,rfl⟩:=q;exact ⟨_,_,rfl⟩
 ·exact ⟨_,_,hv⟩
theorem round_world {W W2 V:World} {D:Nat} {c2:Array Value} {v:Vd} {m:Md} {f:F} (hD:W2.heap.size=D) (hn:HasNP W2 (NewC W W2) c2 ⟨#[]⟩ v m f) (hg:G W W2) (hv:G W2 V∧Var V D c2∧V.heap.size=D+1) (nm:ByteArray):
  ∃ kv,G W (V.setCell ⟨D,0,none⟩ (.string nm)).drew∧Var (V.setCell ⟨D,0,none⟩ (.string nm)).drew D (nc nm v m kv)∧HasSP (V.setCell ⟨D,0,none⟩ (.string nm)).drew (NewC W (V.setCell ⟨D,0,none⟩ (.string nm)).drew) kv f∧(V.setCell ⟨D,0,none⟩ (.string nm)).drew.heap.size=D+1:=by
 obtain ⟨kv,rfl,hk⟩:=hn
 have hb:∀ b,b<D→(V.setCell ⟨D,0,none⟩ (.string nm)).drew.heap[b]?=W2.heap[b]?:=fun b hb=>(Below.heap_setCell _ _ _ _ (by show b≠D;omega)).trans (Below.block hv.1 b (by omega))
 have hs:=hg.size
 refine ⟨kv,?_,?_,hk.keep fun b hb'=>?_,?_⟩
 ·exact Below.trans (B:=W.heap.size) hg ⟨hv.1.os,hv.1.tape,hv.1.output,by have:=hv.1.size;show _≤(V.setCell ⟨D,0,none⟩ (.string nm)).heap.size;rw [World.size_setCell];exact this,fun b h=>hb b (by omega)⟩
 ·have h:=hv.2.1.setCell 0 (.string nm)
  rw [nc_nset] at h
  exact h
 ·obtain ⟨h8,o,ho,hoc⟩:=hb'
  have hlt:=(Array.getElem?_eq_some_iff.1 ho).1
  exact ⟨hb b (by omega),h8,o,(hb b (by omega)).trans ho,hoc⟩
 ·show (V.setCell ⟨D,0,none⟩ (.string nm)).heap.size=D+1
  rw [World.size_setCell]
  exact hv.2.2
theorem js {o:Oper} {a:Act} (x:Operand) (ho:o.op=.buildSlice 28 1 #[(0,x)]) (c:Array Value) (hx:a.eval x=.agg c) (hs:c.size=41) (w:World) (b:Nat) (hb:w.heap.size=b):
  (execOp a.eval o).run Tryz.prog w=.ok (.value (.slice (some ⟨b,0,none⟩) 1 1)) (w.alloc (.cells c 30)):=by
 subst hb;exact exec_slice1 x ho c hx hs w
end Go.Proofs.YthfcanpkhjgomaaGreat
