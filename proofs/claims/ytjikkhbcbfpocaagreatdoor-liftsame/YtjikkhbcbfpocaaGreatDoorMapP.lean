import Derived.Test.YtjikkhbcbfpocaaGreatDoorCopyO
namespace Go.Proofs.YtjikkhbcbfpocaaGreatDoor
open Go.RowKit Go.Shelf
def aW:Obj→Bool
 | .cells _ _ fr=>fr==(0,0)
 | _=>false
theorem fq {o:Obj} (h:aW o=true):o.isCells=true:=by cases o<;>first | rfl | cases h
def NewC (w w':World) (b:Nat):Prop:=w.heap.size≤b∧∃ o:Obj,w'.heap[b]?=some o∧aW o=true
def yb:List Kid→F
 | []=>.nil
 | x::r=>.cons x.nm x.v x.m x.k.flat (yb r)
theorem cF:∀ a b:List Kid,yb (a++b)=(yb a).app (yb b)
 | [],_=>rfl
 | x::a,b=>by rw [List.cons_append,yb,yb,F.app,cF a b]
theorem qZ:∀ k:K,yb k.items=k.flat
 | .nil=>rfl
 | .node _ _ _ _ _ _ ah be=>by rw [K.items,cF,qZ ah,yb,qZ be,K.flat]
def NI (w:World) (B:Nat) (v:Vd) (m:Md) (fs:F) (k:Nat) (W:World):Prop:=∃ u xs T,G w W∧Var W B z30∧Var W (B+1) (nc ⟨#[]⟩ v m u)∧W.ownsRow (B+2) 30 41 u k xs∧jx W T fs xs∧
 ∀ b,T b→B+2≤b∧(∃ o:Obj,W.heap[b]?=some o∧aW o=true)∧some b≠u.ownBlock
theorem NI.own {w:World} {B B5 S:Nat} {w0:World} {v:Vd} {m:Md} (hB:w.heap.size=B) (h5:B≤B5):OwnFrom B5 (fun (pre:List (gj w0 S)) W=>NI w B v m (yb (kids pre)) pre.length W):=by
 intro s W W' row ⟨u,xs,T,h1,h2,h3,h4,h6,h7⟩ hg hr
 have hc:∀ (b:Nat) (o:Obj),W.heap[b]?=some o→aW o=true→W'.heap[b]?=W.heap[b]?:=fun b o hb ho=>hg.block b (ga hb).1 fun e=>by
  obtain ⟨_,o',ho',hc'⟩:=hr b e.symm
  rw [hb] at ho'
  cases ho'
  rw [fq ho] at hc'
  cases hc'
 refine ⟨u,xs,T,?_,(hc _ _ h2 rfl).trans h2,(hc _ _ h3 rfl).trans h3,?_,h6.keep fun b hb=>?_,fun b hb=>?_⟩
 ·exact Below.trans (B:=w.heap.size) h1 ⟨hg.os,hg.tape,hg.output,hg.size,fun b hb=>hg.block b (by have:=h1.size;omega) fun e=>by have:=(hr b e.symm).1;omega⟩
 ·obtain ⟨hl,h | ⟨g,cap,cur,hv,hb,hh,hr'⟩⟩:=h4
  ·exact ⟨hl,.inl h⟩
  ·exact ⟨hl,.inr ⟨g,cap,cur,hv,hb,(hc _ _ hh rfl).trans hh,hr'⟩⟩
 ·obtain ⟨_,⟨o,ho,hoc⟩,_⟩:=h7 b hb
  exact ⟨hc b o ho hoc,hb⟩
 ·obtain ⟨h8,⟨o,ho,hoc⟩,h9⟩:=h7 b hb
  exact ⟨h8,⟨o,(hc b o ho hoc).trans ho,hoc⟩,h9⟩
structure Left (Wa Wz:World) (B g k:Nat) (v:Vd) (m:Md) (u':Value) (ys:List Value):Prop where
 os:Wz.os=Wa.os
 tape:Wz.tape=Wa.tape
 output:Wz.output=Wa.output
 size:Wz.heap.size=Wa.heap.size
 block:∀ b,b≠B+1→b≠g→Wz.heap[b]?=Wa.heap[b]?
 var:Var Wz (B+1) (nc ⟨#[]⟩ v m u')
 row:Wz.ownsRow (B+2) 30 41 u' (k+1) ys
theorem NI.step {w W W3 Wa Wz:World} {B g k cap:Nat} {v:Vd} {m:Md} {fs:F} {u:Value} {xs:List Value} {T:Nat→Prop} {x:Kid} {kv:Value}
  (hB:w.heap.size=B) (h1:G w W) (h2:Var W B z30) (h3:Var W (B+1) (nc ⟨#[]⟩ v m u)) (h4:W.ownsRow (B+2) 30 41 u k xs) (h6:jx W T fs xs) (h7:∀ b,T b→B+2≤b∧(∃ o:Obj,W.heap[b]?=some o∧aW o=true)∧some b≠u.ownBlock)
  (hg3:G W W3) (hk:xG W3 (NewC W W3) kv x.k.flat) (hga:W3.grownBy Wa u.ownBlock) (hat:u.ownBlock=some g∨W3.heap.size≤g)
  (hL:Left Wa Wz B g k v m (.slice (some ⟨g,0,none⟩) (k+1) cap) (xs++(nc x.nm x.v x.m kv).toList)):
  KeepsOthers W Wz∧Below B W Wz∧NI w B v m (fs.app (.cons x.nm x.v x.m x.k.flat .nil)) (k+1) Wz:=by
 have hs1:=h1.size
 have hs3:=hg3.size
 have hsa:=hga.size
 have hlt:=World.ownsRow.lt h4
 have hB1:=h3.lt
 have hgB:B+2≤g:=by
  rcases hat with e | e
  ·exact (hlt g e).1
  ·have:=hB1;omega
 have hsame:∀ b,b<W3.heap.size→b≠B+1→some b≠u.ownBlock→Wz.heap[b]?=W3.heap[b]?:=fun b hb hn hu=>by
  rw [hL.block b hn (fun e=>by
   rcases hat with q | q
   ·exact hu (by rw [e,q])
   ·omega)]
  exact hga.block b hb hu
 have hold:∀ b,b<W.heap.size→b≠B+1→some b≠u.ownBlock→Wz.heap[b]?=W.heap[b]?:=fun b hb hn hu=>(hsame b (by omega) hn hu).trans (Below.block hg3 b hb)
 have hbel:Below B W Wz:=⟨by rw [hL.os,hga.os];exact hg3.os,by rw [hL.tape,hga.tape];exact hg3.tape,by rw [hL.output,hga.output];exact hg3.output,by rw [hL.size];omega,fun b hb=>hold b (by omega) (by omega) fun e=>by have:=(hlt b e.symm).1;omega⟩
 have hnu:∀ b,b<B+2→some b≠u.ownBlock:=fun b hb e=>by have:=(hlt b e.symm).1;omega
 refine ⟨⟨hbel.size,fun b o hb ho=>?_⟩,hbel,_,_,fun b=>T b∨NewC W W3 b,Below.trans (B:=w.heap.size) h1 (by rw [hB];exact hbel),(hold B h2.lt (by omega) (hnu B (by omega))).trans h2,hL.var,hL.row,?_,?_⟩
 ·rw [hold b (ga hb).1 (fun e=>?_) (fun e=>?_)]
  ·exact hb
  ·subst e
   have h3':W.heap[B+1]?=some (.cells (nc ⟨#[]⟩ v m u) 30 (0,0)):=h3
   rw [h3'] at hb
   cases hb
   cases ho
  ·obtain ⟨_,q | ⟨g',cap',cur,hv,_,hh,_⟩⟩:=h4
   ·rw [q.1] at e;cases e
   ·rw [hv] at e
    obtain rfl:b=g':=by simpa [Value.ownBlock] using e
    rw [hh] at hb
    cases hb
    cases ho
 ·refine jx.snoc (hk.keep fun b hb=>⟨?_,.inr hb⟩) (h6.keep fun b hb=>⟨?_,.inl hb⟩)
  ·obtain ⟨h8,o,ho,hoc⟩:=hb
   exact hsame b (ga ho).1 (by omega) fun e=>by have:=(hlt b e.symm).2;omega
  ·obtain ⟨h8,⟨o,ho,hoc⟩,h9⟩:=h7 b hb
   exact hold b (ga ho).1 (by omega) h9
 ·rintro b (hb | hb)
  ·obtain ⟨h8,⟨o,ho,hoc⟩,h9⟩:=h7 b hb
   have hbl:=(ga ho).1
   refine ⟨h8,⟨o,(hold b hbl (by omega) h9).trans ho,hoc⟩,fun e=>?_⟩
   obtain rfl:b=g:=by simpa [Value.ownBlock] using e
   rcases hat with q | q
   ·exact h9 q.symm
   ·omega
  ·obtain ⟨h8,o,ho,hoc⟩:=hb
   have hbl:=(ga ho).1
   have hu:some b≠u.ownBlock:=fun e=>by have:=(hlt b e.symm).2;omega
   refine ⟨by omega,⟨o,(hsame b hbl (by omega) hu).trans ho,hoc⟩,fun e=>?_⟩
   obtain rfl:b=g:=by simpa [Value.ownBlock] using e
   rcases hat with q | q
   ·exact hu q.symm
   ·omega
theorem jU (g:Nat):∀ (vs:List Value) (o:Nat) (w:World) (b:Nat),b≠g→(w.setCells g o vs).heap[b]?=w.heap[b]?
 | [],_,_,_,_=>rfl
 | _::r,o,_,b,h=>(jU g r (o+1) _ b h).trans (Below.heap_setCell _ _ _ _ h)
theorem qo (g:Nat):∀ (vs:List Value) (o:Nat) (w:World),(w.setCells g o vs).heap.size=w.heap.size
 | [],_,_=>rfl
 | _::r,o,w=>(qo g r (o+1) _).trans (by simp)
theorem lI (xs zs cs:List Value) (o:Nat) (h1:xs.length=o) (h2:zs.length=cs.length):over (xs++zs) o cs=xs++cs:=by
 unfold over
 rw [List.take_append_of_le_length (by omega),List.take_of_length_le (by omega),List.drop_of_length_le (by simp;omega),List.append_nil]
theorem zd {w w':World} {base e size g n cap:Nat} {xs:List Value} (h:w.ownsRow base e size (.slice (some ⟨g,0,none⟩) n cap) n xs) (hb:w'.heap[g]?=w.heap[g]?):w'.ownsRow base e size (.slice (some ⟨g,0,none⟩) n cap) n xs:=by
 obtain ⟨hl,q | ⟨g',cap',cur,hv,h1,hh,hr⟩⟩:=h
 ·cases q.1
 ·injection hv with e1 e2 e3
  injection e1 with e1
  injection e1 with e1
  subst e1 e3
  exact ⟨hl,.inr ⟨g,cap,cur,rfl,h1,hb.trans hh,hr⟩⟩
theorem vr {Wa:World} {B g k cap:Nat} {v:Vd} {m:Md} {u:Value} {xs:List Value} {cn:Array Value} (ho:Wa.ownsRow (B+2) 30 41 (.slice (some ⟨g,0,none⟩) (k+1) cap) (k+1) (xs++z30.toList)) (hx:xs.length=k*41) (hv:Var Wa (B+1) (nc ⟨#[]⟩ v m u)) (hg:B+2≤g) (hc:cn.size=41):
  Left Wa ((Wa.setCells g (k*41) cn.toList).setCell ⟨B+1,40,none⟩ (.slice (some ⟨g,0,none⟩) (k+1) cap)) B g k v m (.slice (some ⟨g,0,none⟩) (k+1) cap) (xs++cn.toList):=by
 obtain ⟨r1,r2⟩:=kq cn.toList (k*41) Wa _ ho (by simp [jV,hx,hc])
 rw [lI _ _ _ _ hx (by simp [jV,hc])] at r1
 refine ⟨r2.os,r2.tape,r2.output,?_,fun b h1 h2=>?_,?_,zd r1 (Below.heap_setCell _ _ _ _ (by show g≠B+1;omega))⟩
 ·rw [World.size_setCell,qo]
 ·exact (Below.heap_setCell _ _ _ _ h1).trans (jU g _ _ _ _ h2)
 ·have h:=Var.setCell (w:=Wa.setCells g (k*41) cn.toList) ((jU g _ _ _ _ (by omega)).trans hv) 40 (.slice (some ⟨g,0,none⟩) (k+1) cap)
  rw [cM] at h
  exact h
theorem vt {Wa:World} {B g k cap:Nat} {v:Vd} {m:Md} {u:Value} {xs:List Value} {cn:Array Value} (ho:Wa.ownsRow (B+2) 30 41 (.slice (some ⟨g,0,none⟩) (k+1) cap) (k+1) (xs++z30.toList)) (hx:xs.length=k*41) (hv:Var Wa (B+1) (nc ⟨#[]⟩ v m u)) (hg:B+2≤g) (hc:cn.size=41):
  Left Wa ((Wa.setCell ⟨B+1,40,none⟩ (.slice (some ⟨g,0,none⟩) (k+1) cap)).setCells g (k*41) cn.toList) B g k v m (.slice (some ⟨g,0,none⟩) (k+1) cap) (xs++cn.toList):=by
 have ho2:(Wa.setCell ⟨B+1,40,none⟩ (.slice (some ⟨g,0,none⟩) (k+1) cap)).ownsRow (B+2) 30 41 (.slice (some ⟨g,0,none⟩) (k+1) cap) (k+1) (xs++z30.toList):=zd ho (Below.heap_setCell _ _ _ _ (by show g≠B+1;omega))
 obtain ⟨r1,r2⟩:=kq cn.toList (k*41) _ _ ho2 (by simp [jV,hx,hc])
 rw [lI _ _ _ _ hx (by simp [jV,hc])] at r1
 refine ⟨r2.os,r2.tape,r2.output,?_,fun b h1 h2=>?_,?_,r1⟩
 ·rw [qo,World.size_setCell]
 ·exact (jU g _ _ _ _ h2).trans (Below.heap_setCell _ _ _ _ h1)
 ·have h:=hv.setCell 40 (.slice (some ⟨g,0,none⟩) (k+1) cap)
  rw [cM] at h
  exact (jU g _ _ _ _ (by omega)).trans h
theorem NI.start {w Wz W4:World} {B p N:Nat} {v:Vd} {m:Md} (hB:w.heap.size=B) (hG:G w Wz) (hV0:Var Wz B z30) (hV1:Var Wz (B+1) (nc ⟨#[]⟩ v m (.slice none 0 0))) (how:W4.ownsRow (B+2) 30 41 (.slice (some ⟨B+2,0,none⟩) 0 N) 0 []) (hgr:Wz.grownBy W4 none):
  NI w B v m .nil 0 ((W4.setCell ⟨B+1,40,none⟩ (.slice (some ⟨B+2,0,none⟩) 0 N)).alloc (.cells #[.pointer (some ⟨p,0,none⟩)] 32)):=by
 have hs:=hG.size
 have hsg:=hgr.size
 have hl1:=hV1.lt
 have hlt:=(World.ownsRow.lt how (B+2) rfl).2
 have e1:Var W4 (B+1) (nc ⟨#[]⟩ v m (.slice none 0 0)):=(hgr.block _ hl1 (by simp)).trans hV1
 have e0:Var W4 B z30:=(hgr.block _ (by omega) (by simp)).trans hV0
 have hG4:G w W4:=Below.trans (B:=w.heap.size) hG ⟨hgr.os,hgr.tape,hgr.output,hgr.size,fun b hb=>hgr.block b (by omega) (by simp)⟩
 refine ⟨_,[],fun _=>False,?_,?_,?_,World.ownsRow.alloc (zd how (Below.heap_setCell _ _ _ _ (by show B+2≠B+1;omega))) _,rfl,fun b hb=>hb.elim⟩
 ·refine Below.trans (B:=w.heap.size) hG4 (Below.trans (b:=W4.setCell ⟨B+1,40,none⟩ (.slice (some ⟨B+2,0,none⟩) 0 N)) ⟨rfl,rfl,rfl,by simp,fun b hb=>Below.heap_setCell _ _ _ _ (by show b≠B+1;omega)⟩ ((Below.refl _ _).alloc (by simp;omega) _))
 ·exact (Below.heap_alloc _ _ _ (by simp;omega)).trans ((Below.heap_setCell _ _ _ _ (by show B≠B+1;omega)).trans e0)
 ·have h:=e1.setCell 40 (.slice (some ⟨B+2,0,none⟩) 0 N)
  rw [cM] at h
  exact (Below.heap_alloc _ _ _ (by simp;omega)).trans h
theorem yG {w:World} {base e size n:Nat} {u:Value} {xs:List Value} (h:w.ownsRow base e size u n xs):∃ ao uc,u=.slice ao n uc:=by
 obtain ⟨_,q | ⟨g,cap,cur,hv,_⟩⟩:=h
 ·obtain ⟨rfl,rfl⟩:=q;exact ⟨_,_,rfl⟩
 ·exact ⟨_,_,hv⟩
theorem iF {W W2 V:World} {D:Nat} {c2:Array Value} {v:Vd} {m:Md} {f:F} (hD:W2.heap.size=D) (hn:xr W2 (NewC W W2) c2 ⟨#[]⟩ v m f) (hg:G W W2) (hv:G W2 V∧Var V D c2∧V.heap.size=D+1) (nm:ByteArray):
  ∃ kv,G W (V.setCell ⟨D,0,none⟩ (.string nm)).drew∧Var (V.setCell ⟨D,0,none⟩ (.string nm)).drew D (nc nm v m kv)∧xG (V.setCell ⟨D,0,none⟩ (.string nm)).drew (NewC W (V.setCell ⟨D,0,none⟩ (.string nm)).drew) kv f∧(V.setCell ⟨D,0,none⟩ (.string nm)).drew.heap.size=D+1:=by
 obtain ⟨kv,rfl,hk⟩:=hn
 have hb:∀ b,b<D→(V.setCell ⟨D,0,none⟩ (.string nm)).drew.heap[b]?=W2.heap[b]?:=fun b hb=>(Below.heap_setCell _ _ _ _ (by show b≠D;omega)).trans (Below.block hv.1 b (by omega))
 have hs:=hg.size
 refine ⟨kv,?_,?_,hk.keep fun b hb'=>?_,?_⟩
 ·exact Below.trans (B:=W.heap.size) hg ⟨hv.1.os,hv.1.tape,hv.1.output,by have:=hv.1.size;show _≤(V.setCell ⟨D,0,none⟩ (.string nm)).heap.size;rw [World.size_setCell];exact this,fun b h=>hb b (by omega)⟩
 ·have h:=hv.2.1.setCell 0 (.string nm)
  rw [pG] at h
  exact h
 ·obtain ⟨h8,o,ho,hoc⟩:=hb'
  have hlt:=(ga ho).1
  exact ⟨hb b (by omega),h8,o,(hb b (by omega)).trans ho,hoc⟩
 ·show (V.setCell ⟨D,0,none⟩ (.string nm)).heap.size=D+1
  rw [World.size_setCell]
  exact hv.2.2
theorem qK {o:Oper} {a:Act} (x:Operand) (ho:o.op=.buildSlice 28 1 #[(0,x)]) (c:Array Value) (hx:a.eval x=.agg c) (hs:c.size=41) (w:World) (b:Nat) (hb:w.heap.size=b):
  (execOp a.eval o).run Tryz.prog w=.ok (.value (.slice (some ⟨b,0,none⟩) 1 1)) (w.alloc (.cells c 30)):=by
 subst hb;exact iO x ho c hx hs w
end Go.Proofs.YtjikkhbcbfpocaaGreatDoor
namespace Go.Proofs.YtjikkhbcbfpocaaGreatDoor
open Go.RowKit
def F.mp (fv:Vd→Vd) (fm:Md→Md):F→F
 | .nil=>.nil
 | .cons nm v m ks r=>.cons nm (fv v) (fm m) (F.mp fv fm ks) (F.mp fv fm r)
theorem F.mp_len (fv:Vd→Vd) (fm:Md→Md):∀ f:F,(f.mp fv fm).len=f.len
 | .nil=>rfl
 | .cons _ _ _ _ r=>by simp only [F.mp,F.len,F.mp_len fv fm r]
theorem F.mp_weight (fv:Vd→Vd) (fm:Md→Md):∀ f:F,(f.mp fv fm).weight=f.weight
 | .nil=>rfl
 | .cons _ _ _ k r=>by simp only [F.mp,F.weight,F.mp_weight fv fm k,F.mp_weight fv fm r]
theorem F.mp_drop (fv:Vd→Vd) (fm:Md→Md):∀ (f:F) (k:Nat),(f.mp fv fm).drop k=(f.drop k).mp fv fm
 | f,0=>by rw [F.drop_zero,F.drop_zero]
 | .nil,k+1=>rfl
 | .cons _ _ _ _ r,k+1=>by show (r.mp fv fm).drop k=_;rw [F.mp_drop fv fm r k];rfl
def MI (fv:Vd→Vd) (fm:Md→Md) (w:World) (B:Nat) (c:Array Value) (ks:F) (u:Value) (wr:World) (k:Nat):Prop:=
 G w wr∧Var wr B c∧Var wr (B+1) z30∧B+2≤wr.heap.size∧∃ (ys zs:List Value) (T:Nat→Prop),wr.ownsRow (B+2) 30 41 u ks.len (ys++zs)∧jx wr T ((ks.mp fv fm).take k) ys∧jx wr T (ks.drop k) zs∧ys.length=k*41∧∀ b,T b→B+2≤b∧UO wr b∧some b≠u.ownBlock
theorem MI.at {fv:Vd→Vd} {fm:Md→Md} {w:World} {B:Nat} {c:Array Value} {ks:F} {g N cap:Nat} {wr:World} {k:Nat} (h:MI fv fm w B c ks (.slice (some ⟨g,0,none⟩) N cap) wr k) {nm:ByteArray} {v:Vd} {m:Md} {ks1 r:F} (hd:ks.drop k=.cons nm v m ks1 r):
  ∃ c1,Lies wr g (k*41) c1∧c1.size=41∧HasN wr c1 nm v m ks1:=by
 obtain ⟨_,_,_,_,ys,zs,T,ho,_,hz,hy,_⟩:=h
 rw [hd] at hz
 obtain ⟨kv,zs',rfl,hs,_⟩:=hz
 refine ⟨nc nm v m kv,fun j x hj=>?_,jO ..,kv,rfl,hs.has⟩
 have hlt:=(ga hj).1
 rw [jO] at hlt
 have:=ho.cells (g:=g) rfl (k*41+j) x (by
  rw [List.getElem?_append_right (by omega),hy,show k*41+j-k*41=j by omega,List.getElem?_append_left (by simp [jO];omega)]
  simpa using hj)
 rwa [Addr.add_mid,Nat.zero_add] at this
theorem rz (ys a b zs:List Value) (h:a.length=b.length):over (ys++(a++zs)) ys.length b=ys++b++zs:=by
 unfold over
 rw [List.take_append_of_le_length (Nat.le_refl _),List.take_length,List.drop_append,List.drop_of_length_le (l:=ys) (by omega),show ys.length+b.length-ys.length=b.length by omega,List.drop_append,List.drop_of_length_le (l:=a) (by omega),h]
 simp
theorem MI.step {fv:Vd→Vd} {fm:Md→Md} {w:World} {B:Nat} {c:Array Value} {ks:F} {g N cap:Nat} {wr w2 w3:World} {k:Nat} (h:MI fv fm w B c ks (.slice (some ⟨g,0,none⟩) N cap) wr k) {nm:ByteArray} {v:Vd} {m:Md} {ks1 r:F} (hd:ks.drop k=.cons nm v m ks1 r)
  {W:World} (hW:G wr W) {c1:Array Value} (hn:xr w2 (New W w2) c1 nm (fv v) (fm m) (ks1.mp fv fm)) (hg:G W w2) (hg3:G w2 w3) (hwB:w.heap.size=B) (hN:ks.len=N):
  w3.there g (k*41) 41∧MI fv fm w B c ks (.slice (some ⟨g,0,none⟩) N cap) (w3.setCells g (k*41) c1.toList) (k+1):=by
 obtain ⟨h1,h2,h3,h4,ys,zs,T,ho,hy,hz,hyl,hT⟩:=h
 subst hN
 rw [hd] at hz
 obtain ⟨kv,zs',rfl,hs,hz'⟩:=hz
 obtain ⟨kv2,rfl,hk2⟩:=hn
 have hG:=(hW.trans hg).trans hg3
 have ho3:=dA ho hG
 have hgb:=(World.ownsRow.lt ho g rfl)
 have hs1:=hW.size
 have hs2:=hg.size
 have hs3:=hg3.size
 have hl:(nc nm v m kv).toList.length=41:=by simp [jO]
 have hl2:(nc nm (fv v) (fm m) kv2).toList.length=41:=by simp [jO]
 have hle:k*41+41≤(ys++((nc nm v m kv).toList++zs')).length:=by rw [List.length_append,List.length_append,hl,hyl];omega
 have hst:=kq (nc nm (fv v) (fm m) kv2).toList (k*41) w3 _ ho3 (by rw [hl2];exact hle)
 rw [← hyl,rz _ _ _ _ (by rw [hl,hl2])] at hst
 rw [hyl] at hst
 have hoth:∀ b,b≠g→(w3.setCells g (k*41) (nc nm (fv v) (fm m) kv2).toList).heap[b]?=w3.heap[b]?:=fun b hb=>jU g _ _ _ b hb
 have hsz:=hst.2.size
 refine ⟨aK ho3 _ _ hle,?_,(hoth B (by omega)).trans (h2.grow hG),(hoth (B+1) (by omega)).trans (h3.grow hG),by omega,ys++(nc nm (fv v) (fm m) kv2).toList,zs',fun b=>T b∨New W w2 b,hst.1,?_,?_,by rw [List.length_append,hyl,hl2];omega,?_⟩
 ·exact Below.trans (B:=w.heap.size) (h1.trans hG) ((Below.refl _ _).grown hst.2 (by have:=h1.size;omega) fun x hx=>by injection hx with hx;omega)
 ·have hdm:(ks.mp fv fm).drop k=.cons nm (fv v) (fm m) (ks1.mp fv fm) (r.mp fv fm):=by rw [F.mp_drop,hd];rfl
  rw [F.zE _ k nm _ _ _ _ hdm]
  refine jx.snoc (hk2.keep fun b hb=>⟨?_,.inr hb⟩) (hy.keep fun b hb=>⟨?_,.inl hb⟩)
  ·rw [hoth b (by have:=hb.1;omega)]
   exact Below.block hg3 b hb.2.lt
  ·have:=hT b hb
   rw [hoth b (fun e=>this.2.2 (by rw [e];rfl))]
   exact Below.block hG b this.2.1.lt
 ·have hdr:ks.drop (k+1)=r:=by
   have hlen:k<ks.len:=by
    have:=congrArg F.len hd
    rw [F.yk,F.len] at this
    omega
   obtain ⟨_,_,_,_,e⟩:=F.xO ks k hlen
   rw [hd] at e
   injection e with _ _ _ _ e
   exact e.symm
  rw [hdr]
  refine hz'.keep fun b hb=>⟨?_,.inl hb⟩
  have:=hT b hb
  rw [hoth b (fun e=>this.2.2 (by rw [e];rfl))]
  exact Below.block hG b this.2.1.lt
 ·rintro b (hb | hb)
  ·have:=hT b hb
   exact ⟨this.1,this.2.1.same ((hoth b (fun e=>this.2.2 (by rw [e];rfl))).trans (Below.block hG b this.2.1.lt)),this.2.2⟩
  ·have q1:=hb.1
   have q2:=hb.2.lt
   exact ⟨by omega,hb.2.same ((hoth b (by omega)).trans (Below.block hg3 b q2)),fun e=>by have e:some b=some g:=e;injection e with e;omega⟩
theorem MI.fin {fv:Vd→Vd} {fm:Md→Md} {w:World} {B:Nat} {c:Array Value} {ks:F} {u:Value} {wr:World} (h:MI fv fm w B c ks u wr ks.len):xG wr (fun b=>B+2≤b∧UO wr b) u (ks.mp fv fm):=by
 obtain ⟨h1,h2,h3,h4,ys,zs,T,ho,hy,hz,hyl,hT⟩:=h
 rw [F.xP _ _ (by rw [F.mp_len];exact Nat.le_refl _)] at hy
 have hzn:zs=[]:=by
  have e:ks.drop ks.len=.nil:=by
   cases hq:ks.drop ks.len with
   | nil=>rfl
   | cons a b c d e=>
    have:=congrArg F.len hq
    rw [F.yk,F.len] at this
    omega
  rw [e] at hz
  exact hz
 subst hzn
 rw [List.append_nil] at ho
 exact jx.slice (lo:=B+2) (hy.keep fun b hb=>⟨rfl,(hT b hb).1,(hT b hb).2.1⟩) (by rw [F.mp_len];exact ho) (fun g hg=>ti ho g hg)
end Go.Proofs.YtjikkhbcbfpocaaGreatDoor
