import Derived.Below
import Derived.Maps.AppendAt
namespace Go.Proofs.YthfcanpkhjgomaaGreat.Ch.Bk
open Go Go.RowKit
abbrev nil0:Value:=.slice none 0 0
def up (T:Nat→Nat) (n t:Nat):Nat→Nat:=fun b=>if b=n then t else T b
theorem up_old {T:Nat→Nat} {n t b:Nat} (h:b<n):up T n t b=T b:=by simp [up,Nat.ne_of_lt h]
theorem up_new {T:Nat→Nat} {n t:Nat}:up T n t n=t:=by simp [up]
theorem cellB {w w':World} {R o:Nat} {x:Value} (h:w'.heap[R]?=w.heap[R]?) (hc:w.cell? ⟨R,o,none⟩=some x):w'.cell? ⟨R,o,none⟩=some x:=by
 simp only [World.cell?,h] at hc ⊢
 exact hc
theorem frozenB {w w':World} {R:Nat} (h:w'.heap[R]?=w.heap[R]?) (hf:∀ o,w.frozen? ⟨R,o,none⟩=false):∀ o,w'.frozen? ⟨R,o,none⟩=false:=by
 intro o
 have:=hf o
 simp only [World.frozen?,h] at this ⊢
 exact this
theorem setB {w:World} {R o b:Nat} {x:Value} (h:b≠R):(w.setCell ⟨R,o,none⟩ x).heap[b]?=w.heap[b]?:=by
 simp only [World.setCell]
 rw [Array.getElem?_modify]
 simp [Ne.symm h]
theorem sizeS (w:World) (a:Addr) (x:Value):(w.setCell a x).heap.size=w.heap.size:=by simp [World.setCell]
theorem frozenS {w:World} {R r:Nat} {x:Value} (hf:∀ o,w.frozen? ⟨R,o,none⟩=false):∀ o,(w.setCell ⟨R,r,none⟩ x).frozen? ⟨R,o,none⟩=false:=by
 intro o
 have h:=hf o
 simp only [World.frozen?,World.setCell,Array.getElem?_modify,if_true] at h ⊢
 cases hh:w.heap[R]? with
 | none=>simp
 | some y=>
  rw [hh] at h
  cases y<;>simp_all
theorem rowB {w w':World} {lo e n s:Nat} {v:Value} {xs:List Value} (h:w.ownsRow lo e s v n xs) (hb:∀ k,v.ownBlock=some k→w'.heap[k]?=w.heap[k]?):w'.ownsRow lo e s v n xs:=by
 obtain ⟨h1,h | ⟨g,cap,cur,hv,hg,hh,hr⟩⟩:=h
 ·exact ⟨h1,.inl h⟩
 ·subst hv
  exact ⟨h1,.inr ⟨g,cap,cur,rfl,hg,(hb g rfl).trans hh,hr⟩⟩
structure Frm (T:Nat→Nat) (S:Nat→Prop) (w w':World):Prop where
 os:w'.os=w.os
 tape:w'.tape=w.tape
 output:w'.output=w.output
 size:w.heap.size≤w'.heap.size
 block:∀ b,b<w.heap.size→¬ S (T b)→w'.heap[b]?=w.heap[b]?
theorem Frm.refl (T:Nat→Nat) (S:Nat→Prop) (w:World):Frm T S w w:=⟨rfl,rfl,rfl,Nat.le_refl _,fun _ _ _=>rfl⟩
theorem Frm.trans {T T':Nat→Nat} {S S':Nat→Prop} {a b c:World} (h:Frm T S a b) (k:Frm T' S' b c) (hT:∀ x,x<a.heap.size→S' (T' x)→S (T x)):Frm T S a c:=
 ⟨k.os.trans h.os,k.tape.trans h.tape,k.output.trans h.output,Nat.le_trans h.size k.size,fun x hx hS=>
  (k.block x (Nat.lt_of_lt_of_le hx h.size) (fun e=>hS (hT x hx e))).trans (h.block x hx hS)⟩
theorem Frm.mono {T T':Nat→Nat} {S S':Nat→Prop} {a b:World} (h:Frm T S a b) (hS:∀ x,x<a.heap.size→S (T x)→S' (T' x)):Frm T' S' a b:=
 ⟨h.os,h.tape,h.output,h.size,fun x hx hn=>h.block x hx (fun e=>hn (hS x hx e))⟩
theorem Frm.of_below {T:Nat→Nat} {S:Nat→Prop} {a b:World} (h:Below a.heap.size a b):Frm T S a b:=⟨h.os,h.tape,h.output,h.size,fun x hx _=>h.block x hx⟩
theorem Frm.below {T:Nat→Nat} {S:Nat→Prop} {a b:World} {lo:Nat} (h:Frm T S a b) (hl:∀ x,x<lo→x<a.heap.size∧¬ S (T x)):Below lo a b:=
 ⟨h.os,h.tape,h.output,h.size,fun x hx=>h.block x (hl x hx).1 (hl x hx).2⟩
theorem Frm.set {T:Nat→Nat} {w:World} {K o:Nat} (x:Value):Frm T (fun t=>t=T K) w (w.setCell ⟨K,o,none⟩ x):=
 ⟨rfl,rfl,rfl,by rw [sizeS];exact Nat.le_refl _,fun b _ hb=>setB (fun e=>hb (by rw [e]))⟩
structure Rows (B:Nat) (ty:Nat→TypeId) (w:World) (lo K:Nat) (T:Nat→Nat) (hs:List Value) (X:List (List Value)) (z:Nat→Value):Prop where
 ge:lo≤K
 lt:K<w.heap.size
 low:∀ b,b<lo→T b=0
 tK:T K=1
 fz:∀ o,w.frozen? ⟨K,o,none⟩=false
 nh:hs.length=8
 nX:X.length=8
 cell:∀ j,j<8→w.cell? ⟨K,B+j,none⟩=some (hs.getD j nil0)
 row:∀ j,j<8→w.ownsRow lo (ty j) 1 (hs.getD j nil0) (X.getD j []).length (X.getD j [])
 tag:∀ j,j<8→∀ b,(hs.getD j nil0).ownBlock=some b→T b=2+j
 rest:∀ o,o<148→(o<B∨B+8≤o)→w.cell? ⟨K,o,none⟩=some (z o)
section
variable {B:Nat} {ty:Nat→TypeId} {w:World} {lo K:Nat} {T:Nat→Nat} {hs:List Value} {X:List (List Value)} {z:Nat→Value}
theorem Rows.keep (R:Rows B ty w lo K T hs X z) {w':World} (hsz:w.heap.size≤w'.heap.size) (h:∀ b,b<w.heap.size→1≤T b→T b≤9→w'.heap[b]?=w.heap[b]?):Rows B ty w' lo K T hs X z:=by
 have hK:=h K R.lt (by rw [R.tK];omega) (by rw [R.tK];omega)
 refine ⟨R.ge,Nat.lt_of_lt_of_le R.lt hsz,R.low,R.tK,frozenB hK R.fz,R.nh,R.nX,fun j hj=>cellB hK (R.cell j hj),fun j hj=>rowB (R.row j hj) fun k hk=>?_,R.tag,fun o h1 h2=>cellB hK (R.rest o h1 h2)⟩
 have ht:=R.tag j hj k hk
 exact h k ((R.row j hj).lt k hk).2 (by omega) (by omega)
theorem Rows.retag (R:Rows B ty w lo K T hs X z) {T':Nat→Nat} (hK:T' K=1) (hlow:∀ b,b<lo→T' b=0) (h:∀ j,j<8→∀ b,b<w.heap.size→(hs.getD j nil0).ownBlock=some b→T' b=2+j):Rows B ty w lo K T' hs X z:=
 ⟨R.ge,R.lt,hlow,hK,R.fz,R.nh,R.nX,R.cell,R.row,fun j hj b hb=>h j hj b ((R.row j hj).lt b hb).2 hb,R.rest⟩
theorem Rows.ext (R:Rows B ty w lo K T hs X z) {T':Nat→Nat} (h:∀ b,b<w.heap.size→T' b=T b):Rows B ty w lo K T' hs X z:=
 R.retag (by rw [h K R.lt];exact R.tK) (fun b hb=>by rw [h b (by have:=R.ge;have:=R.lt;omega)];exact R.low b hb) fun j hj b hb he=>by rw [h b hb];exact R.tag j hj b he
theorem Rows.put (R:Rows B ty w lo K T hs X z) (o:Nat) (ho:o<B∨B+8≤o) (ho2:o<148) (x:Value):Rows B ty (w.setCell ⟨K,o,none⟩ x) lo K T hs X (fun i=>if i=o then x else z i):=by
 refine ⟨R.ge,by rw [sizeS];exact R.lt,R.low,R.tK,frozenS R.fz,R.nh,R.nX,fun j hj=>?_,fun j hj=>rowB (R.row j hj) fun k hk=>setB (fun e=>?_),R.tag,fun i h1 h2=>?_⟩
 ·exact (World.cell?_setCell_other _ _ _ _ (by simp;omega)).trans (R.cell j hj)
 ·have:=R.tag j hj k hk
  have h1:=R.tK
  rw [e] at this;omega
 ·by_cases e:i=o
  ·subst e
   simp only [if_true]
   exact World.cell?_setCell_same _ _ _ (R.rest i h1 h2)
  ·simp only [if_neg e]
   exact (World.cell?_setCell_other _ _ _ _ (by simp;omega)).trans (R.rest i h1 h2)
theorem qM {α:Type} (l:List α) (j i:Nat) (v d:α) (hj:j<l.length):(l.set j v).getD i d=if i=j then v else l.getD i d:=by
 by_cases e:i=j
 ·subst e;simp [List.getD,hj]
 ·simp [List.getD,e,Ne.symm e]
theorem Rows.grow (R:Rows B ty w lo K T hs X z) {j:Nat} (hj:j<8) {w1 w2:World} {v':Value} {xs':List Value} (hb:Below w.heap.size w w1)
  (ho:w2.ownsRow lo (ty j) 1 v' xs'.length xs') (hg:w1.grownBy w2 (hs.getD j nil0).ownBlock) (hat:v'.ownBlock=(hs.getD j nil0).ownBlock∨v'.ownBlock=some w1.heap.size):
  Rows B ty (w2.setCell ⟨K,B+j,none⟩ v') lo K (up T w1.heap.size (2+j)) (hs.set j v') (X.set j xs') z∧Frm T (fun t=>t=1∨t=2+j) w (w2.setCell ⟨K,B+j,none⟩ v'):=by
 have s1:=hb.size
 have s2:=hg.size
 have hKlt:=R.lt
 have tj:=R.tag j hj
 have hKj:(hs.getD j nil0).ownBlock≠some K:=fun e=>by have h1:=tj K e;have h2:=R.tK;omega
 have hK2:w2.heap[K]?=w.heap[K]?:=(hg.block K (by omega) (fun e=>hKj e.symm)).trans (hb.block K hKlt)
 have old:∀ b,b<w.heap.size→(hs.getD j nil0).ownBlock≠some b→b≠K→(w2.setCell ⟨K,B+j,none⟩ v').heap[b]?=w.heap[b]?:=fun b h1 h2 h3=>
  (setB h3).trans ((hg.block b (by omega) (fun e=>h2 e.symm)).trans (hb.block b h1))
 have T1:∀ b,b<w.heap.size→up T w1.heap.size (2+j) b=T b:=fun b h=>up_old (by omega)
 refine ⟨⟨R.ge,by rw [sizeS];omega,fun b h=>?_,by rw [T1 K hKlt];exact R.tK,frozenS (frozenB hK2 R.fz),by simp [R.nh],by simp [R.nX],fun i hi=>?_,fun i hi=>?_,fun i hi b he=>?_,fun o h1 h2=>?_⟩,⟨hg.os.trans hb.os,hg.tape.trans hb.tape,hg.output.trans hb.output,by rw [sizeS];omega,fun b h hn=>?_⟩⟩
 ·rw [T1 b (by have:=R.ge;omega)];exact R.low b h
 ·rw [qM _ _ _ _ _ (by rw [R.nh];exact hj)]
  by_cases e:i=j
  ·subst e
   simp only [if_true]
   exact World.cell?_setCell_same _ _ _ (cellB hK2 (R.cell i hi))
  ·simp only [if_neg e]
   exact (World.cell?_setCell_other _ _ _ _ (by simp;omega)).trans (cellB hK2 (R.cell i hi))
 ·rw [qM _ _ _ _ _ (by rw [R.nh];exact hj),qM _ _ _ _ _ (by rw [R.nX];exact hj)]
  by_cases e:i=j
  ·subst e
   simp only [if_true]
   refine rowB ho fun k hk=>setB fun e=>?_
   subst e
   rcases hat with h | h
   ·exact hKj (h ▸ hk)
   ·rw [hk] at h;simp at h;omega
  ·simp only [if_neg e]
   refine rowB (R.row i hi) fun k hk=>old k ((R.row i hi).lt k hk).2 (fun h=>?_) (fun h=>?_)
   ·have:=tj k h;have:=R.tag i hi k hk;omega
   ·subst h
    have h1:=R.tag i hi k hk;have h2:=R.tK;omega
 ·rw [qM _ _ _ _ _ (by rw [R.nh];exact hj)] at he
  by_cases e:i=j
  ·subst e
   simp only [if_true] at he
   rcases hat with h | h
   ·rw [h] at he
    rw [T1 b ((R.row i hi).lt b he).2]
    exact tj b he
   ·rw [he] at h
    simp at h
    rw [h];exact up_new
  ·simp only [if_neg e] at he
   rw [T1 b ((R.row i hi).lt b he).2]
   exact R.tag i hi b he
 ·exact (World.cell?_setCell_other _ _ _ _ (by simp;omega)).trans (cellB hK2 (R.rest o h1 h2))
 ·refine old b h (fun e=>hn (.inr (tj b e))) (fun e=>hn (.inl (by rw [e];exact R.tK)))
theorem Rows.clear (R:Rows B ty w lo K T hs X z) {j:Nat} (hj:j<8):Rows B ty (w.setCell ⟨K,B+j,none⟩ nil0) lo K T (hs.set j nil0) (X.set j []) z:=by
 refine ⟨R.ge,by rw [sizeS];exact R.lt,R.low,R.tK,frozenS R.fz,by simp [R.nh],by simp [R.nX],fun i hi=>?_,fun i hi=>?_,fun i hi b he=>?_,fun o h1 h2=>?_⟩
 ·rw [qM _ _ _ _ _ (by rw [R.nh];exact hj)]
  by_cases e:i=j
  ·subst e
   simp only [if_true]
   exact World.cell?_setCell_same _ _ _ (R.cell i hi)
  ·simp only [if_neg e]
   exact (World.cell?_setCell_other _ _ _ _ (by simp;omega)).trans (R.cell i hi)
 ·rw [qM _ _ _ _ _ (by rw [R.nh];exact hj),qM _ _ _ _ _ (by rw [R.nX];exact hj)]
  by_cases e:i=j
  ·simp only [if_pos e]
   exact World.ownsRow_nil _ _ _ _
  ·simp only [if_neg e]
   refine rowB (R.row i hi) fun k hk=>setB fun h=>?_
   subst h
   have h1:=R.tag i hi k hk;have h2:=R.tK;omega
 ·rw [qM _ _ _ _ _ (by rw [R.nh];exact hj)] at he
  by_cases e:i=j
  ·simp only [if_pos e] at he
   simp [Value.ownBlock] at he
  ·simp only [if_neg e] at he
   exact R.tag i hi b he
 ·exact (World.cell?_setCell_other _ _ _ _ (by simp;omega)).trans (R.rest o h1 h2)
end
def Tg (w:World) (T:Nat→Nat) (v:Value) (t:Nat):Prop:=∀ b,v.ownBlock=some b→b<w.heap.size∧T b=t
def HasV (w:World) (v:Value) (n:Nat) (l:List Value):Prop:=
 (v=nil0∧n=0)∨∃ g cap,v=.slice (some ⟨g,0,none⟩) n cap∧n≤cap∧∀ i u,l[i]?=some u→w.cell? ⟨g,i,none⟩=some u
theorem add0 (g j:Nat):(⟨g,0,none⟩:Addr).add j=⟨g,j,none⟩:=by rw [Addr.add_lit,Nat.zero_add]
theorem HasV.block {w w':World} {v:Value} {n:Nat} {l:List Value} (h:HasV w v n l) (hb:∀ b,v.ownBlock=some b→w'.heap[b]?=w.heap[b]?):HasV w' v n l:=by
 rcases h with h | ⟨g,cap,rfl,hc,h⟩
 ·exact .inl h
 ·exact .inr ⟨g,cap,rfl,hc,fun i u hi=>cellB (hb _ rfl) (h i u hi)⟩
theorem HasV.of_row {w:World} {lo e s n:Nat} {v:Value} {xs:List Value} (h:w.ownsRow lo e s v n xs):HasV w v n xs:=by
 have h0:=h
 obtain ⟨h1,h | ⟨g,cap,cur,hv,hg,hh,hn,hr⟩⟩:=h
 ·exact .inl h
 ·subst hv
  exact .inr ⟨g,cap,rfl,hn,fun i u hi=>by have:=World.ownsRow.cells h0 (g:=g) rfl i u hi;rwa [add0] at this⟩
structure Lst (α:Type) where
 v:Value
 c:List α
 nv:Value
 mark:Nat
 due:Nat
 id:Nat
structure Ot (α:Type) where
 v:Value
 tv:Value
 c:List α
 tag:Nat
section
variable {α:Type}
def Lst.own (en:List α→List Value) (e:TypeId) (w:World) (lo:Nat) (T:Nat→Nat) (x:Lst α):Prop:=
 w.ownsRow lo e 71 x.v x.c.length (en x.c)∧Tg w T x.v (11+x.id)∧x.c.length≤1000000∧x.mark≤100000000
def Lst.ok (en:List α→List Value) (e:TypeId) (w:World) (lo:Nat) (T:Nat→Nat) (x:Lst α):Prop:=
 x.own en e w lo T∧w.ownsRow lo e 71 x.nv x.c.length (en x.c)∧Tg w T x.nv 10∧x.due≤100000000
def Ot.ok (en:List α→List Value) (w:World) (T:Nat→Nat) (x:Ot α):Prop:=
 HasV w x.v x.c.length (en x.c)∧HasV w x.tv x.c.length (en x.c)∧Tg w T x.v x.tag∧Tg w T x.tv 10∧10≤x.tag∧x.c.length≤1048576
structure Kp (en:List α→List Value) (e:TypeId) (w:World) (lo:Nat) (T:Nat→Nat) (ws:List (Lst α)) (os:List (Ot α)) (fr rs:List (Lst α)) (olds:List (Value × TypeId × List Value)):Prop where
 waits:∀ x∈ws,x.ok en e w lo T
 outs:∀ x∈os,x.ok en w T
 fresh:∀ x∈fr,x.own en e w lo T
 rests:∀ x∈rs,x.ok en e w lo T
 elder:∀ x∈olds,w.ownsRow lo x.2.1 1 x.1 x.2.2.length x.2.2∧Tg w T x.1 10
 ids:((ws++rs).map Lst.id++fr.map Lst.id).Nodup
 apart:∀ x∈os,∀ y∈ws++rs,x.tag≠11+y.id
 link:∀ x∈os,∀ y∈fr,x.tag=11+y.id→x.v=y.v∧x.c=y.c
theorem Tg.same {T:Nat→Nat} {S:Nat→Prop} {w w':World} {v:Value} {t:Nat} (h:Tg w T v t) (F:Frm T S w w') (hS:¬ S t):∀ b,v.ownBlock=some b→w'.heap[b]?=w.heap[b]?:=fun b hb=>
 F.block b (h b hb).1 (by rw [(h b hb).2];exact hS)
end
end Go.Proofs.YthfcanpkhjgomaaGreat.Ch.Bk
