import Derived.Test.YtjikkhbcbfpocaaGreatDoorYK
set_option maxRecDepth 100000
set_option maxHeartbeats 8000000
namespace Go.Proofs.YtjikkhbcbfpocaaGreatDoor
open Go.RowKit Go.Shelf
structure GI (w:World) (B:Nat) (q:ByteArray) (Y:Value) (L:List ByteArray) (fs:F) (W:World) (un ut:Value) (xs:List Value) (T:Nat→Prop):Prop where
 g:G w W
 b0:W.heap[B]?=some (.cells #[.string q] 9 (0,0))
 b1:W.heap[B+1]?=some (.cells #[Y] 146 (0,0))
 vn:W.heap[B+3]?=some (.cells #[un] 106 (0,0))
 vt:W.heap[B+5]?=some (.cells #[ut] 28 (0,0))
 on:W.ownsRow (B+2) 9 1 un L.length (L.map Value.string)
 ot:W.ownsRow (B+2) 30 41 ut fs.len xs
 rc:ja W T fs xs
 tt:∀ b,T b→B+2≤b∧(∃ o:Obj,W.heap[b]?=some o∧zI o=true)∧some b≠ut.ownBlock∧some b≠un.ownBlock∧b≠B+3∧b≠B+5
theorem ky {w:World} {lo e size n:Nat} {u:Value} {xs:List Value} (h:w.ownsRow lo e size u n xs) {g:Nat} (hg:u.ownBlock=some g):lo≤g∧g<w.heap.size∧∃ cur,w.heap[g]?=some (.cells cur e (0,0)):=by
 have hl:=World.ownsRow.lt h g hg
 obtain ⟨_,q | ⟨g',cap',cur,hv,_,hh,_⟩⟩:=h
 ·rw [q.1] at hg;cases hg
 ·rw [hv] at hg
  obtain rfl:g'=g:=by simpa [Value.ownBlock] using hg
  exact ⟨hl.1,hl.2,cur,hh⟩
section
variable {w W:World} {B:Nat} {q:ByteArray} {Y un ut:Value} {L:List ByteArray} {fs:F} {xs:List Value} {T:Nat→Prop}
theorem GI.un_ne (h:GI w B q Y L fs W un ut xs T) {g:Nat} (hg:un.ownBlock=some g):B+2≤g∧g<W.heap.size∧g≠B+3∧g≠B+5∧ut.ownBlock≠some g:=by
 obtain ⟨h1,h2,cur,h3⟩:=ky h.on hg
 refine ⟨h1,h2,fun e=>?_,fun e=>?_,fun e=>?_⟩
 ·rw [e,h.vn] at h3;cases h3
 ·rw [e,h.vt] at h3;cases h3
 ·obtain ⟨_,_,cur',h4⟩:=ky h.ot e
  rw [h3] at h4;cases h4
theorem GI.ut_ne (h:GI w B q Y L fs W un ut xs T) {g:Nat} (hg:ut.ownBlock=some g):B+2≤g∧g<W.heap.size∧g≠B+3∧g≠B+5∧un.ownBlock≠some g:=by
 obtain ⟨h1,h2,cur,h3⟩:=ky h.ot hg
 refine ⟨h1,h2,fun e=>?_,fun e=>?_,fun e=>?_⟩
 ·rw [e,h.vn] at h3;cases h3
 ·rw [e,h.vt] at h3;cases h3
 ·obtain ⟨_,_,cur',h4⟩:=ky h.on e
  rw [h3] at h4;cases h4
theorem GI.keep {W':World} (h:GI w B q Y L fs W un ut xs T) (hg:G w W') (hc:∀ (b:Nat) (o:Obj),W.heap[b]?=some o→zI o=true→W'.heap[b]?=W.heap[b]?):GI w B q Y L fs W' un ut xs T:=by
 refine ⟨hg,(hc _ _ h.b0 rfl).trans h.b0,(hc _ _ h.b1 rfl).trans h.b1,(hc _ _ h.vn rfl).trans h.vn,(hc _ _ h.vt rfl).trans h.vt,kB h.on fun g hg=>?_,kB h.ot fun g hg=>?_,ja.keep (fun b hb=>?_) h.rc,fun b hb=>?_⟩
 ·obtain ⟨_,_,cur,h3⟩:=ky h.on hg;exact hc _ _ h3 rfl
 ·obtain ⟨_,_,cur,h3⟩:=ky h.ot hg;exact hc _ _ h3 rfl
 ·obtain ⟨_,⟨o,ho,hoc⟩,_⟩:=h.tt b hb
  exact ⟨hc b o ho hoc,hb⟩
 ·obtain ⟨h8,⟨o,ho,hoc⟩,h9⟩:=h.tt b hb
  exact ⟨h8,⟨o,(hc b o ho hoc).trans ho,hoc⟩,h9⟩
theorem GI.grow {W':World} (h:GI w B q Y L fs W un ut xs T) (hg:G W W'):GI w B q Y L fs W' un ut xs T:=h.keep (h.g.trans hg) fun b _ ho _=>Below.block hg b (gS ho)
theorem GI.name {W1:World} {un':Value} {x:ByteArray} {o:Obj} (h:GI w B q Y L fs W un ut xs T) (hB:w.heap.size=B) (ho:W1.ownsRow (B+2) 9 1 un' (L.length+1) (L.map Value.string++[.string x])) (hg:(W.alloc o).grownBy W1 un.ownBlock) (hat:un'.ownBlock=un.ownBlock∨un'.ownBlock=some (W.alloc o).heap.size):
  GI w B q Y (L++[x]) fs (W1.setCell ⟨B+3,0,none⟩ un') un' ut xs T∧Below B W (W1.setCell ⟨B+3,0,none⟩ un')∧KeepsOthers W (W1.setCell ⟨B+3,0,none⟩ un'):=by
 have hs:=hg.size
 rw [World.size_alloc] at hs
 have hold:∀ b,b<W.heap.size→b≠B+3→some b≠un.ownBlock→(W1.setCell ⟨B+3,0,none⟩ un').heap[b]?=W.heap[b]?:=fun b hb h3 hu=>
  (Below.heap_setCell _ _ _ _ h3).trans ((hg.block b (by rw [World.size_alloc];omega) hu).trans (Below.heap_alloc W o b hb))
 have lt:∀ {b:Nat} {x:Obj},W.heap[b]?=some x→b<W.heap.size:=fun h=>(gS h)
 have hun:∀ b,un.ownBlock=some b→B+2≤b∧b≠B+5:=fun b hb=>⟨(h.un_ne hb).1,(h.un_ne hb).2.2.2.1⟩
 have hlo:∀ b,b<B+2→some b≠un.ownBlock:=fun b hb e=>by have:=(hun b e.symm).1;omega
 have hB3:=lt h.vn
 have hbel:Below B W (W1.setCell ⟨B+3,0,none⟩ un'):=⟨hg.os,hg.tape,hg.output,by rw [World.size_setCell];omega,fun b hb=>hold b (by have:=h.g.size;omega) (by omega) (hlo b (by omega))⟩
 have hun':∀ g,un'.ownBlock=some g→g≠B+3:=fun g hg'=>by
  rcases hat with e | e
  ·rw [e] at hg';exact (h.un_ne hg').2.2.1
  ·rw [e,World.size_alloc] at hg'
   injection hg' with hg'
   omega
 refine ⟨⟨Below.trans (B:=w.heap.size) h.g (by rw [hB];exact hbel),(hold B (lt h.b0) (by omega) (hlo B (by omega))).trans h.b0,(hold (B+1) (lt h.b1) (by omega) (hlo _ (by omega))).trans h.b1,?_,(hold (B+5) (lt h.vt) (by omega) (fun e=>(hun _ e.symm).2 rfl)).trans h.vt,?_,?_,?_,?_⟩,hbel,?_⟩
 ·have h1:W1.heap[B+3]?=some (.cells #[un] 106 (0,0)):=(hg.block (B+3) (by rw [World.size_alloc];omega) (fun e=>(h.un_ne e.symm).2.2.1 rfl)).trans ((Below.heap_alloc W o _ hB3).trans h.vn)
  unfold World.setCell
  simp only []
  rw [Array.getElem?_modify]
  simp [h1]
 ·rw [lA,List.length_singleton,List.map_append,List.map_singleton]
  exact kB ho fun g hg'=>Below.heap_setCell _ _ _ _ (hun' g hg')
 ·exact kB h.ot fun g hg'=>hold g (h.ut_ne hg').2.1 (h.ut_ne hg').2.2.1 fun e=>(h.ut_ne hg').2.2.2.2 e.symm
 ·exact ja.keep (fun b hb=>⟨by
   obtain ⟨h8,⟨ob,ho',hoc⟩,h9,h10,h11,h12⟩:=h.tt b hb
   exact hold b (lt ho') h11 h10,hb⟩) h.rc
 ·intro b hb
  obtain ⟨h8,⟨ob,ho',hoc⟩,h9,h10,h11,h12⟩:=h.tt b hb
  refine ⟨h8,⟨ob,(hold b (lt ho') h11 h10).trans ho',hoc⟩,h9,fun e=>?_,h11,h12⟩
  rcases hat with e2 | e2
  ·rw [e2] at e;exact h10 e
  ·rw [e2,World.size_alloc] at e
   injection e with e
   have:=lt ho'
   omega
 ·refine ⟨hbel.size,fun b ob hb hoc=>?_⟩
  rw [hold b (lt hb) (fun e=>?_) (fun e=>?_)]
  ·exact hb
  ·subst e
   rw [h.vn] at hb
   cases hb
   cases hoc
  ·obtain ⟨_,_,cur,h3⟩:=ky h.on e.symm
   rw [h3] at hb
   cases hb
   cases hoc
structure Lef (Wa Wz:World) (B g k:Nat) (u':Value) (ys:List Value):Prop where
 os:Wz.os=Wa.os
 tape:Wz.tape=Wa.tape
 output:Wz.output=Wa.output
 size:Wz.heap.size=Wa.heap.size
 block:∀ b,b≠B+5→b≠g→Wz.heap[b]?=Wa.heap[b]?
 var:Wz.heap[B+5]?=some (.cells #[u'] 28 (0,0))
 row:Wz.ownsRow (B+2) 30 41 u' (k+1) ys
theorem GI.told {W3 Wa Wz:World} {g cap:Nat} {v:Vd} {kv:Value} {ks:F} (h:GI w B q Y L fs W un ut xs T) (hB:w.heap.size=B) (hg3:G W W3) (hk:xA W3 (NewC W W3) kv ks) (hga:W3.grownBy Wa ut.ownBlock) (hat:ut.ownBlock=some g∨W3.heap.size≤g)
  (hL:Lef Wa Wz B g fs.len (.slice (some ⟨g,0,none⟩) (fs.len+1) cap) (xs++(nc ⟨#[]⟩ v Md.zero kv).toList)):
  GI w B q Y L (fs.app (.cons ⟨#[]⟩ v Md.zero ks .nil)) Wz un (.slice (some ⟨g,0,none⟩) (fs.len+1) cap) (xs++(nc ⟨#[]⟩ v Md.zero kv).toList) (fun b=>T b∨NewC W W3 b)∧Below B W Wz∧KeepsOthers W Wz:=by
 have lt:∀ {b:Nat} {x:Obj},W.heap[b]?=some x→b<W.heap.size:=fun h=>(gS h)
 have hs3:=hg3.size
 have hsa:=hga.size
 have hsame:∀ b,b<W3.heap.size→b≠B+5→some b≠ut.ownBlock→Wz.heap[b]?=W3.heap[b]?:=fun b hb hn hu=>by
  rw [hL.block b hn (fun e=>by
   rcases hat with q | q
   ·exact hu (by rw [e,q])
   ·omega)]
  exact hga.block b hb hu
 have hold:∀ b,b<W.heap.size→b≠B+5→some b≠ut.ownBlock→Wz.heap[b]?=W.heap[b]?:=fun b hb hn hu=>(hsame b (by omega) hn hu).trans (Below.block hg3 b hb)
 have hlo:∀ b,b<B+2→some b≠ut.ownBlock:=fun b hb e=>by have:=(h.ut_ne e.symm).1;omega
 have hsw:=h.g.size
 have hbel:Below B W Wz:=⟨by rw [hL.os,hga.os];exact hg3.os,by rw [hL.tape,hga.tape];exact hg3.tape,by rw [hL.output,hga.output];exact hg3.output,by rw [hL.size];omega,fun b hb=>hold b (by omega) (by omega) (hlo b (by omega))⟩
 have hlen:(fs.app (.cons ⟨#[]⟩ v Md.zero ks .nil)).len=fs.len+1:=by rw [F.aV];rfl
 refine ⟨⟨Below.trans (B:=w.heap.size) h.g (by rw [hB];exact hbel),(hold B (lt h.b0) (by omega) (hlo B (by omega))).trans h.b0,(hold (B+1) (lt h.b1) (by omega) (hlo _ (by omega))).trans h.b1,(hold (B+3) (lt h.vn) (by omega) (fun e=>(h.ut_ne e.symm).2.2.1 rfl)).trans h.vn,hL.var,?_,?_,?_,?_⟩,hbel,?_⟩
 ·exact kB h.on fun g' hg'=>hold g' (h.un_ne hg').2.1 (h.un_ne hg').2.2.2.1 fun e=>(h.un_ne hg').2.2.2.2 e.symm
 ·rw [hlen];exact hL.row
 ·refine ja.snoc (hk.keep fun b hb=>⟨?_,.inr hb⟩) (ja.keep (fun b hb=>⟨?_,.inl hb⟩) h.rc)
  ·obtain ⟨h8,o,ho,hoc⟩:=hb
   have hv5:=lt h.vt
   exact hsame b (gS ho) (by omega) fun e=>by have:=(h.ut_ne e.symm).2.1;omega
  ·obtain ⟨h8,⟨o,ho,hoc⟩,h9,h10,h11,h12⟩:=h.tt b hb
   exact hold b (lt ho) h12 h9
 ·have hgl:g≠B+3∧g≠B+5∧un.ownBlock≠some g:=by
   have h5:=lt h.vt
   rcases hat with e | e
   ·exact ⟨(h.ut_ne e).2.2.1,(h.ut_ne e).2.2.2.1,(h.ut_ne e).2.2.2.2⟩
   ·exact ⟨by have:=lt h.vn;omega,by omega,fun q=>by have:=(h.un_ne q).2.1;omega⟩
  rintro b (hb | hb)
  ·obtain ⟨h8,⟨o,ho,hoc⟩,h9,h10,h11,h12⟩:=h.tt b hb
   have hbl:=lt ho
   refine ⟨h8,⟨o,(hold b hbl h12 h9).trans ho,hoc⟩,fun e=>?_,h10,h11,h12⟩
   obtain rfl:b=g:=by simpa [Value.ownBlock] using e
   rcases hat with q | q
   ·exact h9 q.symm
   ·omega
  ·obtain ⟨h8,o,ho,hoc⟩:=hb
   have hbl:=(gS ho)
   have hv5:=lt h.vt
   have hv3:=lt h.vn
   have hu:some b≠ut.ownBlock:=fun e=>by have:=(h.ut_ne e.symm).2.1;omega
   refine ⟨by omega,⟨o,(hsame b hbl (by omega) hu).trans ho,hoc⟩,fun e=>?_,fun e=>by have:=(h.un_ne e.symm).2.1;omega,by omega,by omega⟩
   obtain rfl:b=g:=by simpa [Value.ownBlock] using e
   rcases hat with q | q
   ·exact hu q.symm
   ·omega
 ·refine ⟨hbel.size,fun b o hb ho=>?_⟩
  rw [hold b (lt hb) (fun e=>?_) (fun e=>?_)]
  ·exact hb
  ·subst e
   rw [h.vt] at hb
   cases hb
   cases ho
  ·obtain ⟨_,_,cur,h3⟩:=ky h.ot e.symm
   rw [h3] at hb
   cases hb
   cases ho
end
attribute [local go_sem] Oper.semAt_some
def xE:F→Prop
 | .nil=>True
 | .cons n _ _ k r=>kz (tl n)=true∧xE k∧xE r
def bel (p n:ByteArray):ByteArray:=if p.size=0 then n else p++⟨#[47]⟩++n
theorem lq {n:ByteArray} (h:kz (tl n)=true):1≤(tl n).length∧(tl n).length≤255:=by
 unfold kz at h
 rw [decide_eq_true_eq] at h
 exact ⟨h.1,h.2.1⟩
theorem pG (p n:ByteArray) (w:World) (hs:p.size+n.size≤1000000000):Calls Tryz.prog 152 #[.string p,.string n] w fun e w'=>e=.returned (.string (bel p n))∧w'=w:=by
 unfold bel
 by_cases h:p.size=0
 ·rw [if_pos h]
  have e:p.toList=[]:=List.length_eq_zero_iff.1 (by have:=qp p;unfold tl at this;omega)
  have b1:(p.toList==[])=true:=by simp [e]
  have b2:p.toList.isEmpty=true:=by simp [e]
  go_enter Tryz.func152,Tryz.ntmps152
  go_wp2
  go_ret
  exact ⟨rfl,rfl⟩
 ·rw [if_neg h]
  have e:¬ p.toList=[]:=fun e=>h (by have:=qp p;unfold tl at this;rw [e] at this;simpa using this.symm)
  have b1:(p.toList==[])=false:=by simpa using e
  have b2:p.toList.isEmpty=false:=by simpa using e
  have a1:¬ 9223372036854775807<p.size+1:=by omega
  have a2:¬ 9223372036854775807<p.size+1+n.size:=by omega
  go_enter Tryz.func152,Tryz.ntmps152
  go_wp2
  go_ret
  exact ⟨rfl,rfl⟩
theorem dd:∀ {l:List Kid},xE (kU l)→∀ x∈l,kz (tl x.nm)=true∧xE x.k.flat∧x.k.flat.depth+1≤(kU l).depth
 | [],_,x,h=>by cases h
 | z::l,⟨h1,h2,h3⟩,x,h=>by
  rcases List.mem_cons.1 h with h | h
  ·subst h
   exact ⟨h1,h2,by simp only [kU,F.depth];omega⟩
  ·obtain ⟨a,b,c⟩:=dd h3 x h
   exact ⟨a,b,by simp only [kU,F.depth];omega⟩
theorem sw {q n:ByteArray} (h:kz (tl n)=true):(bel q n).size≤q.size+256:=by
 have h2:=(lq h).2
 rw [qp] at h2
 unfold bel
 split
 ·omega
 ·rw [← qp,gk,gk,lA,lA,show tl (⟨#[47]⟩:ByteArray)=[47] from ur [47],qp,qp]
  simp
  omega
def tld (ver:Int):List Kid→F
 | []=>.nil
 | x::r=>.cons ⟨#[]⟩ (pv ver x.v) Md.zero (x.k.flat.mp (pv ver) noM) (tld ver r)
theorem pH (ver:Int):∀ a b:List Kid,tld ver (a++b)=(tld ver a).app (tld ver b)
 | [],_=>rfl
 | x::a,b=>by rw [List.cons_append,tld,tld,F.app,pH ver a b]
theorem lu (ver:Int):∀ l:List Kid,tld ver l=((kU l).mp (pv ver) noM).blank
 | []=>rfl
 | x::l=>by rw [tld,kU,F.mp,F.blank,lu ver l];rfl
theorem pI (ver:Int):∀ l:List Kid,(tld ver l).len=l.length
 | []=>rfl
 | x::l=>by rw [tld,F.len,lC,pI ver l]
theorem pJ:∀ l:List Kid,l.map (·.nm)=(kU l).nameL
 | []=>rfl
 | x::l=>by rw [List.map_cons,kU,F.nameL,pJ l]
def gfc (Bv:Nat):Value:=.func (.func 53) #[] #[.pointer (some ⟨Bv,0,none⟩)]
def yc (Bv:Nat):Value:=.func (.func 80) #[.agg #[gfc Bv]] #[]
def iV (ver:Int) (k:K):Prop:=∀ (p:Nat) (v:Vd) (m:Md) (q:ByteArray) (Bv:Nat) (w:World),AtT w p v m k→w.cell? ⟨Bv,0,none⟩=some (.int .i64 ver)→xE k.flat→q.size+256*k.flat.depth≤1000000→k.flat.size≤100000→
  Calls Tryz.prog 80 #[.agg #[gfc Bv],.string q,.pointer (some ⟨p,0,none⟩)] w fun e w'=>∃ c',e=.returned (.agg c')∧zL w' (NewC w w') c' ⟨#[]⟩ (pv ver v) Md.zero (k.flat.mp (pv ver) noM)∧G w w'
def lv (ver:Int) (k:K):Prop:=∀ (p:Nat) (v:Vd) (m:Md) (q:ByteArray) (Bv:Nat) (w:World),AtT w p v m k→w.cell? ⟨Bv,0,none⟩=some (.int .i64 ver)→xE k.flat→q.size+256*k.flat.depth≤1000000→k.flat.size≤100000→
  Calls Tryz.prog 116 #[.string q,.pointer (some ⟨p,0,none⟩),yc Bv] w fun e w'=>∃ un ut xs T,e=.returned (.tuple #[un,ut])∧G w w'∧jz w' (w.heap.size+2) un k.flat.nameL∧w'.ownsRow (w.heap.size+2) 30 41 ut k.flat.len xs∧ja w' T ((k.flat.mp (pv ver) noM).blank) xs∧(∀ b,T b→NewC w w' b∧some b≠ut.ownBlock)∧∀ g,ut.ownBlock=some g→NewC w w' g∧un.ownBlock≠some g
theorem GI.own {w:World} {B B5:Nat} {q:ByteArray} {Y:Value} {β:Type} (C:β→List ByteArray) (D:β→F) (hB:w.heap.size=B) (h5:B≤B5):OwnFrom B5 (fun (pre:β) W=>∃ un ut xs T,GI w B q Y (C pre) (D pre) W un ut xs T):=by
 intro s W W' row ⟨un,ut,xs,T,h⟩ hg hr
 have hc:∀ (b:Nat) (o:Obj),W.heap[b]?=some o→zI o=true→W'.heap[b]?=W.heap[b]?:=fun b o hb ho=>hg.block b (gS hb) fun e=>by
  obtain ⟨_,o',ho',hc'⟩:=hr b e.symm
  rw [hb] at ho'
  cases ho'
  rw [ax ho] at hc'
  cases hc'
 refine ⟨un,ut,xs,T,h.keep ?_ hc⟩
 exact Below.trans (B:=w.heap.size) h.g ⟨hg.os,hg.tape,hg.output,hg.size,fun b hb=>hg.block b (by have:=h.g.size;omega) fun e=>by have:=(hr b e.symm).1;omega⟩
theorem GI.start {w W0:World} {B N:Nat} {q:ByteArray} {Y:Value} {M9 M30:Array Value} (_hB:w.heap.size=B) (hg:G w W0) (hs:W0.heap.size=B+2) (h0:W0.heap[B]?=some (.cells #[.string q] 9 (0,0))) (h1:W0.heap[B+1]?=some (.cells #[Y] 146 (0,0))) (h9:M9.size=N*1) (h30:M30.size=N*41) (hN:N≤100000) (o:Obj):
  GI w B q Y [] .nil (((((W0.alloc (.cells M9 9)).alloc (.cells #[.slice (some ⟨B+2,0,none⟩) 0 N] 106)).alloc (.cells M30 30)).alloc (.cells #[.slice (some ⟨B+4,0,none⟩) 0 N] 28)).alloc o) (.slice (some ⟨B+2,0,none⟩) 0 N) (.slice (some ⟨B+4,0,none⟩) 0 N) [] (fun _=>False):=by
 have e2:∀ (W:World) (o:Obj),(W.alloc o).heap.size=W.heap.size+1:=fun W o=>World.size_alloc W o
 have r9:(W0.alloc (.cells M9 9)).ownsRow (B+2) 9 1 (.slice (some ⟨W0.heap.size,0,none⟩) 0 N) 0 []:=World.ownsRow_made W0 M9 N (by omega) (by unfold maxLen;omega) h9
 have r30:(((W0.alloc (.cells M9 9)).alloc (.cells #[.slice (some ⟨B+2,0,none⟩) 0 N] 106)).alloc (.cells M30 30)).ownsRow (B+2) 30 41 (.slice (some ⟨((W0.alloc (.cells M9 9)).alloc (.cells #[.slice (some ⟨B+2,0,none⟩) 0 N] 106)).heap.size,0,none⟩) 0 N) 0 []:=World.ownsRow_made _ M30 N (by rw [e2,e2];omega) (by unfold maxLen;omega) h30
 rw [hs] at r9
 rw [e2,e2,hs] at r30
 have n1:=World.alloc_heap_new (W0.alloc (.cells M9 9)) (.cells #[.slice (some ⟨B+2,0,none⟩) 0 N] 106)
 rw [e2,hs] at n1
 have n2:=World.alloc_heap_new (((W0.alloc (.cells M9 9)).alloc (.cells #[.slice (some ⟨B+2,0,none⟩) 0 N] 106)).alloc (.cells M30 30)) (.cells #[.slice (some ⟨B+4,0,none⟩) 0 N] 28)
 rw [e2,e2,e2,hs] at n2
 refine ⟨((((hg.trans (G.alloc _ _)).trans (G.alloc _ _)).trans (G.alloc _ _)).trans (G.alloc _ _)).trans (G.alloc _ _),?_,?_,?_,?_,World.ownsRow.alloc (World.ownsRow.alloc (World.ownsRow.alloc (World.ownsRow.alloc r9 _) _) _) _,World.ownsRow.alloc (World.ownsRow.alloc r30 _) _,rfl,fun b hb=>hb.elim⟩
 ·rw [Below.heap_alloc _ _ _ (by simp only [e2];omega),Below.heap_alloc _ _ _ (by simp only [e2];omega),Below.heap_alloc _ _ _ (by simp only [e2];omega),Below.heap_alloc _ _ _ (by simp only [e2];omega),Below.heap_alloc _ _ _ (by omega)];exact h0
 ·rw [Below.heap_alloc _ _ _ (by simp only [e2];omega),Below.heap_alloc _ _ _ (by simp only [e2];omega),Below.heap_alloc _ _ _ (by simp only [e2];omega),Below.heap_alloc _ _ _ (by simp only [e2];omega),Below.heap_alloc _ _ _ (by omega)];exact h1
 ·rw [Below.heap_alloc _ _ _ (by simp only [e2];omega),Below.heap_alloc _ _ _ (by simp only [e2];omega),Below.heap_alloc _ _ _ (by simp only [e2];omega)];exact n1
 ·rw [Below.heap_alloc _ _ _ (by simp only [e2];omega)];exact n2
theorem zT (f:Vd→Vd) (g:Md→Md):∀ k:F,((k.mp f g).blank).len=k.len
 | .nil=>rfl
 | .cons n v m ks r=>by rw [F.mp,F.blank,F.len,F.len,zT f g r]
section
variable {Wa:World} {B g k cap:Nat} {u:Value} {xs:List Value} {cn:Array Value}
theorem a0Z (ho:Wa.ownsRow (B+2) 30 41 (.slice (some ⟨g,0,none⟩) (k+1) cap) (k+1) (xs++z30.toList)) (hx:xs.length=k*41) (hv:Wa.heap[B+5]?=some (.cells #[u] 28 (0,0))) (hg:g≠B+5) (hc:cn.size=41):
  Lef Wa ((Wa.setCells g (k*41) cn.toList).setCell ⟨B+5,0,none⟩ (.slice (some ⟨g,0,none⟩) (k+1) cap)) B g k (.slice (some ⟨g,0,none⟩) (k+1) cap) (xs++cn.toList):=by
 obtain ⟨r1,r2⟩:=kP cn.toList (k*41) Wa _ ho (by simp [jN,hx,hc])
 rw [bV _ _ _ _ hx (by simp [jN,hc])] at r1
 refine ⟨r2.os,r2.tape,r2.output,?_,fun b h1 h2=>?_,?_,ke r1 (Below.heap_setCell _ _ _ _ (by show g≠B+5;omega))⟩
 ·rw [World.size_setCell,qZ]
 ·exact (Below.heap_setCell _ _ _ _ h1).trans (jV g _ _ _ _ h2)
 ·exact Boxed.set (W:=Wa.setCells g (k*41) cn.toList) _ ((jV g _ _ _ _ (Ne.symm hg)).trans hv)
theorem a0a (ho:Wa.ownsRow (B+2) 30 41 (.slice (some ⟨g,0,none⟩) (k+1) cap) (k+1) (xs++z30.toList)) (hx:xs.length=k*41) (hv:Wa.heap[B+5]?=some (.cells #[u] 28 (0,0))) (hg:g≠B+5) (hc:cn.size=41):
  Lef Wa ((Wa.setCell ⟨B+5,0,none⟩ (.slice (some ⟨g,0,none⟩) (k+1) cap)).setCells g (k*41) cn.toList) B g k (.slice (some ⟨g,0,none⟩) (k+1) cap) (xs++cn.toList):=by
 have ho2:(Wa.setCell ⟨B+5,0,none⟩ (.slice (some ⟨g,0,none⟩) (k+1) cap)).ownsRow (B+2) 30 41 (.slice (some ⟨g,0,none⟩) (k+1) cap) (k+1) (xs++z30.toList):=ke ho (Below.heap_setCell _ _ _ _ (by show g≠B+5;omega))
 obtain ⟨r1,r2⟩:=kP cn.toList (k*41) _ _ ho2 (by simp [jN,hx,hc])
 rw [bV _ _ _ _ hx (by simp [jN,hc])] at r1
 refine ⟨r2.os,r2.tape,r2.output,?_,fun b h1 h2=>?_,?_,r1⟩
 ·rw [qZ,World.size_setCell]
 ·exact (jV g _ _ _ _ h2).trans (Below.heap_setCell _ _ _ _ h1)
 ·exact (jV g _ _ _ _ (Ne.symm hg)).trans (Boxed.set (W:=Wa) _ hv)
end
theorem pK {w0 w1 w2 w3:World} {c:Array Value} {nm:ByteArray} {v:Vd} {m:Md} {f:F} (h:zL w2 (NewC w1 w2) c nm v m f) (h1:G w0 w1) (h3:G w2 w3):zL w3 (NewC w0 w3) c nm v m f:=by
 obtain ⟨kv,rfl,hk⟩:=h
 refine ⟨kv,rfl,hk.keep fun b hb=>?_⟩
 obtain ⟨h8,o,ho,hoc⟩:=hb
 have e:=Below.block h3 b (gS ho)
 exact ⟨e,by have:=h1.size;omega,o,e.trans ho,hoc⟩
theorem G.others {W W':World} (h:G W W'):KeepsOthers W W':=⟨h.size,fun b _ hb _=>(Below.block h b (gS hb)).trans hb⟩
theorem fu (s:Nat) {F:Fence} {n:Nat} {ops:Array Oper} {Q:Exit→Act→World→Prop} {id:Nat} {a:Act} {w:World} (h:∀ ops' Q',ops'=ops→Q'=Q→wpX s F n .any ops' Q' ops.size (Array.replicate ops.size false) a w.drew):(Code.region id ops true).wpIn F n Tryz.prog Q a w:=
 qj s (h ops Q rfl rfl)
theorem zU {o:Oper} {a:Act} (x y:Operand) (ho:o.op=.store 28 x y) (b n c:Nat) (ad:Option Addr) (u:Value) (hx:a.eval x=.pointer (some ⟨b,0,none⟩)) (hy:a.eval y=.slice ad n c) (w:World) (hc:w.cell? ⟨b,0,none⟩=some u) (hf:w.frozen? ⟨b,0,none⟩=false):(execOp a.eval o).run Tryz.prog w=.ok .skip (w.setCell ⟨b,0,none⟩ (.slice ad n c)):=by
 obtain ⟨d,op,ty,ps,af,gd⟩:=o
 obtain rfl:op=_:=ho
 generalize a.eval=ev at *
 go_simp
theorem av {o:Oper} {a:Act} (x y:Operand) (ho:o.op=.indexAddr 28 x y) (g k cap:Nat) (hx:a.eval x=.slice (some ⟨g,0,none⟩) (k+1) cap) (hy:a.eval y=.int .i64 (k:Int)) (w:World):(execOp a.eval o).run Tryz.prog w=.ok (.value (.pointer (some ⟨g,k*41,none⟩))) w:=by
 obtain ⟨d,op,ty,ps,af,gd⟩:=o
 obtain rfl:op=_:=ho
 generalize a.eval=ev at *
 go_simp
 intro h
 omega
theorem iW (ver:Int) (k:K) (ih:∀ k':K,k'.flat.size<k.flat.size→iV ver k'):lv ver k:=by
 intro p v m q Bv w hT hver hnm hqs hsz
 obtain ⟨pk,hT1,hT2⟩:=id hT
 obtain ⟨ak,rfl⟩:=hT2.form
 have c39:=jB hT1 39 _ (zi ..)
 obtain ⟨FC,hFC⟩:∃ FC,#[gfc Bv]=FC:=⟨_,rfl⟩
 obtain ⟨Y,hY⟩:∃ Y:Value,.func (.func 80) #[.agg FC] #[]=Y:=⟨_,rfl⟩
 unfold yc
 rw [hFC]
 obtain ⟨N,hN⟩:∃ N,k.flat.len=N:=⟨_,rfl⟩
 have C49:Hid (∀ W,G w W→Calls Tryz.prog 149 #[.pointer ak] W fun e w'=>e=.returned (.int .i64 N)∧w'=W):=fun W hW=>by rw [← hN];exact dC k _ W (hT2.grow hW)
 have HH:=hid (⟨hT,hver,hnm,hqs,hsz,hN,hFC⟩:AtT w p v m k∧w.cell? ⟨Bv,0,none⟩=some (.int .i64 ver)∧xE k.flat∧q.size+256*k.flat.depth≤1000000∧k.flat.size≤100000∧k.flat.len=N∧#[gfc Bv]=FC)
 have HIH:=hid ih
 have hN2:N≤100000:=by have:=k.flat.len_le_size;omega
 obtain ⟨B,hB⟩:∃ B,w.heap.size=B:=⟨_,rfl⟩
 obtain ⟨i9,hi9,hz90,hz91,hz92⟩:=info_parts Tryz.info9
 obtain ⟨i0,hi,hz0,hz1,hz2⟩:=info_parts gm
 obtain ⟨M9,hM9⟩:∃ M9,madeCells #[.string ⟨#[]⟩] N=M9:=⟨_,rfl⟩
 obtain ⟨M30,hM30⟩:∃ M30,madeCells z30 (N*41)=M30:=⟨_,rfl⟩
 have mk9:∀ W:World,(Instr.makeSlice 106 (.int .i64 0) (.int .i64 (N:Int))).run Tryz.prog W=.ok (.slice (some ⟨W.heap.size,0,none⟩) 0 N) (W.alloc (.cells M9 9)):=by
  intro W
  have:=run_make (P:=Tryz.prog) W 106 9 i9 (.string ⟨#[]⟩) Tryz.underlying106 hi9 hz90 .i64 .i64 0 N (Int.le_refl _) (by omega) (by rw [hz92];omega) (by omega)
  rw [hz91] at this
  rw [← hM9]
  simpa [Value.cells] using this
 have mk30:∀ W:World,(Instr.makeSlice 28 (.int .i64 0) (.int .i64 (N:Int))).run Tryz.prog W=.ok (.slice (some ⟨W.heap.size,0,none⟩) 0 N) (W.alloc (.cells M30 30)):=by
  intro W
  have:=run_make (P:=Tryz.prog) W 28 30 i0 (.agg z30) Tryz.underlying28 hi hz0 .i64 .i64 0 N (Int.le_refl _) (by omega) (by rw [hz2];omega) (by omega)
  rw [hz1] at this
  rw [← hM30]
  simpa [Value.cells] using this
 have HM:Hid (M9.size=N*1∧M30.size=N*41):=⟨by rw [← hM9,size_madeCells];omega,by rw [← hM30,size_madeCells]⟩
 clear hM9 hM30 hz90 hz91 hz92 hi9 hz0 hz1 hz2 hi
 clear hT hT1 hT2 hver hnm hqs hsz ih hFC hN
 refine (callsIn_wide (n:=3)).1 ?_
 refine callsIn_of_wp_marks Tryz.func116 rfl trivial (Go.wpIn_mono (Q:=RetM Tryz.f116 _) ?_ RetM.post) rfl
 simp only [Tryz.ntmps116,List.size_toArray,lC,lN,Nat.reduceAdd,Nat.reduceSub,Array.replicate_succ,Array.replicate_zero,List.push_toArray,List.append_toArray,List.nil_append,List.cons_append]
 have HYV:=hid hY
 have HG0:Hid (G w ((w.alloc (.cells #[.string q] 9)).alloc (.cells #[.func (.func 80) #[.agg FC] #[]] 146))):=(G.alloc _ _).trans (G.alloc _ _)
 clear hY
 replace c39:=HG0.o.cell c39
 have hw0:((w.alloc (.cells #[.string q] 9)).alloc (.cells #[.func (.func 80) #[.agg FC] #[]] 146)).heap.size=B+2:=by rw [World.size_alloc,World.size_alloc,hB]
 have hb0:((w.alloc (.cells #[.string q] 9)).alloc (.cells #[.func (.func 80) #[.agg FC] #[]] 146)).heap[B]?=some (.cells #[.string q] 9 (0,0)):=by
  rw [Below.heap_alloc _ _ _ (by rw [World.size_alloc,hB];omega)]
  have:=World.alloc_heap_new w (.cells #[.string q] 9)
  rwa [hB] at this
 have hb1:((w.alloc (.cells #[.string q] 9)).alloc (.cells #[.func (.func 80) #[.agg FC] #[]] 146)).heap[B+1]?=some (.cells #[.func (.func 80) #[.agg FC] #[]] 146 (0,0)):=by
  have:=World.alloc_heap_new (w.alloc (.cells #[.string q] 9)) (.cells #[.func (.func 80) #[.agg FC] #[]] 146)
  rwa [World.size_alloc,hB] at this
 have H0:=hid (⟨HG0.o,hw0,hb0,hb1⟩:_∧_∧_∧_)
 clear hw0 hb0 hb1 HG0
 gi_wp2_with fail
 refine ⟨trivial,?_⟩
 refine (callsIn_wide.2 (C49.o _ H0.o.1)).mono ?_
 rintro e w' ⟨rfl,rfl⟩
 generalize (w.alloc (.cells #[.string q] 9)).alloc (.cells #[.func (.func 80) #[.agg FC] #[]] 146)=W0 at *
 have hsz0:=H0.o.2.1
 have hG2:G w ((W0.alloc (.cells M9 9)).alloc (.cells #[.slice (some ⟨B+2,0,none⟩) 0 N] 106)):=(H0.o.1.trans (G.alloc _ _)).trans (G.alloc _ _)
 have c39b:((W0.alloc (.cells M9 9)).alloc (.cells #[.slice (some ⟨B+2,0,none⟩) 0 N] 106)).cell? ⟨p,39,none⟩=some (.pointer ak):=((G.alloc _ _).trans (G.alloc _ _)).cell c39
 gi_wp2_with (first
  | (refine ⟨trivial,?_⟩;gi_at_call 149;refine (callsIn_wide.2 (C49.o _ hG2)).mono ?_;rintro e w' ⟨rfl,rfl⟩)
  | (refine ⟨trivial,?_⟩;gi_at_call 39;refine (callsIn_wide.2 (qw p _)).mono ?_;rintro e w' ⟨rfl,rfl⟩))
 have hI0:=GI.start (Y:=.func (.func 80) #[.agg FC] #[]) (q:=q) hB H0.o.1 hsz0 H0.o.2.2.1 H0.o.2.2.2 HM.o.1 HM.o.2 hN2 (.cells #[.pointer (some ⟨p,0,none⟩)] 32)
 have e6:((((W0.alloc (.cells M9 9)).alloc (.cells #[.slice (some ⟨B+2,0,none⟩) 0 N] 106)).alloc (.cells M30 30)).alloc (.cells #[.slice (some ⟨B+4,0,none⟩) 0 N] 28)).heap.size=B+6:=by
  rw [World.size_alloc,World.size_alloc,World.size_alloc,World.size_alloc,hsz0]
 rw [show B+2+1+1+1+1=B+6 from rfl,show B+2+1+1+1=B+5 from rfl,show B+2+1+1=B+4 from rfl,show B+2+1=B+3 from rfl]
 refine za (fun W5=>(∃ un ut xs T,GI w B q (.func (.func 80) #[.agg FC] #[]) [] .nil W5 un ut xs T)∧W5.cell? ⟨B+6,0,none⟩=some (.pointer (some ⟨p,0,none⟩))∧B+6<W5.heap.size) ⟨⟨_,_,_,_,hI0⟩,by
  rw [← e6]
  exact jB (jW _ _ _) 0 _ rfl,by rw [World.size_alloc,e6];omega⟩ fun W5 H5=>?_
 obtain ⟨hI5,hc5,hs5⟩:=H5
 have hle5:w.heap.size≤W5.heap.size:=by rw [hB];omega
 have hG5:G w W5:=by obtain ⟨_,_,_,_,h⟩:=hI5;exact h.g
 clear hI0 e6 c39 c39b hG2 H0 hsz0 mk9 mk30 HM C49
 refine wpIn_rangeFunc_ownF rfl (by omega) (gf:=71) (lb:=#[.pointer (some ⟨B+6,0,none⟩)]) rfl trivial (enters_of Tryz.func71 (by kernel_rfl) rfl)
  (yK 2 w (fun x=>x∈k.items) (B+6) p v m k W5 hs5 hc5 HH.o.1 (fun x hx=>hx) hG5)
  (fun h k=>h.trans k) (belowK_b hle5) (Below.refl _ _) (fun _=>rfl)
  (fun pre W=>∃ un ut xs T,GI w B q (.func (.func 80) #[.agg FC] #[]) ((jk pre).map (·.nm)) (tld ver (jk pre)) W un ut xs T) (fun _ _ _=>False) (GI.own (fun pre=>(jk pre).map (·.nm)) (fun pre=>tld ver (jk pre)) hB (by rw [← hB];exact hle5)) (fun _ _ _ _ _ hs _ _=>hs) hI5
  ?a1 ?assign ?body ?done ?stop
 case assign=>
  intro l x W K hK
  gi_wp2
  exact hK
 case stop=>
  rintro D c pre W _ _ h _
  exact h.elim
 case body=>
  rintro l pre x W ⟨un,ut,xs,T,hI⟩ hlen
  obtain ⟨⟨xnm,xp,xv,xm,xk⟩,hxT,hxS⟩:=x
  simp only at hxT
  have HPOST:Hid (∀ Wz,(∃ un ut xs T,GI w B q (.func (.func 80) #[.agg FC] #[]) ((jk pre).map (·.nm)++[xnm]) ((tld ver (jk pre)).app (.cons ⟨#[]⟩ (pv ver xv) Md.zero (xk.flat.mp (pv ver) noM) .nil)) Wz un ut xs T)→∃ un ut xs T,GI w B q (.func (.func 80) #[.agg FC] #[]) ((jk (pre++[⟨⟨xnm,xp,xv,xm,xk⟩,hxT,hxS⟩])).map (·.nm)) (tld ver (jk (pre++[⟨⟨xnm,xp,xv,xm,xk⟩,hxT,hxS⟩]))) Wz un ut xs T):=fun Wz h=>by
   have e:jk (pre++[⟨⟨xnm,xp,xv,xm,xk⟩,hxT,hxS⟩])=jk pre++[⟨xnm,xp,xv,xm,xk⟩]:=by simp
   rw [e,pH,List.map_append]
   exact h
  obtain ⟨hA,hver,hnm,hqs,hsz,hN,hFC⟩:=HH.o
  obtain ⟨a1,a2,a3⟩:=dd (l:=k.items) (by rw [qC];exact hnm) _ hxS
  rw [qC] at a3
  have a4:=yE _ hxS
  simp only at a1 a2 a3 a4
  have a5:=sw (q:=q) a1
  have a6:=(lq a1).2
  rw [qp] at a6
  have C55:Hid (∀ W',Calls Tryz.prog 152 #[.string q,.string xnm] W' fun e w'=>e=.returned (.string (bel q xnm))∧w'=W'):=fun W'=>pG q xnm W' (by omega)
  have C33:Hid (∀ W',G w W'→Calls Tryz.prog 80 #[.agg FC,.string (bel q xnm),.pointer (some ⟨xp,0,none⟩)] W' fun e w'=>∃ c',e=.returned (.agg c')∧zL w' (NewC W' w') c' ⟨#[]⟩ (pv ver xv) Md.zero (xk.flat.mp (pv ver) noM)∧G W' w'):=fun W' hg=>by
   rw [← hFC]
   exact HIH.o xk a4 xp xv xm (bel q xnm) Bv W' (hxT.grow hg) (hg.cell hver) a2 (by omega) (by omega)
  have hll:(jk pre).length≤100000:=by
   rw [K.items_len] at hlen
   simp only [List.length_map]
   have:=k.flat.len_le_size
   omega
  have hl1:((jk pre).map (·.nm)).length≤100000:=by rw [List.length_map];exact hll
  have hl2:(tld ver (jk pre)).len≤100000:=by rw [pI];exact hll
  clear hA hver hnm hqs hsz hN hFC a1 a2 a3 a4 a5 a6 hll hlen
  generalize hLe:(jk pre).map (·.nm)=L at *
  generalize hfe:tld ver (jk pre)=fs at *
  obtain ⟨nl,hnl⟩:∃ nl,L.length=nl:=⟨_,rfl⟩
  obtain ⟨nf,hnf⟩:∃ nf,fs.len=nf:=⟨_,rfl⟩
  obtain ⟨bo,vc,rfl⟩:=kO hI.ot
  rw [hnf] at hI
  have HI:=hid hI
  have HLL:Hid (nl≤100000∧nf≤100000):=⟨by omega,by omega⟩
  have hb3:Boxed W (B+3) 106 un:=hI.vn
  have hc3:=hb3.cell
  have hon:=hI.on
  rw [hnl] at hon
  obtain ⟨i9,hi9,hz90,hz91,hz92⟩:=info_parts Tryz.info9
  have hWs:B+5<W.heap.size:=(gS hI.vt)
  have HB3:=hid hb3
  have HNR:Hid (some (B+3)≠un.ownBlock):=Boxed.not_row hb3 (by decide) hon
  clear hI hb3 hl1 hl2 hI5 hc5 hs5 hle5 hG5
  gi_wp2_with (gi_at_builtin;refine wpListIn_append_own_at _ rfl _ _ 106 rfl (B+2) 9 i9 (.string ⟨#[]⟩) 1 16 Tryz.underlying106 hi9 hz90 hz91 hz92 rfl (by decide) _ _ _ rfl (World.ownsRow.alloc hon _) ⟨W.heap.size,0,none⟩ 1 1 [.string xnm] rfl rfl xV (by simp [Value.oneCell']) (by have:=HLL.o;unfold maxLen;omega) (by have:=HLL.o;omega) (by simp;omega) ?_;intro v' w1 hown' hgrow _ hat;obtain ⟨g',cap',rfl⟩:=ownsRow_succ hown';have hb1:Boxed w1 (B+3) 106 un:=(HB3.o.alloc _).kept hgrow HNR.o;have hc1:=hb1.cell;have hf1:=hb1.frozen)
  have hg2:(W.alloc (.cells #[.string xnm] 9)).grownBy w1 un.ownBlock:=hgrow
  have hat2:(Value.slice (some ⟨g',0,none⟩) (nl+1) cap').ownBlock=un.ownBlock∨(Value.slice (some ⟨g',0,none⟩) (nl+1) cap').ownBlock=some (W.alloc (.cells #[.string xnm] 9)).heap.size:=hat
  obtain ⟨hI6,hbl6,hko6⟩:=HI.o.name hB (by rw [hnl];exact hown') hg2 hat2
  clear hgrow hat hown' hb1 hc1 hf1 hc3 hon hi9 hz90 hz91 hz92 hg2 hat2
  obtain ⟨UN,hUN⟩:∃ UN,Value.slice (some ⟨g',0,none⟩) (nl+1) cap'=UN:=⟨_,rfl⟩
  rw [hUN] at hI6 hbl6 hko6 ⊢
  generalize w1.setCell ⟨B+3,0,none⟩ UN=W6 at *
  refine fu 9 fun ops Q hops hQ=>?_
  have HW:Hid (Below B W W6.drew∧KeepsOthers W W6.drew):=⟨Below.trans (B:=B) hbl6 ⟨rfl,rfl,rfl,Nat.le_refl _,fun _ _=>rfl⟩,hko6.trans (KeepsOthers.drew W6)⟩
  have HI7:=hid (hI6.grow (G.drew W6))
  clear hI6 hbl6 hko6
  generalize W6.drew=Wd at *
  have HC:Hid (∀ W',G Wd W'→W'.cell? ⟨B+5,0,none⟩=some (.slice bo nf vc)∧W'.cell? ⟨B+1,0,none⟩=some (.func (.func 80) #[.agg FC] #[])∧W'.cell? ⟨B,0,none⟩=some (.string q)):=fun W' h=>⟨Boxed.cell (t:=28) (HI7.o.grow h).vt,Boxed.cell (t:=146) (HI7.o.grow h).b1,Boxed.cell (t:=9) (HI7.o.grow h).b0⟩
  have HGw:Hid (G w Wd):=HI7.o.g
  obtain ⟨o9,ho9,hop9,hd9,hgd9⟩:∃ o9,ops[9]?=some o9∧o9.op=.call { callee:=.builtin .append,args:=#[.tmp 32,.tmp 40],argTypes:=#[28,28] }∧o9.dst=some 41∧o9.guard=none:=by subst hops;exact ⟨_,rfl,rfl,rfl,rfl⟩
  obtain ⟨o10,ho10,hop10,hd10,hgd10⟩:∃ o,ops[10]?=some o∧o.op=.indexAddr 28 (.tmp 41) (.tmp 39)∧o.dst=some 42∧o.guard=none:=by subst hops;exact ⟨_,rfl,rfl,rfl,rfl⟩
  obtain ⟨o11,ho11,hop11,hd11,hgd11⟩:∃ o,ops[11]?=some o∧o.op=.store 30 (.tmp 42) (.tmp 38)∧o.dst=none∧o.guard=none:=by subst hops;exact ⟨_,rfl,rfl,rfl,rfl⟩
  obtain ⟨o12,ho12,hop12,hd12,hgd12⟩:∃ o,ops[12]?=some o∧o.op=.store 28 (.tmp 9) (.tmp 41)∧o.dst=none∧o.guard=none:=by subst hops;exact ⟨_,rfl,rfl,rfl,rfl⟩
  have hr9:Region.ready .any ops #[true,true,true,true,true,true,true,true,true,false,false,false,false]=[9]:=by clear HPOST;subst hops;kernel_rfl
  have hr10:Region.ready .any ops #[true,true,true,true,true,true,true,true,true,true,false,false,false]=[10,12]:=by clear HPOST;subst hops;kernel_rfl
  have hr11:Region.ready .any ops #[true,true,true,true,true,true,true,true,true,true,true,false,false]=[11,12]:=by clear HPOST;subst hops;kernel_rfl
  have hr12:Region.ready .any ops #[true,true,true,true,true,true,true,true,true,true,true,true,false]=[12]:=by clear HPOST;subst hops;kernel_rfl
  have hr13:Region.ready .any ops #[true,true,true,true,true,true,true,true,true,true,true,false,true]=[11]:=by clear HPOST;subst hops;kernel_rfl
  have hr14:Region.ready .any ops #[true,true,true,true,true,true,true,true,true,true,false,false,true]=[10]:=by clear HPOST;subst hops;kernel_rfl
  have hr15:Region.ready .any ops #[true,true,true,true,true,true,true,true,true,true,true,true,true]=[]:=by clear HPOST;subst hops;kernel_rfl
  have fin:∀ (D:Nat) (c':Array Value) (w9:World),Hid (G Wd w9∧zL w9 (NewC Wd w9) c' ⟨#[]⟩ (pv ver xv) Md.zero (xk.flat.mp (pv ver) noM)∧∀ j u,z30[j]?=some u→w9.cell? ((⟨D,0,none⟩:Addr).add j)=some u)→wpAnyIn (Fence.wide.inRound l) 1 Tryz.prog .any ops Q 4 #[true,true,true,true,true,true,true,true,true,false,false,false,false] { tmps:=#[.string q,.pointer (some ⟨p,0,none⟩),.func (.func 80) #[.agg FC] #[],.pointer (some ⟨B,0,none⟩),undef,.pointer (some ⟨B+1,0,none⟩),.slice none 0 0,.slice none 0 0,.pointer (some ⟨B+3,0,none⟩),.pointer (some ⟨B+5,0,none⟩),.string xnm,.pointer (some ⟨xp,0,none⟩),.pointer (some ⟨p,0,none⟩),.pointer (some ⟨p,0,none⟩),.pointer (some ⟨p,39,none⟩),.pointer ak,.int .i64 (N:Int),.slice (some ⟨B+2,0,none⟩) 0 N,.pointer (some ⟨p,0,none⟩),.pointer (some ⟨p,0,none⟩),.pointer (some ⟨p,39,none⟩),.pointer ak,.int .i64 (N:Int),.slice (some ⟨B+4,0,none⟩) 0 N,.pointer (some ⟨p,0,none⟩),.func (.func 71) #[] #[.pointer (some ⟨B+6,0,none⟩)],.string xnm,.pointer (some ⟨xp,0,none⟩),un,.string xnm,.slice (some ⟨W.heap.size,0,none⟩) 1 1,UN,.slice bo nf vc,.func (.func 80) #[.agg FC] #[],.string q,.string xnm,.string (bel q xnm),.pointer (some ⟨xp,0,none⟩),.agg c',.int .i64 (nf:Int),.slice (some ⟨D,0,none⟩) 1 1,undef,undef,undef,undef],defers:=[] } w9:=by
   intro D c' w9 H9
   have HCS:Hid (c'.size=41∧c'.all (·.oneCell')=true):=by
    obtain ⟨kv,rfl,hk⟩:=H9.o.2.1
    obtain ⟨a2,cap2,rfl,_⟩:=hk
    exact ⟨jO ..,qz _ _ _ _ rfl⟩
   have hI9:=HI7.o.grow H9.o.1
   have hot:=hI9.ot
   rw [hnf] at hot
   have hxl:xs.length=nf*41:=hot.1
   have hut5:some (B+5)≠(Value.slice bo nf vc).ownBlock:=fun e=>(hI9.ut_ne e.symm).2.2.2.1 rfl
   refine wpAnyIn_ready hr9 (by simp) ?_
   have h5lt:B+5<w9.heap.size:=(gS hI9.vt)
   obtain ⟨g,cap,Wa,hx,how,hgr,hat⟩:=aF (o:=o9) (a:={ tmps:=#[.string q,.pointer (some ⟨p,0,none⟩),.func (.func 80) #[.agg FC] #[],.pointer (some ⟨B,0,none⟩),undef,.pointer (some ⟨B+1,0,none⟩),.slice none 0 0,.slice none 0 0,.pointer (some ⟨B+3,0,none⟩),.pointer (some ⟨B+5,0,none⟩),.string xnm,.pointer (some ⟨xp,0,none⟩),.pointer (some ⟨p,0,none⟩),.pointer (some ⟨p,0,none⟩),.pointer (some ⟨p,39,none⟩),.pointer ak,.int .i64 (N:Int),.slice (some ⟨B+2,0,none⟩) 0 N,.pointer (some ⟨p,0,none⟩),.pointer (some ⟨p,0,none⟩),.pointer (some ⟨p,39,none⟩),.pointer ak,.int .i64 (N:Int),.slice (some ⟨B+4,0,none⟩) 0 N,.pointer (some ⟨p,0,none⟩),.func (.func 71) #[] #[.pointer (some ⟨B+6,0,none⟩)],.string xnm,.pointer (some ⟨xp,0,none⟩),un,.string xnm,.slice (some ⟨W.heap.size,0,none⟩) 1 1,UN,.slice bo nf vc,.func (.func 80) #[.agg FC] #[],.string q,.string xnm,.string (bel q xnm),.pointer (some ⟨xp,0,none⟩),.agg c',.int .i64 (nf:Int),.slice (some ⟨D,0,none⟩) 1 1,undef,undef,undef,undef],defers:=[] }) (.tmp 32) (.tmp 40) hop9 (B+2) nf (.slice bo nf vc) xs w9 rfl hot ⟨D,0,none⟩ z30 rfl jN H9.o.2.2 (qz _ _ _ _ rfl) HLL.o.2 (by omega)
   have hg5:g≠B+5:=fun e=>by
    rcases hat with q | q
    ·exact hut5 (by rw [q,e])
    ·omega
   have hva:Wa.heap[B+5]?=some (.cells #[.slice bo nf vc] 28 (0,0)):=(hgr.block (B+5) h5lt hut5).trans hI9.vt
   have hLa:=a0Z (cn:=c') how hxl hva hg5 HCS.o.1
   have hLb:=a0a (cn:=c') how hxl hva hg5 HCS.o.1
   have HTH:Hid (Wa.there g (nf*41) 41∧(Wa.setCell ⟨B+5,0,none⟩ (.slice (some ⟨g,0,none⟩) (nf+1) cap)).there g (nf*41) 41):=⟨zt how _ _ (by simp [jN,hxl]),zt (ke how (Below.heap_setCell _ _ _ _ (by show g≠B+5;omega))) _ _ (by simp [jN,hxl])⟩
   have hvc:(Wa.setCells g (nf*41) c'.toList).heap[B+5]?=some (.cells #[.slice bo nf vc] 28 (0,0)):=(jV g _ _ _ _ (Ne.symm hg5)).trans hva
   have HC9:Hid ((Wa.cell? ⟨B+5,0,none⟩=some (.slice bo nf vc)∧Wa.frozen? ⟨B+5,0,none⟩=false)∧((Wa.setCells g (nf*41) c'.toList).cell? ⟨B+5,0,none⟩=some (.slice bo nf vc)∧(Wa.setCells g (nf*41) c'.toList).frozen? ⟨B+5,0,none⟩=false)):=⟨⟨Boxed.cell (t:=28) hva,Boxed.frozen (t:=28) hva⟩,⟨Boxed.cell (t:=28) hvc,Boxed.frozen (t:=28) hvc⟩⟩
   have HAT:Hid (w9.grownBy Wa (Value.slice bo nf vc).ownBlock∧((Value.slice bo nf vc).ownBlock=some g∨w9.heap.size≤g)):=⟨hgr,hat.imp id fun e=>by rw [e];exact Nat.le_refl _⟩
   clear hva hvc hat hgr hxl hut5 hot hI9 how
   have cfin:∀ Wz,Lef Wa Wz B g nf (.slice (some ⟨g,0,none⟩) (nf+1) cap) (xs++c'.toList)→wpAnyIn (Fence.wide.inRound l) 1 Tryz.prog .any ops Q 0 #[true,true,true,true,true,true,true,true,true,true,true,true,true] { tmps:=#[.string q,.pointer (some ⟨p,0,none⟩),.func (.func 80) #[.agg FC] #[],.pointer (some ⟨B,0,none⟩),undef,.pointer (some ⟨B+1,0,none⟩),.slice none 0 0,.slice none 0 0,.pointer (some ⟨B+3,0,none⟩),.pointer (some ⟨B+5,0,none⟩),.string xnm,.pointer (some ⟨xp,0,none⟩),.pointer (some ⟨p,0,none⟩),.pointer (some ⟨p,0,none⟩),.pointer (some ⟨p,39,none⟩),.pointer ak,.int .i64 (N:Int),.slice (some ⟨B+2,0,none⟩) 0 N,.pointer (some ⟨p,0,none⟩),.pointer (some ⟨p,0,none⟩),.pointer (some ⟨p,39,none⟩),.pointer ak,.int .i64 (N:Int),.slice (some ⟨B+4,0,none⟩) 0 N,.pointer (some ⟨p,0,none⟩),.func (.func 71) #[] #[.pointer (some ⟨B+6,0,none⟩)],.string xnm,.pointer (some ⟨xp,0,none⟩),un,.string xnm,.slice (some ⟨W.heap.size,0,none⟩) 1 1,UN,.slice bo nf vc,.func (.func 80) #[.agg FC] #[],.string q,.string xnm,.string (bel q xnm),.pointer (some ⟨xp,0,none⟩),.agg c',.int .i64 (nf:Int),.slice (some ⟨D,0,none⟩) 1 1,.slice (some ⟨g,0,none⟩) (nf+1) cap,.pointer (some ⟨g,nf*41,none⟩),undef,undef],defers:=[] } Wz:=by
    intro Wz hL
    refine wpAnyIn_done hr15 ?_ _
    subst hQ
    obtain ⟨kv,hc,hk⟩:=H9.o.2.1
    rw [hc] at hL
    obtain ⟨r1,r2,r3⟩:=HI7.o.told hB H9.o.1 hk HAT.o.1 HAT.o.2 (by rw [hnf];exact hL)
    exact ⟨HW.o.2.trans r3,by rw [hB];exact HW.o.1.trans r2,HPOST.o Wz ⟨_,_,_,_,r1⟩⟩
   have d1:wpAnyIn (Fence.wide.inRound l) 1 Tryz.prog .any ops Q 1 #[true,true,true,true,true,true,true,true,true,true,true,true,false] { tmps:=#[.string q,.pointer (some ⟨p,0,none⟩),.func (.func 80) #[.agg FC] #[],.pointer (some ⟨B,0,none⟩),undef,.pointer (some ⟨B+1,0,none⟩),.slice none 0 0,.slice none 0 0,.pointer (some ⟨B+3,0,none⟩),.pointer (some ⟨B+5,0,none⟩),.string xnm,.pointer (some ⟨xp,0,none⟩),.pointer (some ⟨p,0,none⟩),.pointer (some ⟨p,0,none⟩),.pointer (some ⟨p,39,none⟩),.pointer ak,.int .i64 (N:Int),.slice (some ⟨B+2,0,none⟩) 0 N,.pointer (some ⟨p,0,none⟩),.pointer (some ⟨p,0,none⟩),.pointer (some ⟨p,39,none⟩),.pointer ak,.int .i64 (N:Int),.slice (some ⟨B+4,0,none⟩) 0 N,.pointer (some ⟨p,0,none⟩),.func (.func 71) #[] #[.pointer (some ⟨B+6,0,none⟩)],.string xnm,.pointer (some ⟨xp,0,none⟩),un,.string xnm,.slice (some ⟨W.heap.size,0,none⟩) 1 1,UN,.slice bo nf vc,.func (.func 80) #[.agg FC] #[],.string q,.string xnm,.string (bel q xnm),.pointer (some ⟨xp,0,none⟩),.agg c',.int .i64 (nf:Int),.slice (some ⟨D,0,none⟩) 1 1,.slice (some ⟨g,0,none⟩) (nf+1) cap,.pointer (some ⟨g,nf*41,none⟩),undef,undef],defers:=[] } (Wa.setCells g (nf*41) c'.toList):=by
    refine wpAnyIn_ready hr12 (by simp) ?_
    exact (cV 12 ((Wa.setCells g (nf*41) c'.toList).setCell ⟨B+5,0,none⟩ (.slice (some ⟨g,0,none⟩) (nf+1) cap)) ho12 hd12 (by simp [Region.wanted,hgd12]) (by rw [hop12];intro c h;cases h) (zU _ _ hop12 (B+5) (nf+1) cap _ _ rfl rfl _ HC9.o.2.1 HC9.o.2.2) (by try simp only [List.setIfInBounds_toArray,List.set_cons_zero,List.set_cons_succ];exact cfin _ hLa) AllReadyIn.nil)
   have d2:wpAnyIn (Fence.wide.inRound l) 1 Tryz.prog .any ops Q 1 #[true,true,true,true,true,true,true,true,true,true,true,false,true] { tmps:=#[.string q,.pointer (some ⟨p,0,none⟩),.func (.func 80) #[.agg FC] #[],.pointer (some ⟨B,0,none⟩),undef,.pointer (some ⟨B+1,0,none⟩),.slice none 0 0,.slice none 0 0,.pointer (some ⟨B+3,0,none⟩),.pointer (some ⟨B+5,0,none⟩),.string xnm,.pointer (some ⟨xp,0,none⟩),.pointer (some ⟨p,0,none⟩),.pointer (some ⟨p,0,none⟩),.pointer (some ⟨p,39,none⟩),.pointer ak,.int .i64 (N:Int),.slice (some ⟨B+2,0,none⟩) 0 N,.pointer (some ⟨p,0,none⟩),.pointer (some ⟨p,0,none⟩),.pointer (some ⟨p,39,none⟩),.pointer ak,.int .i64 (N:Int),.slice (some ⟨B+4,0,none⟩) 0 N,.pointer (some ⟨p,0,none⟩),.func (.func 71) #[] #[.pointer (some ⟨B+6,0,none⟩)],.string xnm,.pointer (some ⟨xp,0,none⟩),un,.string xnm,.slice (some ⟨W.heap.size,0,none⟩) 1 1,UN,.slice bo nf vc,.func (.func 80) #[.agg FC] #[],.string q,.string xnm,.string (bel q xnm),.pointer (some ⟨xp,0,none⟩),.agg c',.int .i64 (nf:Int),.slice (some ⟨D,0,none⟩) 1 1,.slice (some ⟨g,0,none⟩) (nf+1) cap,.pointer (some ⟨g,nf*41,none⟩),undef,undef],defers:=[] } (Wa.setCell ⟨B+5,0,none⟩ (.slice (some ⟨g,0,none⟩) (nf+1) cap)):=by
    refine wpAnyIn_ready hr13 (by simp) ?_
    exact (cV 11 ((Wa.setCell ⟨B+5,0,none⟩ (.slice (some ⟨g,0,none⟩) (nf+1) cap)).setCells g (nf*41) c'.toList) ho11 hd11 (by simp [Region.wanted,hgd11]) (by rw [hop11];intro c h;cases h) (kQ _ _ hop11 g (nf*41) c' rfl rfl _ (HTH.o.2) HCS.o.1 HCS.o.2) (by try simp only [List.setIfInBounds_toArray,List.set_cons_zero,List.set_cons_succ];exact cfin _ hLb) AllReadyIn.nil)
   have d3:wpAnyIn (Fence.wide.inRound l) 1 Tryz.prog .any ops Q 2 #[true,true,true,true,true,true,true,true,true,true,true,false,false] { tmps:=#[.string q,.pointer (some ⟨p,0,none⟩),.func (.func 80) #[.agg FC] #[],.pointer (some ⟨B,0,none⟩),undef,.pointer (some ⟨B+1,0,none⟩),.slice none 0 0,.slice none 0 0,.pointer (some ⟨B+3,0,none⟩),.pointer (some ⟨B+5,0,none⟩),.string xnm,.pointer (some ⟨xp,0,none⟩),.pointer (some ⟨p,0,none⟩),.pointer (some ⟨p,0,none⟩),.pointer (some ⟨p,39,none⟩),.pointer ak,.int .i64 (N:Int),.slice (some ⟨B+2,0,none⟩) 0 N,.pointer (some ⟨p,0,none⟩),.pointer (some ⟨p,0,none⟩),.pointer (some ⟨p,39,none⟩),.pointer ak,.int .i64 (N:Int),.slice (some ⟨B+4,0,none⟩) 0 N,.pointer (some ⟨p,0,none⟩),.func (.func 71) #[] #[.pointer (some ⟨B+6,0,none⟩)],.string xnm,.pointer (some ⟨xp,0,none⟩),un,.string xnm,.slice (some ⟨W.heap.size,0,none⟩) 1 1,UN,.slice bo nf vc,.func (.func 80) #[.agg FC] #[],.string q,.string xnm,.string (bel q xnm),.pointer (some ⟨xp,0,none⟩),.agg c',.int .i64 (nf:Int),.slice (some ⟨D,0,none⟩) 1 1,.slice (some ⟨g,0,none⟩) (nf+1) cap,.pointer (some ⟨g,nf*41,none⟩),undef,undef],defers:=[] } (Wa):=by
    refine wpAnyIn_ready hr11 (by simp) ?_
    exact (cV 11 (Wa.setCells g (nf*41) c'.toList) ho11 hd11 (by simp [Region.wanted,hgd11]) (by rw [hop11];intro c h;cases h) (kQ _ _ hop11 g (nf*41) c' rfl rfl _ (HTH.o.1) HCS.o.1 HCS.o.2) (by try simp only [List.setIfInBounds_toArray,List.set_cons_zero,List.set_cons_succ];exact d1) (cV 12 (Wa.setCell ⟨B+5,0,none⟩ (.slice (some ⟨g,0,none⟩) (nf+1) cap)) ho12 hd12 (by simp [Region.wanted,hgd12]) (by rw [hop12];intro c h;cases h) (zU _ _ hop12 (B+5) (nf+1) cap _ _ rfl rfl _ HC9.o.1.1 HC9.o.1.2) (by try simp only [List.setIfInBounds_toArray,List.set_cons_zero,List.set_cons_succ];exact d2) AllReadyIn.nil))
   have d4:wpAnyIn (Fence.wide.inRound l) 1 Tryz.prog .any ops Q 2 #[true,true,true,true,true,true,true,true,true,true,false,false,true] { tmps:=#[.string q,.pointer (some ⟨p,0,none⟩),.func (.func 80) #[.agg FC] #[],.pointer (some ⟨B,0,none⟩),undef,.pointer (some ⟨B+1,0,none⟩),.slice none 0 0,.slice none 0 0,.pointer (some ⟨B+3,0,none⟩),.pointer (some ⟨B+5,0,none⟩),.string xnm,.pointer (some ⟨xp,0,none⟩),.pointer (some ⟨p,0,none⟩),.pointer (some ⟨p,0,none⟩),.pointer (some ⟨p,39,none⟩),.pointer ak,.int .i64 (N:Int),.slice (some ⟨B+2,0,none⟩) 0 N,.pointer (some ⟨p,0,none⟩),.pointer (some ⟨p,0,none⟩),.pointer (some ⟨p,39,none⟩),.pointer ak,.int .i64 (N:Int),.slice (some ⟨B+4,0,none⟩) 0 N,.pointer (some ⟨p,0,none⟩),.func (.func 71) #[] #[.pointer (some ⟨B+6,0,none⟩)],.string xnm,.pointer (some ⟨xp,0,none⟩),un,.string xnm,.slice (some ⟨W.heap.size,0,none⟩) 1 1,UN,.slice bo nf vc,.func (.func 80) #[.agg FC] #[],.string q,.string xnm,.string (bel q xnm),.pointer (some ⟨xp,0,none⟩),.agg c',.int .i64 (nf:Int),.slice (some ⟨D,0,none⟩) 1 1,.slice (some ⟨g,0,none⟩) (nf+1) cap,undef,undef,undef],defers:=[] } (Wa.setCell ⟨B+5,0,none⟩ (.slice (some ⟨g,0,none⟩) (nf+1) cap)):=by
    refine wpAnyIn_ready hr14 (by simp) ?_
    exact (js 10 42 (.pointer (some ⟨g,nf*41,none⟩)) (Wa.setCell ⟨B+5,0,none⟩ (.slice (some ⟨g,0,none⟩) (nf+1) cap)) ho10 hd10 (by simp [Region.wanted,hgd10]) (by rw [hop10];intro c h;cases h) (av _ _ hop10 g nf cap rfl rfl _) (by try simp only [Act.put,sA,sB,sC];exact d2) AllReadyIn.nil)
   have d5:wpAnyIn (Fence.wide.inRound l) 1 Tryz.prog .any ops Q 3 #[true,true,true,true,true,true,true,true,true,true,false,false,false] { tmps:=#[.string q,.pointer (some ⟨p,0,none⟩),.func (.func 80) #[.agg FC] #[],.pointer (some ⟨B,0,none⟩),undef,.pointer (some ⟨B+1,0,none⟩),.slice none 0 0,.slice none 0 0,.pointer (some ⟨B+3,0,none⟩),.pointer (some ⟨B+5,0,none⟩),.string xnm,.pointer (some ⟨xp,0,none⟩),.pointer (some ⟨p,0,none⟩),.pointer (some ⟨p,0,none⟩),.pointer (some ⟨p,39,none⟩),.pointer ak,.int .i64 (N:Int),.slice (some ⟨B+2,0,none⟩) 0 N,.pointer (some ⟨p,0,none⟩),.pointer (some ⟨p,0,none⟩),.pointer (some ⟨p,39,none⟩),.pointer ak,.int .i64 (N:Int),.slice (some ⟨B+4,0,none⟩) 0 N,.pointer (some ⟨p,0,none⟩),.func (.func 71) #[] #[.pointer (some ⟨B+6,0,none⟩)],.string xnm,.pointer (some ⟨xp,0,none⟩),un,.string xnm,.slice (some ⟨W.heap.size,0,none⟩) 1 1,UN,.slice bo nf vc,.func (.func 80) #[.agg FC] #[],.string q,.string xnm,.string (bel q xnm),.pointer (some ⟨xp,0,none⟩),.agg c',.int .i64 (nf:Int),.slice (some ⟨D,0,none⟩) 1 1,.slice (some ⟨g,0,none⟩) (nf+1) cap,undef,undef,undef],defers:=[] } (Wa):=by
    refine wpAnyIn_ready hr10 (by simp) ?_
    exact (js 10 42 (.pointer (some ⟨g,nf*41,none⟩)) (Wa) ho10 hd10 (by simp [Region.wanted,hgd10]) (by rw [hop10];intro c h;cases h) (av _ _ hop10 g nf cap rfl rfl _) (by try simp only [Act.put,sA,sB,sC];exact d3) (cV 12 (Wa.setCell ⟨B+5,0,none⟩ (.slice (some ⟨g,0,none⟩) (nf+1) cap)) ho12 hd12 (by simp [Region.wanted,hgd12]) (by rw [hop12];intro c h;cases h) (zU _ _ hop12 (B+5) (nf+1) cap _ _ rfl rfl _ HC9.o.1.1 HC9.o.1.2) (by try simp only [List.setIfInBounds_toArray,List.set_cons_zero,List.set_cons_succ];exact d4) AllReadyIn.nil))
   exact js 9 41 (.slice (some ⟨g,0,none⟩) (nf+1) cap) Wa ho9 hd9 (by simp [Region.wanted,hgd9]) (by rw [hop9];intro c h;cases h) hx (by try simp only [Act.put,sA,sB,sC];exact d5) AllReadyIn.nil
  have HQ:∀ (d:Nat) (v:Value) (c:List PanicEntry) (a:Act) (w:World),Q (.panic c) (a.put (some d) v) w→Q (.panic c) a w:=by subst hQ;exact fun _ _ _ _ _ h=>h
  have FIN:=hid fin
  clear fin HPOST hQ ho9 ho10 ho11 ho12 hop9 hop10 hop11 hop12 hd9 hd10 hd11 hd12 hgd9 hgd10 hgd11 hgd12 hr9 hr10 hr11 hr12 hr13 hr14 hr15 HI HB3 HNR HW
  clear o9 o10 o11 o12
  subst hops
  refine eY jH 0 32 (.slice bo nf vc) rfl rfl (by kernel_rfl) (by kernel_rfl) (by kernel_rfl) (by kernel_rfl) (by kernel_rfl) (fun c a w=>HQ _ _ c a w) (by kernel_rfl) (fun wz hz=>?_) ?_
  ·have y:=(HC.o wz hz).1;go_simp
  try simp only [Act.put,sA,sB,sC]
  refine eY jH 1 33 (.func (.func 80) #[.agg FC] #[]) rfl rfl (by kernel_rfl) (by kernel_rfl) (by kernel_rfl) (by kernel_rfl) (by kernel_rfl) (fun c a w=>HQ _ _ c a w) (by kernel_rfl) (fun wz hz=>?_) ?_
  ·have y:=(HC.o wz hz).2.1;go_simp
  try simp only [Act.put,sA,sB,sC]
  refine eY jH 2 34 (.string q) rfl rfl (by kernel_rfl) (by kernel_rfl) (by kernel_rfl) (by kernel_rfl) (by kernel_rfl) (fun c a w=>HQ _ _ c a w) (by kernel_rfl) (fun wz hz=>?_) ?_
  ·have y:=(HC.o wz hz).2.2;go_simp
  try simp only [Act.put,sA,sB,sC]
  refine eY jH 3 35 (.string xnm) rfl rfl (by kernel_rfl) (by kernel_rfl) (by kernel_rfl) (by kernel_rfl) (by kernel_rfl) (fun c a w=>HQ _ _ c a w) (by kernel_rfl) (fun wz hz=>?_) ?_
  ·go_simp
  try simp only [Act.put,sA,sB,sC]
  refine callX jH 4 36 (.string (bel q xnm)) 152 #[.string q,.string xnm] rfl rfl (by kernel_rfl) (by kernel_rfl) (by kernel_rfl) (by kernel_rfl) (by kernel_rfl) (fun c a w=>HQ _ _ c a w) (by kernel_rfl) (fun wz=>by go_simp) (fun wz hz=>(CallsIn.inRound l (callsIn_wide.2 (C55.o wz))).mono (by rintro e w' ⟨rfl,rfl⟩;exact ⟨rfl,G.refl _⟩)) ?_
  try simp only [Act.put,sA,sB,sC]
  refine eY jH 5 37 (.pointer (some ⟨xp,0,none⟩)) rfl rfl (by kernel_rfl) (by kernel_rfl) (by kernel_rfl) (by kernel_rfl) (by kernel_rfl) (fun c a w=>HQ _ _ c a w) (by kernel_rfl) (fun wz hz=>?_) ?_
  ·go_simp
  try simp only [Act.put,sA,sB,sC]
  refine eY jH 7 39 (.int .i64 (nf:Int)) rfl rfl (by kernel_rfl) (by kernel_rfl) (by kernel_rfl) (by kernel_rfl) (by kernel_rfl) (fun c a w=>HQ _ _ c a w) (by kernel_rfl) (fun wz hz=>?_) ?_
  ·go_simp
  try simp only [Act.put,sA,sB,sC]
  refine ko [6,8] (by kernel_rfl) (by simp) fun wa hga=>?_
  refine AllX.call jH 6 38 80 #[.agg FC,.string (bel q xnm),.pointer (some ⟨xp,0,none⟩)] rfl rfl (by decide) (by kernel_rfl) (by kernel_rfl) (by go_simp) ((CallsIn.inRound l (callsIn_wide.2 (C33.o wa (HGw.o.trans hga)))).mono (by
   rintro e W2 ⟨c',rfl,hn,hg⟩
   refine ⟨_,rfl,hg,?_⟩
   try simp only [Act.put,sA,sB,sC]
   refine ko [8] (by kernel_rfl) (by simp) fun wb hgb=>?_
   refine AllX.value jH 8 40 (.slice (some ⟨wb.heap.size,0,none⟩) 1 1) (wb.alloc (.cells z30 30)) rfl rfl (by decide) (by kernel_rfl) (by kernel_rfl) (jy _ rfl z30 rfl jN wb _ rfl) (G.alloc _ _) ?_ AllX.nil
   try simp only [Act.put,sA,sB,sC]
   refine dL (by kernel_rfl) fun wc hgc=>?_
   exact FIN.o wb.heap.size c' wc ⟨((hga.trans hg).trans hgb).trans ((G.alloc _ _).trans hgc),pK hn hga ((hgb.trans (G.alloc _ _)).trans hgc),fun j u hj=>by rw [Addr.add_mid];exact hgc.cell (jW wb z30 30 j u hj)⟩)) ?_
  refine AllX.value jH 8 40 (.slice (some ⟨wa.heap.size,0,none⟩) 1 1) (wa.alloc (.cells z30 30)) rfl rfl (by decide) (by kernel_rfl) (by kernel_rfl) (jy _ rfl z30 rfl jN wa _ rfl) (G.alloc _ _) ?_ AllX.nil
  try simp only [Act.put,sA,sB,sC]
  refine ko [6] (by kernel_rfl) (by simp) fun wb hgb=>?_
  exact AllX.call jH 6 38 80 #[.agg FC,.string (bel q xnm),.pointer (some ⟨xp,0,none⟩)] rfl rfl (by decide) (by kernel_rfl) (by kernel_rfl) (by go_simp) ((CallsIn.inRound l (callsIn_wide.2 (C33.o wb (HGw.o.trans ((hga.trans (G.alloc _ _)).trans hgb))))).mono (by
   rintro e W2 ⟨c',rfl,hn,hg⟩
   refine ⟨_,rfl,hg,?_⟩
   try simp only [Act.put,sA,sB,sC]
   refine dL (by kernel_rfl) fun wc hgc=>?_
   exact FIN.o wa.heap.size c' wc ⟨((hga.trans (G.alloc _ _)).trans hgb).trans (hg.trans hgc),pK hn ((hga.trans (G.alloc _ _)).trans hgb) hgc,fun j u hj=>by rw [Addr.add_mid];exact ((hgb.trans hg).trans hgc).cell (jW wa z30 30 j u hj)⟩)) AllX.nil
 case done=>
  rintro D ys W hD hys ⟨un,ut,xs,T,hI⟩ hK
  have hys1:jk ys=k.items:=hys
  have hIk:GI w B q (.func (.func 80) #[.agg FC] #[]) k.flat.nameL ((k.flat.mp (pv ver) noM).blank) W un ut xs T:=by
   have h:=hI
   rw [hys1,pJ,lu,qC] at h
   exact h
  have hwd:w.heap.size≤D:=Nat.le_trans hle5 hD
  have HF:=hid (⟨hIk,hK,hwd⟩:_∧_∧_)
  have HC:Hid (∀ W',G W W'→W'.cell? ⟨B+3,0,none⟩=some un∧W'.cell? ⟨B+5,0,none⟩=some ut):=fun W' h=>⟨Boxed.cell (t:=106) (hIk.grow h).vn,Boxed.cell (t:=28) (hIk.grow h).vt⟩
  clear hI hIk hK hys hys1 hD hI5 hc5 hs5 hle5 hG5 hwd
  gi_wp2_with fail
  refine fw ?_
  refine lw jE 0 43 un rfl rfl (by kernel_rfl) (by kernel_rfl) (by kernel_rfl) (by kernel_rfl) (fun _ _ _ h=>h) (by kernel_rfl) (fun wz hz=>?_) ?_
  ·have y:=(HC.o wz ((G.drew W).trans hz)).1;go_simp
  try simp only [Act.put,sA,sB,sC]
  refine lw jE 1 44 ut rfl rfl (by kernel_rfl) (by kernel_rfl) (by kernel_rfl) (by kernel_rfl) (fun _ _ _ h=>h) (by kernel_rfl) (fun wz hz=>?_) ?_
  ·have y:=(HC.o wz ((G.drew W).trans hz)).2;go_simp
  try simp only [Act.put,sA,sB,sC]
  refine lw jE 2 6 un rfl rfl (by kernel_rfl) (by kernel_rfl) (by kernel_rfl) (by kernel_rfl) (fun _ _ _ h=>h) (by kernel_rfl) (fun wz hz=>?_) ?_
  ·go_simp
  try simp only [Act.put,sA,sB,sC]
  refine lw jE 3 7 ut rfl rfl (by kernel_rfl) (by kernel_rfl) (by kernel_rfl) (by kernel_rfl) (fun _ _ _ h=>h) (by kernel_rfl) (fun wz hz=>?_) ?_
  ·go_simp
  try simp only [Act.put,sA,sB,sC]
  refine doneII (by kernel_rfl) (fun W9 hg9=>?_)
  gi_wp2_with fail
  obtain ⟨hI,hK,hwd⟩:=HF.o
  have hg:G W W9:=(G.drew W).trans hg9
  have hK9:W9.heap[D]?=some (.deferred (some [])):=(Below.block hg D (gS hK)).trans hK
  refine ⟨by simp,.inl ⟨_,_,rfl,run_takeDeferred hK9,?_⟩⟩
  have hwB:w.heap.size=B:=hB
  have gI:GI w B q (.func (.func 80) #[.agg FC] #[]) k.flat.nameL ((k.flat.mp (pv ver) noM).blank) (W9.putObj D (.deferred none)) un ut xs T:=by
   refine (hI.grow hg).keep (Below.trans (B:=w.heap.size) (hI.g.trans hg) ⟨rfl,rfl,rfl,by simp,fun k hk=>World.putObj_heap_other (by omega)⟩) fun b o hb ho=>World.putObj_heap_other fun e=>?_
   rw [e,hK9] at hb
   cases hb
   cases ho
  refine ⟨_,results_tmp2 rfl _ _ _,un,ut,xs,T,rfl,gI.g,by rw [hwB];exact gI.on,by rw [hwB,← zT (pv ver) noM k.flat];exact gI.ot,gI.rc,fun b hb=>?_,fun g hg=>?_⟩
  ·obtain ⟨h8,h9,h10,_⟩:=gI.tt b hb
   exact ⟨⟨by omega,h9⟩,h10⟩
  ·obtain ⟨h8,_,cur,h9⟩:=ky gI.ot hg
   exact ⟨⟨by omega,_,h9,rfl⟩,(gI.ut_ne hg).2.2.2.2⟩
end Go.Proofs.YtjikkhbcbfpocaaGreatDoor
