import Derived.Test.YthfcanpkhjgomaaGreatVe
import Derived.Test.YthfcanpkhjgomaaGreatVr
set_option maxRecDepth 100000
set_option maxHeartbeats 2000000
namespace Go.Proofs.YthfcanpkhjgomaaGreat.Ch
open Go.RowKit
def Bx (w:World) (b t:Nat) (v:Value):Prop:=w.heap[b]?=some (.cells #[v] t (0,0))
theorem Bx.cell {w:World} {b t:Nat} {v:Value} (h:Bx w b t v):w.cell? ⟨b,0,none⟩=some v:=cell_of_row _ _ 0 _ _ _ h
theorem Bx.frozen {w:World} {b t:Nat} {v:Value} (h:Bx w b t v):w.frozen? ⟨b,0,none⟩=false:=by simp [World.frozen?,show w.heap[b]?=_ from h]
theorem Bx.set {w:World} {b t:Nat} {v:Value} (h:Bx w b t v) (u:Value):Bx (w.setCell ⟨b,0,none⟩ u) b t u:=by
 unfold Bx at *
 simp only [World.setCell,Array.getElem?_modify,if_true,h]
 rfl
theorem Bx.other {w:World} {b b' t:Nat} {v u:Value} (h:Bx w b t v) (hn:b≠b'):Bx (w.setCell ⟨b',0,none⟩ u) b t v:=(Below.heap_setCell w ⟨b',0,none⟩ u b hn).trans h
structure Gv (w:World) (lo Be Bw Bo Bn:Nat) (en wl:Bool) (v:Value) (n:Int) (R:List Cd):Prop where
 be:Bx w Be 4 (.bool en)
 bw:Bx w Bw 4 (.bool wl)
 bo:Bx w Bo 31 v
 bn:Bx w Bn 3 (.int .i64 n)
 ow:OwnsR w lo v R
 l1:Be<lo
 l2:Bw<lo
 l3:Bo<lo
 l4:Bn<lo
 d1:Be≠Bw
 d2:Be≠Bo
 d3:Be≠Bn
 d4:Bw≠Bo
 d5:Bw≠Bn
 d6:Bo≠Bn
theorem given1_any (w:World) (lo Be Bw Bo Bn:Nat) (wl:Bool) (v:Value) (n:Int) (R:List Cd) (c:Cd) (h:Gv w lo Be Bw Bo Bn false wl v n R) (hlo:lo≤w.heap.size) (hR:R.length≤50000):
  Calls Tryz.prog 57 #[.agg (cc c),.pointer (some ⟨Be,0,none⟩),.pointer (some ⟨Bw,0,none⟩),.pointer (some ⟨Bo,0,none⟩),.pointer (some ⟨Bn,0,none⟩)] w fun e w'=>∃ v',e=.returned (.bool (!decide (((R.length+1:Nat):Int)=n)))∧
   Gv w' lo Be Bw Bo Bn (decide (((R.length+1:Nat):Int)=n)) wl v' n (R++[c])∧w.heap.size≤w'.heap.size∧w'.os=w.os∧w'.tape=w.tape∧w'.output=w.output∧(∀ b,b<w.heap.size→b≠Be→b≠Bo→v.ownBlock≠some b→w'.heap[b]?=w.heap[b]?)∧∀ b,v'.ownBlock=some b→v.ownBlock=some b∨w.heap.size≤b:=by
 obtain ⟨Z,hZ⟩:∃ Z,cc c=Z:=⟨_,rfl⟩
 have HZ:Hid (cc c=Z∧Z.size=71∧Z.all (·.oneCell')=true):=⟨hZ,by rw [← hZ];exact cc_size _,by rw [← hZ];exact cc_one _⟩
 rw [hZ]
 obtain ⟨B,hB⟩:∃ B,w.heap.size=B:=⟨_,rfl⟩
 obtain ⟨w1,hw1⟩:∃ w1,w.alloc (.cells Z 66)=w1:=⟨_,rfl⟩
 have g1:Below w.heap.size w w1:=by rw [← hw1];exact (Below.refl _ w).alloc (Nat.le_refl _) _
 have s1:w1.heap.size=B+1:=by rw [← hw1];simp [hB]
 have lz:Lies w1 B 0 Z:=fun j u hj=>by rw [← hw1,← hB,Nat.zero_add];simp only [World.cell?,World.alloc_heap_new];exact hj
 obtain ⟨ao,uc,hv⟩:=h.ow.form
 have o1:OwnsR w1 lo v R:=h.ow.up g1
 obtain ⟨v2,w3,hr,o2,bl,kp,nn,nw⟩:=app_one 35 c Z hZ o1 (by omega) (by omega) (B+1) s1
 obtain ⟨k,hk⟩:∃ k,R.length=k:=⟨_,rfl⟩
 rw [hk] at hv hR ⊢
 subst hv
 obtain ⟨a2,c2,e2⟩:=o2.form
 rw [List.length_append,hk] at e2
 subst e2
 have lt:∀ {b t:Nat} {u:Value},Bx w b t u→b<w.heap.size:=fun hb=>(Array.getElem?_eq_some_iff.1 hb).1
 have nv:∀ b,b<lo→(Value.slice ao k uc).ownBlock≠some b:=fun b hb e=>by have:=(World.ownsRow.lt h.ow b e).1;omega
 have up1:∀ {b t:Nat} {u:Value},Bx w b t u→Bx w1 b t u:=fun hb=>(g1.block _ (lt hb)).trans hb
 have up3:∀ {b t:Nat} {u:Value},Bx w b t u→b<lo→Bx w3 b t u:=fun hb hl=>(kp _ (by have:=lt hb;omega) (nv _ hl)).trans (up1 hb)
 have E1:=(up1 h.be).cell
 have O1:=(up1 h.bo).cell
 have O3:=(up3 h.bo h.l3).cell
 have O3f:=(up3 h.bo h.l3).frozen
 obtain ⟨w4,hw4⟩:∃ w4,w3.setCell ⟨Bo,0,none⟩ (.slice a2 (k+1) c2)=w4:=⟨_,rfl⟩
 have be4:Bx w4 Be 4 (.bool false):=by rw [← hw4];exact (up3 h.be h.l1).other h.d2
 have bw4:Bx w4 Bw 4 (.bool wl):=by rw [← hw4];exact (up3 h.bw h.l2).other h.d4
 have bo4:Bx w4 Bo 31 (.slice a2 (k+1) c2):=by rw [← hw4];exact (up3 h.bo h.l3).set _
 have bn4:Bx w4 Bn 3 (.int .i64 n):=by rw [← hw4];exact (up3 h.bn h.l4).other (Ne.symm h.d6)
 have O4:=bo4.cell
 have N4:=bn4.cell
 have E4:=be4.cell
 have E4f:=be4.frozen
 obtain ⟨bb,hbb⟩:∃ bb,decide (((k+1:Nat):Int)=n)=bb:=⟨_,rfl⟩
 have hb2:(((k:Int)+1)==n)=bb:=by rw [← hbb];rw [Bool.eq_iff_iff];simp
 obtain ⟨w5,hw5⟩:∃ w5,w4.setCell ⟨Be,0,none⟩ (.bool bb)=w5:=⟨_,rfl⟩
 have be5:Bx w5 Be 4 (.bool bb):=by rw [← hw5];exact be4.set _
 have bw5:Bx w5 Bw 4 (.bool wl):=by rw [← hw5];exact bw4.other (Ne.symm h.d1)
 have bo5:Bx w5 Bo 31 (.slice a2 (k+1) c2):=by rw [← hw5];exact bo4.other (Ne.symm h.d2)
 have bn5:Bx w5 Bn 3 (.int .i64 n):=by rw [← hw5];exact bn4.other (Ne.symm h.d3)
 have E5:=be5.cell
 have k5:∀ b,b≠Be→b≠Bo→w5.heap[b]?=w3.heap[b]?:=fun b n1 n2=>by rw [← hw5,Below.heap_setCell _ _ _ _ n1,← hw4,Below.heap_setCell _ _ _ _ n2]
 have ow5:OwnsR w5 lo (.slice a2 (k+1) c2) (R++[c]):=Bk.rowB o2 fun b hb=>by
  have:=(World.ownsRow.lt o2 b hb).1
  exact k5 b (by have:=h.l1;omega) (by have:=h.l3;omega)
 have s5:w5.heap.size=w3.heap.size:=by rw [← hw5,← hw4];simp
 have FIN:Hid (Gv w5 lo Be Bw Bo Bn bb wl (.slice a2 (k+1) c2) n (R++[c])∧w.heap.size≤w5.heap.size∧w5.os=w.os∧w5.tape=w.tape∧w5.output=w.output∧(∀ b,b<w.heap.size→b≠Be→b≠Bo→(Value.slice ao k uc).ownBlock≠some b→w5.heap[b]?=w.heap[b]?)∧∀ b,(Value.slice a2 (k+1) c2).ownBlock=some b→(Value.slice ao k uc).ownBlock=some b∨w.heap.size≤b):=by
  refine ⟨⟨be5,bw5,bo5,bn5,ow5,h.l1,h.l2,h.l3,h.l4,h.d1,h.d2,h.d3,h.d4,h.d5,h.d6⟩,by have:=bl.size;omega,?_,?_,?_,fun b hb n1 n2 n3=>?_,fun b e=>(nw b e).imp id fun q=>by have:=g1.size;omega⟩
  ·rw [← hw5,← hw4];exact bl.os.trans g1.os
  ·rw [← hw5,← hw4];exact bl.tape.trans g1.tape
  ·rw [← hw5,← hw4];exact bl.output.trans g1.output
  ·exact (k5 b n1 n2).trans ((kp b (by omega) n3).trans (g1.block b hb))
 have HR:=hid hr
 have HL:=hid lz
 rw [hbb]
 clear h o1 o2 bl kp nn nw lt nv up1 up3 be4 bw4 bo4 bn4 be5 bw5 bo5 bn5 k5 ow5 s5 hr lz g1 hZ hbb
 go_enter Tryz.func57,Tryz.ntmps57
 go_upto_region 5 with (first
  | ((with_reducible refine wpList_exec (.agg Z) ?_ ?_ ?_);exact exec_load 66 _ rfl B 0 rfl Z _ HL.out under55 rfl (by rw [size55,HZ.out.2.1]);kernel_rfl)
  | ((with_reducible refine wpList_execW (.slice (some ⟨B+1,0,none⟩) 1 1) (w1.alloc (.cells Z 66)) ?_ ?_ ?_);exact exec_slice55 _ rfl Z rfl HZ.out.2.1 _ _ s1;kernel_rfl)
  | ((with_reducible refine wpList_execW (.slice a2 (k+1) c2) w3 ?_ ?_ ?_);exact exec_app (v:=.slice ao k uc) (src:=.slice (some ⟨B+1,0,none⟩) 1 1) rfl rfl rfl HR.out;kernel_rfl))
 go_wp2
 go_ret
 exact ⟨_,rfl,FIN.out⟩
end Go.Proofs.YthfcanpkhjgomaaGreat.Ch
namespace Go.Proofs.YthfcanpkhjgomaaGreat
open Go.RowKit Ch
def dropE (t:T3) (s:ByteArray):Int:=if wayE t s≠0 then wayE t s else if cutN s=[] then 46 else if dn t (cutN s)=none then 45 else 0
def OneTo (E:Int) (r:T3) (w:World) (e:Ending) (w':World):Prop:=∃ u,e=.returned (.tuple #[u,.int .i64 E])∧G w w'∧(E≠0→u=.pointer none)∧(E=0→∃ p',u=.pointer (some ⟨p',0,none⟩)∧T1 w' p' r)
theorem drop_any (p:Nat) (t:T3) (s:ByteArray) (w:World) (ht:T1 w p t) (hr:t.2.2.rises) (hs:s.size≤1048576) (hb:t.2.2.size≤150000):
  Calls Tryz.prog 86 #[.pointer (some ⟨p,0,none⟩),.string s] w (OneTo (dropE t s) (dropT t (cutN s)) w):=by
 by_cases h0:wayE t s=0
 case neg=>
  have hE:dropE t s=wayE t s:=by unfold dropE;rw [if_pos h0]
  rw [hE]
  have C1:=way_any p t s w ht hr hs
  obtain ⟨E,hE2⟩:∃ E,wayE t s=E:=⟨_,rfl⟩
  rw [hE2] at C1 h0 ⊢
  have h1:(E != 0)=true:=by simpa using h0
  have H0:=hid h0
  clear hE hE2 h0 ht hr
  go_enter Tryz.func86,Tryz.ntmps86
  go_wp2_with (go_at_call 119;refine C1.mono ?_;rintro e w1 ⟨an,n,cn,rfl,_,hg1⟩;have HG1:=hid hg1;clear hg1)
  go_ret2
  exact ⟨_,rfl,HG1.out,fun _=>rfl,fun h=>absurd h H0.out⟩
 by_cases hc:cutN s=[]
 ·have hE:dropE t s=46:=by unfold dropE;rw [if_neg (by simpa using h0),if_pos hc]
  rw [hE]
  exact (drop_root p t s w ht hr hs h0 hc).mono fun e w' ⟨h1,h2⟩=>⟨_,h1,h2,fun _=>rfl,fun h=>absurd h (by decide)⟩
 cases hd:dn t (cutN s) with
 | none=>
  have hE:dropE t s=45:=by unfold dropE;rw [if_neg (by simpa using h0),if_neg hc,if_pos hd]
  rw [hE]
  exact (drop_none p t s w ht hr hs h0 hc hd).mono fun e w' ⟨h1,h2⟩=>⟨_,h1,h2,fun _=>rfl,fun h=>absurd h (by decide)⟩
 | some z=>
  have hE:dropE t s=0:=by unfold dropE;rw [if_neg (by simpa using h0),if_neg hc,if_neg (by rw [hd];simp)]
  rw [hE]
  exact (drop_done p t s w ht hr hs h0 hc z hd (by omega)).mono fun e w' ⟨p',h1,h2,h3⟩=>⟨_,h1,h3,fun h=>absurd rfl h,fun _=>⟨p',rfl,h2⟩⟩
def Cel (A B:World):Prop:=∀ (a:Addr) u,A.cell? a=some u→B.cell? a=some u
theorem Cel.lies {A B:World} (h:Cel A B) {g o:Nat} {c:Array Value} (hl:Lies A g o c):Lies B g o c:=fun j u hj=>h _ _ (hl j u hj)
theorem At.cel {A B:World} (h:Cel A B):∀ {k:K} {u:Value},At A k u→At B k u
 | .nil,_,q=>q
 | .node _ _ _ _ _ _ _ _,_,⟨h1,pk,pa,pb,⟨h2,h3⟩,h4,h5,h6⟩=>⟨h1,pk,pa,pb,⟨h.lies h2,h.lies h3⟩,At.cel h h4,At.cel h h5,At.cel h h6⟩
theorem T1.cel {A B:World} (h:Cel A B) (hT:∀ b,Tr A b→Tr B b) {p:Nat} {t:T3} (ht:T1 A p t):T1 B p t:=by
 obtain ⟨k,⟨pk,h1,h2⟩,h3,h4,h5⟩:=ht
 exact ⟨k,⟨pk,h.lies h1,h2.cel h⟩,h3,K.all_monoR hT h4,h5.1,hT _ h5.2⟩
theorem cel_grown {A B:World} {row:Option Nat} (hg:A.grownBy B row) (hr:∀ r,row=some r→∃ o:Obj,A.heap[r]?=some o∧o.isCells=false):Cel A B:=fun a u ha=>by
 have hlt:=World.block_lt_of_cell? _ _ ha
 obtain ⟨o,ho⟩:∃ o,A.heap[a.block]?=some o:=⟨A.heap[a.block]'hlt,Array.getElem?_eq_getElem hlt⟩
 have hc:o.isCells=true:=by
  cases o<;>first | rfl | (exfalso;simp [World.cell?,ho] at ha)
 exact (World.cell?_of_block (a:=a) (grownBy_keeps_cells hg hr ho hc)).trans ha
theorem bx_grown {A B:World} {row:Option Nat} (hg:A.grownBy B row) (hr:∀ r,row=some r→∃ o:Obj,A.heap[r]?=some o∧o.isCells=false) {b t:Nat} {v:Value} (h:Bx A b t v):Bx B b t v:=(grownBy_keeps_cells hg hr h rfl).trans h
theorem tr_grown {A B:World} {row:Option Nat} (hg:A.grownBy B row) (hr:∀ r,row=some r→∃ o:Obj,A.heap[r]?=some o∧o.isCells=false) (b:Nat) (h:Tr A b):Tr B b:=by
 obtain ⟨c,h⟩:=h
 exact ⟨c,(grownBy_keeps_cells hg hr h rfl).trans h⟩
theorem below_grown {w A B:World} {row:Option Nat} (hb:G w A) (hg:A.grownBy B row) (hr:∀ r,row=some r→w.heap.size≤r):G w B:=
 ⟨hg.os.trans hb.os,hg.tape.trans hb.tape,hg.output.trans hb.output,Nat.le_trans hb.size hg.size,fun b h=>(hg.block b (Nat.lt_of_lt_of_le h hb.size) (fun e=>by have:=hr b e.symm;omega)).trans (hb.block b h)⟩
end Go.Proofs.YthfcanpkhjgomaaGreat
