import Derived.Test.YtdeanahpiigonaaGreatDoorSRefSha
set_option maxRecDepth 100000
set_option maxHeartbeats 1600000
namespace Go.Proofs.YtdeanahpiigonaaGreatDoor.Su
open Go.RowKit
theorem Tryz.infoR43:(Tryz.prog.info? 25).map (fun i=>(i.zero,i.size,i.bytes))=some (some (.slice none 0 0),1,24):=by kernel_rfl
theorem Tryz.infoR3:(Tryz.prog.info? 3).map (fun i=>(i.zero,i.size,i.bytes))=some (some (.int .i64 0),1,8):=by kernel_rfl
def iOf (v:Value):Nat:=match v with | .int _ i=>i.toNat | _=>0
@[simp] theorem ie (k:IntKind) (i:Int):iOf (.int k i)=i.toNat:=rfl
theorem kw {w:World} {x:Value} {T:TypeId}:∀ (j:Nat) (u:Value),[x][j]?=some u→(w.alloc (Obj.cells #[x] T)).cell? ((⟨w.heap.size,0,none⟩:Addr).add j)=some u:=by
 intro j u hj
 match j,hj with
 | 0,hj=>simp at hj;subst hj;simp [Addr.add]
theorem kx {w wr w1:World} {v:Value} {o:Obj} (hb:Below w.heap.size w wr) (hown:∀ k,v.ownBlock=some k→w.heap.size≤k) (hg:(wr.alloc o).grownBy w1 v.ownBlock):Below w.heap.size w w1:=
 (hb.alloc hb.size o).grown hg (by have:=hb.size;simp;omega) hown
def lotB (i:Nat):Nat:=if i%2=0 then 235 else 234
def zY (k:Nat):List Nat:=(List.range k).map lotB
theorem xY (k:Nat):(zY k).length=k:=by simp [zY]
theorem iR (k:Nat):zY (k+1)=zY k++[lotB k]:=by simp [zY,List.range_succ]
theorem nt (i:Nat):lotB i<256:=by unfold lotB;split<;>omega
theorem ez (i:Nat) (w:World) (hi:i≤1000000):
  Calls Tryz.prog 64 #[.int .i64 i] w fun e w'=>∃ z:Int,e=.returned (.int .i64 z)∧w'=w∧z%256=(lotB i:Int):=by
 by_cases c:i%2=0
 ·have e:lotB i=235:=by unfold lotB;rw [if_pos c]
  rw [e]
  go_enter Tryz.func64,Tryz.ntmps64
  go_wp2
  go_ret
  exact ⟨_,rfl,rfl,by decide⟩
 ·have e:lotB i=234:=by unfold lotB;rw [if_neg c]
  rw [e]
  go_enter Tryz.func64,Tryz.ntmps64
  go_wp2
  go_ret
  exact ⟨_,rfl,rfl,by decide⟩
theorem f8 (R:Nat) (w:World) (h1:w.cell? ⟨R,2,none⟩=some (.slice none 0 0)):
  Calls Tryz.prog 31 #[.pointer (some ⟨R,0,none⟩)] w fun e w'=>e=.returned (.bool true)∧w'=w:=by
 go_enter Tryz.func31,Tryz.ntmps31
 go_wp2
 go_loopw [3] (fun i wr=>i=.int .i64 0∧wr=w) (fun _ _=>0)
 case atStart=>exact ⟨rfl,rfl⟩
 case round=>
  obtain ⟨rfl,rfl⟩:=hrel
  go_wp2
  go_ret
  exact ⟨rfl,rfl⟩
theorem f9 (R:Nat) (w:World) (h1:w.cell? ⟨R,4,none⟩=some (.slice none 0 0)):
  Calls Tryz.prog 32 #[.pointer (some ⟨R,0,none⟩)] w fun e w'=>e=.returned (.bool true)∧w'=w:=by
 go_enter Tryz.func32,Tryz.ntmps32
 go_wp2
 go_loopw [3] (fun i wr=>i=.int .i64 0∧wr=w) (fun _ _=>0)
 case atStart=>exact ⟨rfl,rfl⟩
 case round=>
  obtain ⟨rfl,rfl⟩:=hrel
  go_wp2
  go_ret
  exact ⟨rfl,rfl⟩
theorem fA (R:Nat) (w:World) (h1:w.cell? ⟨R,6,none⟩=some (.slice none 0 0)):
  Calls Tryz.prog 33 #[.pointer (some ⟨R,0,none⟩)] w fun e w'=>e=.returned (.bool true)∧w'=w:=by
 go_enter Tryz.func33,Tryz.ntmps33
 go_wp2
 go_loopw [3] (fun i wr=>i=.int .i64 0∧wr=w) (fun _ _=>0)
 case atStart=>exact ⟨rfl,rfl⟩
 case round=>
  obtain ⟨rfl,rfl⟩:=hrel
  go_wp2
  go_ret
  exact ⟨rfl,rfl⟩
theorem fB (R:Nat) (w:World) (h1:w.cell? ⟨R,8,none⟩=some (.slice none 0 0)):
  Calls Tryz.prog 34 #[.pointer (some ⟨R,0,none⟩)] w fun e w'=>e=.returned (.bool true)∧w'=w:=by
 go_enter Tryz.func34,Tryz.ntmps34
 go_wp2
 go_loopw [3] (fun i wr=>i=.int .i64 0∧wr=w) (fun _ _=>0)
 case atStart=>exact ⟨rfl,rfl⟩
 case round=>
  obtain ⟨rfl,rfl⟩:=hrel
  go_wp2
  go_ret
  exact ⟨rfl,rfl⟩
theorem fC (R:Nat) (w:World) (h1:w.cell? ⟨R,10,none⟩=some (.slice none 0 0)):
  Calls Tryz.prog 35 #[.pointer (some ⟨R,0,none⟩)] w fun e w'=>e=.returned (.bool true)∧w'=w:=by
 go_enter Tryz.func35,Tryz.ntmps35
 go_wp2
 go_loopw [3] (fun i wr=>i=.int .i64 0∧wr=w) (fun _ _=>0)
 case atStart=>exact ⟨rfl,rfl⟩
 case round=>
  obtain ⟨rfl,rfl⟩:=hrel
  go_wp2
  go_ret
  exact ⟨rfl,rfl⟩
theorem fD (R:Nat) (w:World) (h1:w.cell? ⟨R,12,none⟩=some (.slice none 0 0)):
  Calls Tryz.prog 36 #[.pointer (some ⟨R,0,none⟩)] w fun e w'=>e=.returned (.bool true)∧w'=w:=by
 go_enter Tryz.func36,Tryz.ntmps36
 go_wp2
 go_loopw [3] (fun i wr=>i=.int .i64 0∧wr=w) (fun _ _=>0)
 case atStart=>exact ⟨rfl,rfl⟩
 case round=>
  obtain ⟨rfl,rfl⟩:=hrel
  go_wp2
  go_ret
  exact ⟨rfl,rfl⟩
theorem fE (R:Nat) (w:World) (h1:w.cell? ⟨R,14,none⟩=some (.slice none 0 0)):
  Calls Tryz.prog 37 #[.pointer (some ⟨R,0,none⟩)] w fun e w'=>e=.returned (.bool true)∧w'=w:=by
 go_enter Tryz.func37,Tryz.ntmps37
 go_wp2
 go_loopw [3] (fun i wr=>i=.int .i64 0∧wr=w) (fun _ _=>0)
 case atStart=>exact ⟨rfl,rfl⟩
 case round=>
  obtain ⟨rfl,rfl⟩:=hrel
  go_wp2
  go_ret
  exact ⟨rfl,rfl⟩
theorem fF (R:Nat) (w:World) (h1:w.cell? ⟨R,16,none⟩=some (.slice none 0 0)):
  Calls Tryz.prog 38 #[.pointer (some ⟨R,0,none⟩)] w fun e w'=>e=.returned (.bool true)∧w'=w:=by
 go_enter Tryz.func38,Tryz.ntmps38
 go_wp2
 go_loopw [3] (fun i wr=>i=.int .i64 0∧wr=w) (fun _ _=>0)
 case atStart=>exact ⟨rfl,rfl⟩
 case round=>
  obtain ⟨rfl,rfl⟩:=hrel
  go_wp2
  go_ret
  exact ⟨rfl,rfl⟩
theorem fG (R:Nat) (w:World) (h1:w.cell? ⟨R,18,none⟩=some (.slice none 0 0)):
  Calls Tryz.prog 39 #[.pointer (some ⟨R,0,none⟩)] w fun e w'=>e=.returned (.bool true)∧w'=w:=by
 go_enter Tryz.func39,Tryz.ntmps39
 go_wp2
 go_loopw [3] (fun i wr=>i=.int .i64 0∧wr=w) (fun _ _=>0)
 case atStart=>exact ⟨rfl,rfl⟩
 case round=>
  obtain ⟨rfl,rfl⟩:=hrel
  go_wp2
  go_ret
  exact ⟨rfl,rfl⟩
theorem fH (R:Nat) (w:World) (h1:w.cell? ⟨R,20,none⟩=some (.slice none 0 0)):
  Calls Tryz.prog 40 #[.pointer (some ⟨R,0,none⟩)] w fun e w'=>e=.returned (.bool true)∧w'=w:=by
 go_enter Tryz.func40,Tryz.ntmps40
 go_wp2
 go_loopw [3] (fun i wr=>i=.int .i64 0∧wr=w) (fun _ _=>0)
 case atStart=>exact ⟨rfl,rfl⟩
 case round=>
  obtain ⟨rfl,rfl⟩:=hrel
  go_wp2
  go_ret
  exact ⟨rfl,rfl⟩
theorem fI (R:Nat) (w:World) (h1:w.cell? ⟨R,22,none⟩=some (.slice none 0 0)):
  Calls Tryz.prog 41 #[.pointer (some ⟨R,0,none⟩)] w fun e w'=>e=.returned (.bool true)∧w'=w:=by
 go_enter Tryz.func41,Tryz.ntmps41
 go_wp2
 go_loopw [3] (fun i wr=>i=.int .i64 0∧wr=w) (fun _ _=>0)
 case atStart=>exact ⟨rfl,rfl⟩
 case round=>
  obtain ⟨rfl,rfl⟩:=hrel
  go_wp2
  go_ret
  exact ⟨rfl,rfl⟩
theorem fJ (R:Nat) (w:World) (h1:w.cell? ⟨R,24,none⟩=some (.slice none 0 0)):
  Calls Tryz.prog 42 #[.pointer (some ⟨R,0,none⟩)] w fun e w'=>e=.returned (.bool true)∧w'=w:=by
 go_enter Tryz.func42,Tryz.ntmps42
 go_wp2
 go_loopw [3] (fun i wr=>i=.int .i64 0∧wr=w) (fun _ _=>0)
 case atStart=>exact ⟨rfl,rfl⟩
 case round=>
  obtain ⟨rfl,rfl⟩:=hrel
  go_wp2
  go_ret
  exact ⟨rfl,rfl⟩
structure RoomB (w:World) (R g n:Nat):Prop where
 idle:∀ i,i<26→i≠0→i≠1→w.cell? ⟨R,i,none⟩=some (.slice none 0 0)
 rows:∃ b1 c1 b2 c2 cap,w.cell? ⟨R,0,none⟩=some (.slice (some ⟨b1,0,none⟩) 1 c1)∧w.cell? ⟨R,1,none⟩=some (.slice (some ⟨b2,0,none⟩) 1 c2)∧
  w.cell? ⟨b1,0,none⟩=some (.slice (some ⟨g,0,none⟩) (n+600) cap)∧w.cell? ⟨b2,0,none⟩=some (.int .i64 n)∧b1≠g∧b2≠g∧R≤b1∧R≤b2
 ne:R≠g
 fz:∀ i,i<n→w.frozen? ⟨g,i,none⟩=false
 marks:∀ i,i<600→w.cell? ⟨g,n+i,none⟩=some (vb (lotB i))
theorem RoomB.cells {w w':World} {R g n:Nat} (h:RoomB w R g n) (hc:∀ (a:Addr) (x:Value),w.cell? a=some x→w'.cell? a=some x) (hf:∀ i,i<n→w'.frozen? ⟨g,i,none⟩=false):RoomB w' R g n:=by
 obtain ⟨h1,⟨b1,c1,b2,c2,cap,q1,q2,q3,q4,q5,q6⟩,h3,h4,h5⟩:=h
 exact ⟨fun i a b c=>hc _ _ (h1 i a b c),⟨b1,c1,b2,c2,cap,hc _ _ q1,hc _ _ q2,hc _ _ q3,hc _ _ q4,q5,q6⟩,h3,hf,fun i hi=>hc _ _ (h5 i hi)⟩
theorem RoomB.below {w w':World} {R g n:Nat} (h:RoomB w R g n) (hb:Below w.heap.size w w'):RoomB w' R g n:=by
 refine h.cells (fun a x hx=>by rw [hb.cell (World.block_lt_of_cell? w _ hx)];exact hx) (fun i hi=>?_)
 have hg:g<w.heap.size:=World.block_lt_of_cell? w ⟨g,n+0,none⟩ (h.marks 0 (by omega))
 rw [hb.frozen (p:=⟨g,i,none⟩) hg]
 exact h.fz i hi
theorem bM (w:World) (g k i:Nat) (x:Value):(w.setCell ⟨g,k,none⟩ x).frozen? ⟨g,i,none⟩=w.frozen? ⟨g,i,none⟩:=by
 simp only [World.frozen?,World.setCell,Array.getElem?_modify,if_true]
 cases hh:w.heap[g]? with
 | none=>rfl
 | some ob=>cases ob<;>rfl
theorem RoomB.set {w:World} {R g n k:Nat} (h:RoomB w R g n) (hk:k<n) (x:Value):RoomB (w.setCell ⟨g,k,none⟩ x) R g n:=by
 have ho:∀ (b i:Nat),b≠g→(w.setCell ⟨g,k,none⟩ x).cell? ⟨b,i,none⟩=w.cell? ⟨b,i,none⟩:=fun b i hb=>World.cell?_setCell_other _ _ _ _ (fun e=>hb (congrArg Addr.block e).symm)
 obtain ⟨h1,⟨b1,c1,b2,c2,cap,q1,q2,q3,q4,q5,q6⟩,h3,h4,h5⟩:=h
 refine ⟨fun i a b c=>(ho R i h3).trans (h1 i a b c),⟨b1,c1,b2,c2,cap,(ho R 0 h3).trans q1,(ho R 1 h3).trans q2,(ho b1 0 q5).trans q3,(ho b2 0 q6.1).trans q4,q5,q6⟩,h3,fun i hi=>(bM w g k i x).trans (h4 i hi),fun i hi=>?_⟩
 rw [World.cell?_setCell_other _ _ _ _ (fun e=>by have:=congrArg Addr.off e;simp at this;omega)]
 exact h5 i hi
theorem cy (R g n:Nat) (w:World) (h:RoomB w R g n) (hn:n≤1048576):
  Calls Tryz.prog 30 #[.pointer (some ⟨R,0,none⟩)] w fun e w'=>e=.returned (.bool true)∧w'=w:=by
 obtain ⟨b1,c1,b2,c2,cap,q1,q2,q3,q4,_,_⟩:=h.rows
 have HM:Hid (∀ i,i<600→w.cell? ⟨g,n+i,none⟩=some (vb (lotB i))):=h.marks
 have C:=fun i W hi=>ez i W hi
 clear h
 go_enter Tryz.func30,Tryz.ntmps30
 go_wp2
 go_loopw [3] (fun i wr=>∃ k:Nat,k≤1∧i=.int .i64 k∧wr=w) (fun i _=>1-iOf i)
 case atStart=>exact ⟨0,by omega,rfl,rfl⟩
 case round=>
  obtain ⟨k,hk,rfl,rfl⟩:=hrel
  by_cases hk0:k=0
  ·subst hk0
   rw [show ((0:Nat):Int)=0 from rfl]
   go_wp2
   go_loopw [5] (fun y wz=>∃ m:Nat,m≤600∧y=.int .i64 ((n+m:Nat):Int)∧wz=wr) (fun y _=>n+600-iOf y)
   case atStart=>exact ⟨0,by omega,rfl,rfl⟩
   case round=>
    obtain ⟨m,hm,rfl,rfl⟩:=hrel
    by_cases hm4:m<600
    ·have i1:(m:Int)<600:=by omega
     have hc:=HM.out m hm4
     have CW:=C m wr (by omega)
     have e1:(n:Int)+(m:Int)-(n:Int)=(m:Int):=by omega
     unfold vb at hc
     generalize lotB m=x at *
     go_wp2_with (go_at_call 64;refine CW.mono ?_;rintro e w2 ⟨z,rfl,e2,hz⟩;subst e2)
     go_roundw
     case rel=>exact ⟨m+1,by omega,by go_num,by simp⟩
     case measure=>simp;omega
    ·have i1:¬ ((m:Int)<600):=by omega
     go_wp2
     go_roundw
     case rel=>exact ⟨1,by omega,by go_num,by simp⟩
     case measure=>simp
  ·obtain rfl:k=1:=by omega
   go_wp2
   go_ret
   exact ⟨rfl,rfl⟩
theorem di (R g n:Nat) (w:World) (h:RoomB w R g n) (hn:n≤1048576):
  Calls Tryz.prog 13 #[.pointer (some ⟨R,0,none⟩)] w fun e w'=>e=.returned (.bool true)∧w'=w:=by
 have C44:=cy R g n w h hn
 have C45:=f8 R w (h.idle 2 (by decide) (by decide) (by decide))
 have C46:=f9 R w (h.idle 4 (by decide) (by decide) (by decide))
 have C47:=fA R w (h.idle 6 (by decide) (by decide) (by decide))
 have C48:=fB R w (h.idle 8 (by decide) (by decide) (by decide))
 have C49:=fC R w (h.idle 10 (by decide) (by decide) (by decide))
 have C50:=fD R w (h.idle 12 (by decide) (by decide) (by decide))
 have C51:=fE R w (h.idle 14 (by decide) (by decide) (by decide))
 have C52:=fF R w (h.idle 16 (by decide) (by decide) (by decide))
 have C53:=fG R w (h.idle 18 (by decide) (by decide) (by decide))
 have C54:=fH R w (h.idle 20 (by decide) (by decide) (by decide))
 have C55:=fI R w (h.idle 22 (by decide) (by decide) (by decide))
 have C56:=fJ R w (h.idle 24 (by decide) (by decide) (by decide))
 clear h
 go_enter Tryz.func13,Tryz.ntmps13
 go_wp2_with (first
  | (go_at_call 30;refine C44.mono ?_;rintro e w2 ⟨rfl,e2⟩;subst e2)
  | (go_at_call 31;refine C45.mono ?_;rintro e w2 ⟨rfl,e2⟩;subst e2)
  | (go_at_call 32;refine C46.mono ?_;rintro e w2 ⟨rfl,e2⟩;subst e2)
  | (go_at_call 33;refine C47.mono ?_;rintro e w2 ⟨rfl,e2⟩;subst e2)
  | (go_at_call 34;refine C48.mono ?_;rintro e w2 ⟨rfl,e2⟩;subst e2)
  | (go_at_call 35;refine C49.mono ?_;rintro e w2 ⟨rfl,e2⟩;subst e2)
  | (go_at_call 36;refine C50.mono ?_;rintro e w2 ⟨rfl,e2⟩;subst e2)
  | (go_at_call 37;refine C51.mono ?_;rintro e w2 ⟨rfl,e2⟩;subst e2)
  | (go_at_call 38;refine C52.mono ?_;rintro e w2 ⟨rfl,e2⟩;subst e2)
  | (go_at_call 39;refine C53.mono ?_;rintro e w2 ⟨rfl,e2⟩;subst e2)
  | (go_at_call 40;refine C54.mono ?_;rintro e w2 ⟨rfl,e2⟩;subst e2)
  | (go_at_call 41;refine C55.mono ?_;rintro e w2 ⟨rfl,e2⟩;subst e2)
  | (go_at_call 42;refine C56.mono ?_;rintro e w2 ⟨rfl,e2⟩;subst e2))
 go_ret
 exact ⟨rfl,rfl⟩
theorem nu {w w':World} {lo e n:Nat} {v:Value} {xs:List Value} (h:w.ownsRow lo e 1 v n xs) (hb:∀ k,v.ownBlock=some k→w'.heap[k]?=w.heap[k]?):w'.ownsRow lo e 1 v n xs:=by
 obtain ⟨h1,h | ⟨g,cap,cur,hv,hg,hh,hr⟩⟩:=h
 ·exact ⟨h1,.inl h⟩
 ·subst hv
  exact ⟨h1,.inr ⟨g,cap,cur,rfl,hg,(hb g rfl).trans hh,hr⟩⟩
theorem row_form {w:World} {lo e n:Nat} {v:Value} {xs:List Value} (h:w.ownsRow lo e 1 v n xs):∃ o c,v=.slice o n c:=by
 obtain ⟨_,h | ⟨g,cap,cur,hv,_⟩⟩:=h
 ·exact ⟨none,0,by rw [h.1,h.2]⟩
 ·exact ⟨_,cap,hv⟩
theorem qH {w w':World} {R o:Nat} {x:Value} (h:w'.heap[R]?=w.heap[R]?) (hc:w.cell? ⟨R,o,none⟩=some x):w'.cell? ⟨R,o,none⟩=some x:=by
 simp only [World.cell?,h] at hc ⊢
 exact hc
theorem dj {w w':World} {R o:Nat} (h:w'.heap[R]?=w.heap[R]?) (hf:w.frozen? ⟨R,o,none⟩=false):w'.frozen? ⟨R,o,none⟩=false:=by
 simp only [World.frozen?,h] at hf ⊢
 exact hf
theorem dk {w:World} {R o b:Nat} {x:Value} (h:b≠R):(w.setCell ⟨R,o,none⟩ x).heap[b]?=w.heap[b]?:=by
 simp only [World.setCell]
 rw [Array.getElem?_modify]
 simp [Ne.symm h]
theorem gR (w:World) (a:Addr) (x:Value):(w.setCell a x).heap.size=w.heap.size:=by simp [World.setCell]
theorem nx (w:World):Owns (w.alloc (.cells #[] 5)) w.heap.size (.slice (some ⟨w.heap.size,0,none⟩) 0 0) []:=
 ⟨by simp,.inr ⟨_,0,#[],rfl,Nat.le_refl _,World.alloc_heap_new w _,Nat.le_refl _,Nat.zero_le _,by simp,by simp⟩⟩
theorem ny {w:World} {lo e:Nat} {v x:Value} (h:w.ownsRow lo e 1 v (0+1) ([]++[x])):∃ b c,v=.slice (some ⟨b,0,none⟩) 1 c∧lo≤b∧b<w.heap.size∧w.cell? ⟨b,0,none⟩=some x:=by
 have h0:=h
 have hl:=World.ownsRow.lt h
 obtain ⟨_,q | ⟨g,cap,cur,hv,hg,hr⟩⟩:=h
 ·simp at q
 ·subst hv
  refine ⟨g,cap,rfl,hg,(hl g rfl).2,?_⟩
  have:=World.ownsRow.cells h0 (g:=g) rfl 0 x (by simp)
  simpa [Addr.add] using this
theorem iS {w:World} {lo n:Nat} {g cap:Nat} {xs:List Value} (h:w.ownsRow lo 5 1 (.slice (some ⟨g,0,none⟩) n cap) n xs) (o:Nat):w.frozen? ⟨g,o,none⟩=false:=by
 obtain ⟨_,q | ⟨g',cap',cur,hv,hg,hh,hr⟩⟩:=h
 ·simp at q
 ·simp at hv
  obtain ⟨rfl,rfl⟩:=hv
  simp [World.frozen?,hh]
theorem a0Q (lo R:Nat) (vl:Value) (L:List Nat) (w:World) (hlo:lo≤R) (hR:R<w.heap.size) (hc:∀ i,i<26→w.cell? ⟨R,i,none⟩=some (.slice none 0 0)) (hf:∀ o,w.frozen? ⟨R,o,none⟩=false) (hl:Has w vl L) (hlen:L.length≤100000):
  Calls Tryz.prog 26 #[.pointer (some ⟨R,0,none⟩),vl,.int .i64 600] w fun e w'=>∃ g,e=.returned (.slice (some ⟨g,0,none⟩) L.length (L.length+600))∧lo≤g∧Has w' (.slice (some ⟨g,0,none⟩) L.length (L.length+600)) L∧RoomB w' R g L.length∧Below lo w w':=by
 have h4:=hc 0 (by decide)
 have h5:=hc 1 (by decide)
 have HC:Hid (∀ i,i<26→w.cell? ⟨R,i,none⟩=some (.slice none 0 0)):=hc
 have HF:Hid (∀ o,w.frozen? ⟨R,o,none⟩=false):=hf
 obtain ⟨i0,hi,hz0,hz1,hz2⟩:=info_parts Tryz.info5
 obtain ⟨ao,cap,hv,hcap⟩:=hl.form
 subst hv
 have HL:Hid (Has w (.slice ao L.length cap) L):=hl
 have CW:=fun i W hi=>ez i W hi
 clear hc hf hl
 go_enter Tryz.func26,Tryz.ntmps26
 go_wp2_with (at_builtin;refine jd rfl (.tmp 10) (.tmp 11) rfl w.heap.size _ _ [] L rfl rfl (nx w) (HL.out.below ((Below.refl _ _).alloc (Nat.le_refl _) _)) (by simp;omega) (by simp) ?_)
 intro v1 w1 ho1 hb1
 replace hb1:=((Below.refl w.heap.size w).alloc (Nat.le_refl _) (.cells #[] 5)).trans hb1
 go_wp2_with fail
 go_loopw [7,8] (fun v i wr=>∃ k:Nat,k≤600∧i=.int .i64 k∧Owns wr w.heap.size v (L++zY k)∧Below w.heap.size w wr) (fun _ i _=>600-iOf i)
 case atStart=>exact ⟨0,Nat.zero_le _,rfl,by simpa [zY] using ho1,hb1⟩
 case round=>
  obtain ⟨k,hk,rfl,hown,hb⟩:=hrel
  clear ho1 hb1
  by_cases hk6:k<600
  ·have hll:(L++zY k).length=L.length+k:=by simp [xY]
   have C:=CW k wr (by omega)
   have hnx:Hid (zY (k+1)=zY k++[lotB k]):=iR k
   obtain ⟨x,hx⟩:∃ x,lotB k=x:=⟨_,rfl⟩
   have hxb:x<256:=by rw [← hx];exact nt k
   rw [hx] at C hnx
   clear hx
   go_wp2_with (first | (go_at_call 64;refine C.mono ?_;rintro e w2 ⟨z,rfl,e2,hz⟩;subst e2) | (at_builtin;refine wpList_append_own _ rfl _ _ 25 rfl w.heap.size 5 i0 (.int .u8 0) 1 1 Tryz.underlying25 hi hz0 hz1 hz2 rfl (by decide) _ _ _ rfl (World.ownsRow.alloc hown _) ⟨w2.heap.size,0,none⟩ 1 1 [vb x] rfl rfl ?c1 ?c2 ?c3 ?c4 ?c5 ?_))
   case c1=>exact kw
   case c2=>intro u hu;simp at hu;subst hu;rfl
   case c3=>unfold maxLen;omega
   case c4=>omega
   case c5=>have:=hb.size;simp;omega
   intro v' w3 hown' hgrow _
   have R1:Owns w3 w.heap.size v' (L++zY (k+1)):=by
    rw [hnx.out,← List.append_assoc]
    unfold Owns
    simpa [Nat.add_assoc,xY] using hown'
   have R2:=kx hb (fun k hk=>(hown.lt k hk).1) hgrow
   clear hown' hgrow hown
   go_wp2
   go_roundw
   case rel=>exact ⟨k+1,by omega,by go_num,R1,R2⟩
   case measure=>simp;omega
  ·obtain rfl:k=600:=by omega
   obtain ⟨vo,vc,hvf,hvc⟩:=hown.has.form
   have hll:(L++zY 600).length=L.length+600:=by simp [xY]
   rw [hll] at hvf hvc
   obtain ⟨g,hg,hgw,hgr⟩:∃ g,vo=some ⟨g,0,none⟩∧w.heap.size≤g∧g<wr.heap.size:=by
    have hw:=hown.lt
    obtain ⟨_,h | ⟨g,cap',cur,hv,hgb,_⟩⟩:=hown
    ·rw [hvf] at h;simp at h
    ·rw [hvf] at hv hw
     simp at hv
     refine ⟨g,hv.1,?_⟩
     have:=hw g (by rw [hv.1];rfl)
     exact this
   subst hg
   have HO:Hid (Owns wr w.heap.size _ (L++zY 600)):=hown
   subst hvf
   have HB:Hid (Below w.heap.size w wr):=hb
   have hRb:=hb.block R hR
   have hRr:R<wr.heap.size:=Nat.lt_of_lt_of_le hR hb.size
   have k4:wr.cell? ⟨R,0,none⟩=some (.slice none 0 0):=qH hRb h4
   have k5:wr.cell? ⟨R,1,none⟩=some (.slice none 0 0):=qH hRb h5
   have HC2:Hid (∀ i,i<26→wr.cell? ⟨R,i,none⟩=some (.slice none 0 0)):=fun i hi=>qH hRb (HC.out i hi)
   have HF2:Hid (∀ o,wr.frozen? ⟨R,o,none⟩=false):=fun o=>dj hRb (HF.out o)
   clear hown hll h4 h5 HC HF hi hz0 hz1 hz2 hRb hb
   obtain ⟨i2,hi2,hy0,hy1,hy2⟩:=info_parts Tryz.infoR43
   obtain ⟨i3,hi3,hx0,hx1,hx2⟩:=info_parts Tryz.infoR3
   go_wp2_with (at_builtin;refine wpList_append_own _ rfl _ _ 31 rfl wr.heap.size 25 i2 (.slice none 0 0) 1 24 Tryz.underlying31 hi2 hy0 hy1 hy2 rfl (by decide) _ _ _ rfl (World.ownsRow_nil _ _ _ _) ⟨wr.heap.size,0,none⟩ 1 1 [.slice (some ⟨g,0,none⟩) (L.length+600) vc] rfl rfl ?c1 ?c2 ?c3 ?c4 ?c5 ?_)
   case c1=>exact kw
   case c2=>intro u hu;simp at hu;subst hu;rfl
   case c3=>unfold maxLen;omega
   case c4=>omega
   case c5=>simp
   intro v2 w2 ho2 hg2 _
   have b2:Below wr.heap.size wr w2:=kx (Below.refl _ _) (fun k hk=>by simp [Value.ownBlock] at hk) hg2
   obtain ⟨b1,c1,rfl,hb1,hb1w,hc1⟩:=ny ho2
   have hs2:=b2.size
   have q4:w2.cell? ⟨R,0,none⟩=some (.slice none 0 0):=(b2.cell (p:=⟨R,0,none⟩) hRr).trans k4
   have q5:w2.cell? ⟨R,1,none⟩=some (.slice none 0 0):=(b2.cell (p:=⟨R,1,none⟩) hRr).trans k5
   have f4:w2.frozen? ⟨R,0,none⟩=false:=(b2.frozen (p:=⟨R,0,none⟩) hRr).trans (HF2.out 0)
   have HC3:Hid (∀ i,i<26→w2.cell? ⟨R,i,none⟩=some (.slice none 0 0)):=fun i hi=>(b2.cell (p:=⟨R,i,none⟩) hRr).trans (HC2.out i hi)
   have HB2:Hid (Below wr.heap.size wr w2):=b2
   have HC1:Hid (w2.cell? ⟨b1,0,none⟩=some (.slice (some ⟨g,0,none⟩) (L.length+600) vc)):=hc1
   have F5:Hid (w2.frozen? ⟨R,1,none⟩=false):=(b2.frozen (p:=⟨R,1,none⟩) hRr).trans (HF2.out 1)
   clear b2 ho2 hg2 hc1 k4 k5 HC2 HF2
   go_wp2_with (at_builtin;refine wpList_append_own _ rfl _ _ 38 rfl w2.heap.size 3 i3 (.int .i64 0) 1 8 Tryz.underlying38 hi3 hx0 hx1 hx2 rfl (by decide) _ _ _ rfl (World.ownsRow_nil _ _ _ _) ⟨w2.heap.size,0,none⟩ 1 1 [.int .i64 L.length] rfl rfl ?c1 ?c2 ?c3 ?c4 ?c5 ?_)
   case c1=>
    have h:=@kw (w2.setCell ⟨R,0,none⟩ (.slice (some ⟨b1,0,none⟩) 1 c1)) (.int .i64 L.length) 3
    rw [gR] at h
    exact h
   case c2=>intro u hu;simp at hu;subst hu;rfl
   case c3=>unfold maxLen;omega
   case c4=>omega
   case c5=>simp
   intro v4 w4 ho4 hg4 _
   have b4:Below w2.heap.size (w2.setCell ⟨R,0,none⟩ (.slice (some ⟨b1,0,none⟩) 1 c1)) w4:=by
    have:=kx (w:=w2.setCell ⟨R,0,none⟩ (.slice (some ⟨b1,0,none⟩) 1 c1)) (Below.refl _ _) (fun k hk=>by simp [Value.ownBlock] at hk) hg4
    rw [gR] at this
    exact this
   obtain ⟨b3,c3,rfl,hb3,hb3w,hc3⟩:=ny ho4
   have hR2:R<w2.heap.size:=by omega
   have t5:w4.cell? ⟨R,1,none⟩=some (.slice none 0 0):=(b4.cell (p:=⟨R,1,none⟩) hR2).trans ((World.cell?_setCell_other _ _ _ _ (by simp)).trans q5)
   have t4:w4.cell? ⟨R,0,none⟩=some (.slice (some ⟨b1,0,none⟩) 1 c1):=(b4.cell (p:=⟨R,0,none⟩) hR2).trans (World.cell?_setCell_same _ _ _ q4)
   have u5:w4.frozen? ⟨R,1,none⟩=false:=(b4.frozen (p:=⟨R,1,none⟩) hR2).trans ((bM w2 R 0 1 _).trans F5.out)
   have HFIN:Hid (Has (w4.setCell ⟨R,1,none⟩ (.slice (some ⟨b3,0,none⟩) 1 c3)) (.slice (some ⟨g,0,none⟩) L.length (L.length+600)) L∧RoomB (w4.setCell ⟨R,1,none⟩ (.slice (some ⟨b3,0,none⟩) 1 c3)) R g L.length∧Below lo w (w4.setCell ⟨R,1,none⟩ (.slice (some ⟨b3,0,none⟩) 1 c3))):=by
    have hblk:∀ b,b<w2.heap.size→b≠R→(w4.setCell ⟨R,1,none⟩ (.slice (some ⟨b3,0,none⟩) 1 c3)).heap[b]?=w2.heap[b]?:=fun b hb0 hne=>
     (dk hne).trans ((b4.block b hb0).trans (dk hne))
    have hgblk:(w4.setCell ⟨R,1,none⟩ (.slice (some ⟨b3,0,none⟩) 1 c3)).heap[g]?=wr.heap[g]?:=(hblk g (by omega) (by omega)).trans (HB2.out.block g hgr)
    have ho:(w4.setCell ⟨R,1,none⟩ (.slice (some ⟨b3,0,none⟩) 1 c3)).ownsRow w.heap.size 5 1 (.slice (some ⟨g,0,none⟩) (L.length+600) vc) (L++zY 600).length ((L++zY 600).map vb):=nu HO.out (fun k hk=>by
     simp [Value.ownBlock] at hk
     subst hk
     exact hgblk)
    have hcg:∀ i s,(L++zY 600)[i]?=some s→(w4.setCell ⟨R,1,none⟩ (.slice (some ⟨b3,0,none⟩) 1 c3)).cell? ((⟨g,0,none⟩:Addr).add i)=some (vb s):=fun i s hi=>
     World.ownsRow.cells ho (g:=g) rfl i (vb s) (by rw [List.getElem?_map,hi];rfl)
    have hadd:∀ i,(⟨g,0,none⟩:Addr).add i=⟨g,i,none⟩:=fun i=>by
     unfold Addr.add;split
     ·rename_i e;rw [e]
     ·simp
    refine ⟨.inr ⟨⟨g,0,none⟩,L.length+600,rfl,by omega,fun i hi=>hcg i _ ?_⟩,⟨?_,⟨b1,c1,b3,c3,vc,?_,?_,?_,?_,by omega,by omega,by omega,by omega⟩,by omega,fun i _=>?_,fun i hi=>?_⟩,?_⟩
    ·rw [List.getElem?_append_left hi];simp [List.getD,gl hi]
    ·intro i h26 h4 h5
     refine (World.cell?_setCell_other _ _ _ _ (by simp<;>omega)).trans ((b4.cell (p:=⟨R,i,none⟩) hR2).trans ((World.cell?_setCell_other _ _ _ _ (by simp<;>omega)).trans (HC3.out i h26)))
    ·exact (World.cell?_setCell_other _ _ _ _ (by simp)).trans t4
    ·exact World.cell?_setCell_same _ _ _ t5
    ·exact qH (hblk b1 hb1w (by omega)) HC1.out
    ·exact (World.cell?_setCell_other _ _ _ _ (by simp<;>omega)).trans hc3
    ·exact iS (n:=L.length+600) (by have:=ho;simp only [List.length_append,xY] at this;exact this) i
    ·have:=hcg (L.length+i) (lotB i) (by rw [List.getElem?_append_right (by omega)];simp [zY,List.getElem?_range hi])
     rw [hadd] at this
     exact this
    ·exact ((((HB.out.mono (by omega)).trans (HB2.out.mono (by omega))).setCell (p:=⟨R,0,none⟩) hlo _).trans (b4.mono (by omega))).setCell (p:=⟨R,1,none⟩) hlo _
   clear b4 ho4 hg4 hc3 HC1 HB2 HC3 q4 q5 f4 t4 HB HO
   go_wp2
   go_ret
   exact ⟨g,rfl,by omega,HFIN.out⟩
theorem d6 (lo R:Nat) (vl:Value) (L:List Nat) (w:World) (hlo:lo≤R) (hR:R<w.heap.size) (hc:∀ i,i<26→w.cell? ⟨R,i,none⟩=some (.slice none 0 0)) (hf:∀ o,w.frozen? ⟨R,o,none⟩=false) (hl:Has w vl L) (hlen:L.length≤100000):
  Calls Tryz.prog 9 #[.pointer (some ⟨R,0,none⟩),vl] w fun e w'=>∃ g,e=.returned (.slice (some ⟨g,0,none⟩) L.length (L.length+600))∧lo≤g∧Has w' (.slice (some ⟨g,0,none⟩) L.length (L.length+600)) L∧RoomB w' R g L.length∧Below lo w w':=by
 have C:=a0Q lo R vl L w hlo hR hc hf hl hlen
 clear hc hf hl
 go_enter Tryz.func9,Tryz.ntmps9
 go_wp2_with fail
 refine C.mono ?_
 rintro e w1 ⟨g,rfl,h⟩
 have HX:Hid _:=h
 clear h C
 go_wp2
 go_ret
 exact ⟨g,rfl,HX.out⟩
end Go.Proofs.YtdeanahpiigonaaGreatDoor.Su
