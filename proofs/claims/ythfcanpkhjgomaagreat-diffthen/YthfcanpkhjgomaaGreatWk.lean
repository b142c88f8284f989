import Derived.Test.YthfcanpkhjgomaaGreatTThenR
import Derived.Test.YthfcanpkhjgomaaGreatWj
import Derived.Test.YthfcanpkhjgomaaGreatWg
set_option maxRecDepth 100000
set_option maxHeartbeats 8000000
namespace Go.Proofs.YthfcanpkhjgomaaGreat.Th
open Go.RowKit Ch Bk
attribute [local go_sem] Oper.semAt_some
theorem sideF_any (a b f:Value) (w:World) (T:Nat) (hT:w.heap.size=T) (ha:∃ p q r,a=.slice p q r) (hb:∃ p q r,b=.slice p q r) (hf:f=.func (.func 65) #[] #[]):
  Calls Tryz.prog 64 #[a,b,f] w fun e w'=>e=.returned (.func (.func 101) #[] #[.pointer (some ⟨T,0,none⟩),.pointer (some ⟨T+1,0,none⟩),.pointer (some ⟨T+2,0,none⟩)])∧w'=((w.alloc (.cells #[a] 31)).alloc (.cells #[b] 31)).alloc (.cells #[f] 114):=by
 have hmf:∀ (fn:Fn) (first cap:Array Value) (w:World),(Instr.makeFunc fn first cap).run Tryz.prog w=.ok (.func fn first cap) w:=fun _ _ _ _=>rfl
 obtain ⟨p,q,r,rfl⟩:=ha
 obtain ⟨p',q',r',rfl⟩:=hb
 subst hf
 go_enter Tryz.func64,Tryz.ntmps64
 go_wp2
 go_ret
 exact ⟨rfl,rfl⟩
theorem HasA.place {w:World} {ao:Option Addr} {n cp:Nat} {L:List Cd} (h:HasA w (.slice ao n cp) L):∃ g o,∀ i x,L[i]?=some x→ao=some ⟨g,o,none⟩∧g<w.heap.size∧Lies w g (o+i*71) (cc x):=by
 rcases h with ⟨_,rfl⟩ | ⟨g,o,cap,e,_,h⟩
 ·exact ⟨0,0,fun i x hi=>by simp at hi⟩
 ·injection e with e1 _ _
  exact ⟨g,o,fun i x hi=>⟨e1,World.block_lt_of_cell? w ⟨g,o+i*71,none⟩ (h i x hi).path,h i x hi⟩⟩
theorem row_mono {w:World} {lo lo' e s n:Nat} {v:Value} {xs:List Value} (h:w.ownsRow lo e s v n xs) (hl:lo'≤lo):w.ownsRow lo' e s v n xs:=by
 obtain ⟨h1,h | ⟨g,cap,cur,e,hg,r⟩⟩:=h
 ·exact ⟨h1,.inl h⟩
 ·exact ⟨h1,.inr ⟨g,cap,cur,e,Nat.le_trans hl hg,r⟩⟩
def ThI (A B:List Cd) (w:World) (B0 T6 lo:Nat) (pre:List (Pv A B)) (W:World):Prop:=
 ((∃ v,Boxed W T6 31 v∧W.ownsRow lo 66 71 v (outs A B (pre.map (·.1))).length (rcs (outs A B (pre.map (·.1))))∧True)∧
  (wrong A B (pre.map (·.1))=false∧lo≤W.heap.size∧W.cell? ⟨B0,0,none⟩=some (.slice none 0 0)∧W.frozen? ⟨B0,0,none⟩=false∧W.cell? ⟨B0+1,0,none⟩=some (.int .i64 0)∧W.frozen? ⟨B0+1,0,none⟩=false))∧Below w.heap.size w W
def ThX (A B:List Cd) (w:World) (B0:Nat) (c:Code) (pre:List (Pv A B)) (W:World):Prop:=
 (c=.ret∧wrong A B (pre.map (·.1))=true∧W.cell? ⟨B0,0,none⟩=some (.slice none 0 0)∧W.cell? ⟨B0+1,0,none⟩=some (.int .i64 131))∧Below w.heap.size w W
theorem ThI.own (A B:List Cd) (w:World) (B0 T6 lo N:Nat) (h:w.heap.size≤N):OwnFrom N (ThI A B w B0 T6 lo):=
 OwnFrom.and (OwnFrom.and (Own.from (holdsRow_own lo T6 31 66 71 (fun pre:List (Pv A B)=>(outs A B (pre.map (·.1))).length) (fun pre=>rcs (outs A B (pre.map (·.1)))) (fun _ _=>True)) _)
  (Own.from (fun _ _ _ _ hs hg hr=>⟨hs.1,Nat.le_trans hs.2.1 hg.size,cell_kept hs.2.2.1 hg hr,(frozen_kept hs.2.2.1 hg hr).trans hs.2.2.2.1,cell_kept hs.2.2.2.2.1 hg hr,(frozen_kept hs.2.2.2.2.1 hg hr).trans hs.2.2.2.2.2⟩) _)) (ownFrom_below (Nat.le_refl _) h)
theorem ThX.own (A B:List Cd) (w:World) (B0 N:Nat) (h:w.heap.size≤N) (c:Code):OwnFrom N (ThX A B w B0 c):=
 OwnFrom.and (Own.from (fun _ _ _ _ hs hg hr=>⟨hs.1,hs.2.1,cell_kept hs.2.2.1 hg hr,cell_kept hs.2.2.2 hg hr⟩) _) (ownFrom_below (Nat.le_refl _) h)
theorem drew_keeps {W W':World} (h:Drew W W'):KeepsOthers W W':=below_keeps h.below
theorem ThI.drew {A B:List Cd} {w:World} {B0 T6 lo:Nat} {pre:List (Pv A B)} {W W':World} (h:ThI A B w B0 T6 lo pre W) (hd:Drew W W'):ThI A B w B0 T6 lo pre W':=
 ThI.own A B w B0 T6 lo w.heap.size (Nat.le_refl _) pre W W' none h (drew_grown hd) (fun r e=>by cases e)
theorem ThI.app {A B:List Cd} {w:World} {B0 T6 lo Ba Bb Bf:Nat} {pre:List (Pv A B)} {W:World} (h:ThI A B w B0 T6 lo pre W) (x:Pv A B) (c:Cd) (hx:outP A B x.1=[c]) (hbad:badP A B x.1=false) (hlen:(outs A B (pre.map (·.1))).length≤20000)
  (hB0:w.heap.size=B0) (hT:B0+1<T6) (hTl:T6<lo) (hBa:Ba<lo∧Ba≠T6) (hBb:Bb<lo∧Bb≠T6) (hBf:Bf<lo∧Bf≠T6):
  ∃ v v2 Bn wB wC wD,W.drew.cell? ⟨T6,0,none⟩=some v∧W.drew.alloc (.cells (cc c) 66)=wB∧W.drew.heap.size=Bn∧wB.cell? ⟨T6,0,none⟩=some v∧(Builtin.append_ #[31,31] 31 #[v,.slice (some ⟨Bn,0,none⟩) 1 1]).run Tryz.prog wB=.ok v2 wC∧(∃ p a b,v2=.slice p a b)∧wC.cell? ⟨T6,0,none⟩=some v∧wC.frozen? ⟨T6,0,none⟩=false∧wC.setCell ⟨T6,0,none⟩ v2=wD∧
   KeepsOthers W wD∧KeepD w.heap.size Ba Bb Bf W wD∧ThI A B w B0 T6 lo (pre++[x]) wD:=by
 have hd:Drew W W.drew:=⟨1,rfl⟩
 obtain ⟨⟨⟨v,bx,ow,-⟩,hw,hlo,c4,f4,c5,f5⟩,hbel⟩:=h.drew hd
 have how:OwnsR W.drew lo v (outs A B (pre.map (·.1))):=ow
 obtain ⟨v2,wC,hr,ow2,gb,hblk,_⟩:=app_one 31 c _ rfl how hlo (by omega) _ rfl
 have hblk':∀ b,b<lo→wC.heap[b]?=W.drew.heap[b]?:=fun b hb=>hblk b (by omega) (fun e=>by have:=(World.ownsRow.lt ow b e).1;omega)
 have bxC:Boxed wC T6 31 v:=(hblk' T6 hTl).trans bx
 have hsz:W.drew.heap.size≤wC.heap.size:=gb.size
 have hset:∀ b,b≠T6→(wC.setCell ⟨T6,0,none⟩ v2).heap[b]?=wC.heap[b]?:=fun b hb=>Below.heap_setCell wC ⟨T6,0,none⟩ v2 b hb
 have hcD:∀ b,b<lo→b≠T6→(wC.setCell ⟨T6,0,none⟩ v2).heap[b]?=W.drew.heap[b]?:=fun b h1 h2=>(hset b h2).trans (hblk' b h1)
 refine ⟨v,v2,_,_,wC,_,bx.cell,rfl,rfl,(bx.alloc _).cell,hr,(by obtain ⟨p,q,e⟩:=row_form ow2;exact ⟨p,_,q,e⟩),bxC.cell,bxC.frozen,rfl,?_,?_,?_⟩
 ·refine (drew_keeps hd).trans (KeepsOthers.trans (B:=wC) ⟨hsz,fun k o hk ho=>?_⟩ (KeepsOthers.setCell _ _ _))
  refine (hblk k (Array.getElem?_eq_some_iff.1 hk).1 (fun e=>?_)).trans hk
  obtain ⟨_,q | ⟨g,cap,cur,e2,_,hh,_⟩⟩:=ow
  ·rw [q.1] at e;cases e
  ·rw [e2] at e
   cases e
   rw [hk] at hh
   cases hh
   cases ho
 ·refine ⟨by simpa using hsz,fun b hb=>?_⟩
  rcases hb with hb | rfl | rfl | rfl
  ·exact hcD b (by omega) (by omega)
  ·exact hcD _ hBa.1 hBa.2
  ·exact hcD _ hBb.1 hBb.2
  ·exact hcD _ hBf.1 hBf.2
 ·have hout:outs A B ((pre++[x]).map (·.1))=outs A B (pre.map (·.1))++[c]:=by rw [List.map_append];simp only [List.map_cons,List.map_nil];rw [outs_snoc,hx]
  have hwr:wrong A B ((pre++[x]).map (·.1))=false:=by rw [List.map_append];simp only [List.map_cons,List.map_nil];rw [wrong_snoc,hw,hbad];rfl
  have k4:=hcD B0 (by omega) (by omega)
  have k5:=hcD (B0+1) (by omega) (by omega)
  refine ⟨⟨⟨v2,bxC.set v2,?_,trivial⟩,hwr,by simp;omega,(World.cell?_of_block k4).trans c4,(World.frozen?_of_block k4).trans f4,(World.cell?_of_block k5).trans c5,(World.frozen?_of_block k5).trans f5⟩,?_⟩
  ·rw [hout]
   exact Bk.rowB ow2 fun k hk=>hset k (by have:=(World.ownsRow.lt ow2 k hk).1;omega)
  ·refine ⟨gb.os.trans hbel.os,gb.tape.trans hbel.tape,gb.output.trans hbel.output,by have:=hbel.size;simp;omega,fun b hb=>?_⟩
   exact (hcD b (by omega) (by omega)).trans (hbel.block b hb)
theorem ThI.same {A B:List Cd} {w:World} {B0 T6 lo:Nat} {pre:List (Pv A B)} {W:World} (h:ThI A B w B0 T6 lo pre W) (x:Pv A B) (hx:outP A B x.1=[]) (hbad:badP A B x.1=false):ThI A B w B0 T6 lo (pre++[x]) W:=by
 have hout:outs A B ((pre++[x]).map (·.1))=outs A B (pre.map (·.1)):=by rw [List.map_append];simp only [List.map_cons,List.map_nil];rw [outs_snoc,hx,List.append_nil]
 have hwr:wrong A B ((pre++[x]).map (·.1))=wrong A B (pre.map (·.1)):=by rw [List.map_append];simp only [List.map_cons,List.map_nil];rw [wrong_snoc,hbad,Bool.or_false]
 obtain ⟨⟨h1,h2⟩,h3⟩:=h
 exact ⟨⟨by rw [hout];exact h1,by rw [hwr];exact h2⟩,h3⟩
theorem then_any (ao bo:Option Addr) (cp cq:Nat) (A B:List Cd) (w:World) (ha:HasA w (.slice ao A.length cp) A) (hb:HasA w (.slice bo B.length cq) B) (hn:A.length≤10000) (hm:B.length≤10000) (hpa:∀ c∈A,c.path.size≤1048576) (hpb:∀ c∈B,c.path.size≤1048576):
  Calls Tryz.prog 23 #[.slice ao A.length cp,.slice bo B.length cq] w fun e w'=>∃ v,e=.returned (.tuple #[v,.int .i64 (thenE A B)])∧OwnsR w' w.heap.size v (thenR A B)∧Below w.heap.size w w':=by
 obtain ⟨n,hn'⟩:∃ n,A.length=n:=⟨_,rfl⟩
 obtain ⟨m,hm'⟩:∃ m,B.length=m:=⟨_,rfl⟩
 obtain ⟨B0,hB0⟩:∃ B0,w.heap.size=B0:=⟨_,rfl⟩
 have HCA:Hid (∀ W,Below w.heap.size w W→Calls Tryz.prog 38 #[.slice ao A.length cp] W fun e w'=>e=.returned (.bool (riseB none A))∧Below W.heap.size W w'):=fun W hW=>rises_any ao cp A W (ha.below hW) (by omega) hpa
 have HCB:Hid (∀ W,Below w.heap.size w W→Calls Tryz.prog 38 #[.slice bo B.length cq] W fun e w'=>e=.returned (.bool (riseB none B))∧Below W.heap.size W w'):=fun W hW=>rises_any bo cq B W (hb.below hW) (by omega) hpb
 have HA:=hid ha
 have HB:=hid hb
 have HN:=hid hn'
 have HM:=hid hm'
 have HPA:=hid hpa
 have HPB:=hid hpb
 rw [hn'] at hn HA HCA ⊢
 rw [hm'] at hm HB HCB ⊢
 clear ha hb hn' hm' hpa hpb
 obtain ⟨w0,hw0⟩:∃ w0,(w.alloc (.cells #[.slice none 0 0] 31)).alloc (.cells #[.int .i64 0] 57)=w0:=⟨_,rfl⟩
 have b4:Boxed w0 B0 31 (.slice none 0 0):=by rw [← hw0,← hB0];exact (Boxed.new w 31 _).alloc _
 have b5:Boxed w0 (B0+1) 57 (.int .i64 0):=by
  rw [← hw0,← hB0]
  have:=Boxed.new (w.alloc (.cells #[.slice none 0 0] 31)) 57 (.int .i64 0)
  rwa [World.size_alloc] at this
 have g0:Below w.heap.size w w0:=by rw [← hw0];exact ((Below.refl _ w).alloc (Nat.le_refl _) _).alloc (by simp) _
 have s0:w0.heap.size=B0+2:=by rw [← hw0,← hB0];simp
 refine (callsIn_wide (n:=4)).1 ?_
 refine callsIn_of_wp_marks Tryz.func23 rfl trivial ?_ rfl
 simp only [Tryz.ntmps23,List.size_toArray,List.length_cons,List.length_nil,Nat.reduceAdd,Nat.reduceSub,Array.replicate_succ,Array.replicate_zero,List.push_toArray,List.append_toArray,List.nil_append,List.cons_append]
 cases hra:riseB none A with
 | false=>
  have HT:Hid (thenE A B=130∧thenR A B=[]):=by
   have:thenE A B=130:=by simp [thenE,hra]
   exact ⟨this,by simp [thenR,this]⟩
  rw [hra] at HCA
  gi_wp2_with (first
   | (refine ⟨trivial,?_⟩;gi_at_call 38;refine (callsIn_wide.2 (HCA.out w0 g0)).mono ?_;rintro e w1 ⟨rfl,hb1⟩;have q4:=(hb1.cell (p:=⟨B0,0,none⟩) (by show B0<_;omega)).trans b4.cell;have q5:=(hb1.cell (p:=⟨B0+1,0,none⟩) (by show B0+1<_;omega)).trans b5.cell;have f4:=(hb1.frozen (p:=⟨B0,0,none⟩) (by show B0<_;omega)).trans b4.frozen;have f5:=(hb1.frozen (p:=⟨B0+1,0,none⟩) (by show B0+1<_;omega)).trans b5.frozen)
   | (refine ⟨trivial,?_⟩))
  obtain ⟨t4,t5⟩:=two_set (v1:=.slice none 0 0) (v2:=.int .i64 130) q4 q5
  refine ⟨.tuple #[.slice none 0 0,.int .i64 130],?_,.slice none 0 0,by rw [HT.out.1],by rw [HT.out.2];exact OwnsR.nil _ _,?_⟩
  ·simp [results,Tryz.f23,go_sem,t4,t5]
  ·exact ((Below.up g0 hb1).setCell (p:=⟨B0,0,none⟩) (by show _≤B0;omega) _).setCell (p:=⟨B0+1,0,none⟩) (by show _≤B0+1;omega) _
 | true=>
  rw [hra] at HCA
  cases hrb:riseB none B with
  | false=>
   have HT:Hid (thenE A B=130∧thenR A B=[]):=by
    have:thenE A B=130:=by simp [thenE,hrb]
    exact ⟨this,by simp [thenR,this]⟩
   rw [hrb] at HCB
   gi_wp2_with (first
    | (refine ⟨trivial,?_⟩;gi_at_call 38;refine (callsIn_wide.2 (HCB.out w1 (Below.up g0 hb1))).mono ?_;rintro e w2 ⟨rfl,hb2⟩;have hb12:=Below.up hb1 hb2;have q4:=(hb12.cell (p:=⟨B0,0,none⟩) (by show B0<_;omega)).trans b4.cell;have q5:=(hb12.cell (p:=⟨B0+1,0,none⟩) (by show B0+1<_;omega)).trans b5.cell;have f4:=(hb12.frozen (p:=⟨B0,0,none⟩) (by show B0<_;omega)).trans b4.frozen;have f5:=(hb12.frozen (p:=⟨B0+1,0,none⟩) (by show B0+1<_;omega)).trans b5.frozen)
    | (refine ⟨trivial,?_⟩;gi_at_call 38;refine (callsIn_wide.2 (HCA.out w0 g0)).mono ?_;rintro e w1 ⟨rfl,hb1⟩))
   obtain ⟨t4,t5⟩:=two_set (v1:=.slice none 0 0) (v2:=.int .i64 130) q4 q5
   refine ⟨.tuple #[.slice none 0 0,.int .i64 130],?_,.slice none 0 0,by rw [HT.out.1],by rw [HT.out.2];exact OwnsR.nil _ _,?_⟩
   ·simp [results,Tryz.f23,go_sem,t4,t5]
   ·exact ((Below.up g0 hb12).setCell (p:=⟨B0,0,none⟩) (by show _≤B0;omega) _).setCell (p:=⟨B0+1,0,none⟩) (by show _≤B0+1;omega) _
  | true=>
   have HT:Hid (thenE A B=if wrong A B (mg A B 0 0) then 131 else 0):=by
    show thenE A B=_
    simp [thenE,hra,hrb]
   rw [hrb] at HCB
   gi_wp2_with (first
    | (refine ⟨trivial,?_⟩;gi_at_call 64;refine (callsIn_wide.2 (sideF_any _ _ _ (w2.alloc (.cells #[.slice none 0 0] 31)) (T6+1) (by simp [hT6]) ⟨_,_,_,rfl⟩ ⟨_,_,_,rfl⟩ rfl)).mono ?_;rintro e w4 ⟨rfl,hw4⟩)
    | (refine ⟨trivial,?_⟩;gi_at_call 38;refine (callsIn_wide.2 (HCB.out w1 (Below.up g0 hb1))).mono ?_;rintro e w2 ⟨rfl,hb2⟩;obtain ⟨T6,hT6⟩:∃ T6,w2.heap.size=T6:=⟨_,rfl⟩)
    | (refine ⟨trivial,?_⟩;gi_at_call 38;refine (callsIn_wide.2 (HCA.out w0 g0)).mono ?_;rintro e w1 ⟨rfl,hb1⟩))
   rw [← hw4]
   have hb12:=Below.up hb1 hb2
   have q4:=(hb12.cell (p:=⟨B0,0,none⟩) (by show B0<_;omega)).trans b4.cell
   have q5:=(hb12.cell (p:=⟨B0+1,0,none⟩) (by show B0+1<_;omega)).trans b5.cell
   have f4:=(hb12.frozen (p:=⟨B0,0,none⟩) (by show B0<_;omega)).trans b4.frozen
   have f5:=(hb12.frozen (p:=⟨B0+1,0,none⟩) (by show B0+1<_;omega)).trans b5.frozen
   have g2:Below w.heap.size w w2:=Below.up g0 hb12
   have sz2:B0+1<T6:=by have:=hb12.size;omega
   have bx6:Boxed w4 T6 31 (.slice none 0 0):=by rw [hw4,← hT6];exact (((Boxed.new w2 31 _).alloc _).alloc _).alloc _
   have bxa:Boxed w4 (T6+1) 31 (.slice ao n cp):=by
    rw [hw4,← hT6]
    have:=((Boxed.new (w2.alloc (.cells #[.slice none 0 0] 31)) 31 (.slice ao n cp)).alloc (.cells #[.slice bo m cq] 31)).alloc (.cells #[.func (.func 65) #[] #[]] 114)
    rwa [World.size_alloc] at this
   have bxb:Boxed w4 (T6+2) 31 (.slice bo m cq):=by
    rw [hw4,← hT6]
    have:=(Boxed.new ((w2.alloc (.cells #[.slice none 0 0] 31)).alloc (.cells #[.slice ao n cp] 31)) 31 (.slice bo m cq)).alloc (.cells #[.func (.func 65) #[] #[]] 114)
    rwa [World.size_alloc,World.size_alloc] at this
   have bxf:Boxed w4 (T6+3) 114 (.func (.func 65) #[] #[]):=by
    rw [hw4,← hT6]
    have:=Boxed.new (((w2.alloc (.cells #[.slice none 0 0] 31)).alloc (.cells #[.slice ao n cp] 31)).alloc (.cells #[.slice bo m cq] 31)) 114 (.func (.func 65) #[] #[])
    rwa [World.size_alloc,World.size_alloc,World.size_alloc] at this
   have s4:w4.heap.size=T6+4:=by rw [hw4,← hT6];simp
   have g24:Below w2.heap.size w2 w4:=by rw [hw4];exact ((((Below.refl _ w2).alloc (Nat.le_refl _) _).alloc (by simp) _).alloc (by simp;omega) _).alloc (by simp;omega) _
   have g4:Below w.heap.size w w4:=Below.up g2 g24
   have r4:=(g24.cell (p:=⟨B0,0,none⟩) (by show B0<_;omega)).trans q4
   have r5:=(g24.cell (p:=⟨B0+1,0,none⟩) (by show B0+1<_;omega)).trans q5
   have h4:=(g24.frozen (p:=⟨B0,0,none⟩) (by show B0<_;omega)).trans f4
   have h5:=(g24.frozen (p:=⟨B0+1,0,none⟩) (by show B0+1<_;omega)).trans f5
   obtain ⟨ga,oa,hpA⟩:=HasA.place HA.out
   obtain ⟨gb,ob,hpB⟩:=HasA.place HB.out
   have HPL:=hid (And.intro hpA hpB)
   have HI0:Hid (ThI A B w B0 T6 (T6+4) [] w4):=⟨⟨⟨_,bx6,OwnsR.nil _ _,trivial⟩,rfl,by omega,r4,h4,r5,h5⟩,g4⟩
   have STOPS:SeqStopsK Fence.wide 3 Tryz.prog 101 #[.pointer (some ⟨T6+1,0,none⟩),.pointer (some ⟨T6+2,0,none⟩),.pointer (some ⟨T6+3,0,none⟩)] (encP ga oa gb ob) (KeepD w.heap.size (T6+1) (T6+2) (T6+3)) (fun ys:List (Pv A B)=>ys.map (·.1)=mg A B 0 0) (fun pre=>pre.map (·.1) <+: mg A B 0 0) (A.length+B.length) w4:=fun l J Jx W hW hJ _ hY h0=>by
    have gW:=Below.up g4 hW
    refine sides1_in 3 (by omega) l w.heap.size (T6+1) (T6+2) (T6+3) ga oa gb ob cp cq ao bo A B J Jx W hJ (fun i x hx=>⟨(hpA i x hx).1,(hpA i x hx).2.1,(hpA i x hx).2.2.below gW⟩) (fun i x hx=>⟨(hpB i x hx).1,(hpB i x hx).2.1,(hpB i x hx).2.2.below gW⟩) HPA.out HPB.out (by have:=HN.out;omega) (by have:=HM.out;omega) ?_ ?_ ?_ hY h0
    ·rw [HN.out];exact (hW.cell (p:=⟨T6+1,0,none⟩) (by show T6+1<_;omega)).trans bxa.cell
    ·rw [HM.out];exact (hW.cell (p:=⟨T6+2,0,none⟩) (by show T6+2<_;omega)).trans bxb.cell
    ·exact (hW.cell (p:=⟨T6+3,0,none⟩) (by show T6+3<_;omega)).trans bxf.cell
   clear hpA hpB bx6 bxa bxb bxf r4 r5 h4 h5 q4 q5 f4 f5 b4 b5 hb1 hb2 hb12 g24 g2 hw4 hw0 HCA HCB g0 s0 hT6
   refine wpIn_rangeFunc_ownF rfl (by omega) (gf:=101) (lb:=#[.pointer (some ⟨T6+1,0,none⟩),.pointer (some ⟨T6+2,0,none⟩),.pointer (some ⟨T6+3,0,none⟩)]) rfl trivial (enters_of Tryz.func101 (by kernel_rfl) rfl)
    STOPS (fun h k=>h.trans k) (fun X l o o' hl _ _ _=>⟨by simp,fun b hb=>World.putObj_heap_other (by omega)⟩) (Below.refl _ _) (fun _=>rfl)
    (ThI A B w B0 T6 (T6+4)) (ThX A B w B0) (ThI.own A B w B0 T6 (T6+4) _ (by omega)) (ThX.own A B w B0 _ (by omega)) HI0.out
    (fun x=>{ tmps:=#[.slice ao n cp,.slice bo m cq,undef,undef,.pointer (some ⟨B0,0,none⟩),.pointer (some ⟨B0+1,0,none⟩),.pointer (some ⟨T6,0,none⟩),ptP ga oa x.1.1,ptP gb ob x.1.2,.slice ao n cp,.bool true,.bool false,.bool false,.slice bo m cq,.bool true,.bool false,.bool false,.slice ao n cp,.slice bo m cq,.func (.func 101) #[] #[.pointer (some ⟨T6+1,0,none⟩),.pointer (some ⟨T6+2,0,none⟩),.pointer (some ⟨T6+3,0,none⟩)],ptP ga oa x.1.1,ptP gb ob x.1.2,undef,undef,undef,undef,undef,undef,undef,undef,undef,undef,undef,undef,undef,undef,undef,undef,undef,undef,undef,undef,undef,undef,undef,undef,undef,undef,undef,undef,undef,undef,undef,undef,undef,undef,undef,undef,undef,undef,undef,undef,undef,undef,undef,undef,undef,undef,undef,undef,undef,undef,undef,undef,undef,undef,undef],defers:=[] }) ?assign ?body ?done ?stop
   case assign=>
    intro l x W K hK
    simp only [encP]
    gi_wp2
    exact hK
   case body=>
    rintro l pre ⟨⟨p1,p2⟩,hok⟩ W hI hlen
    have gW:=hI.2
    have hlen2:(outs A B (pre.map (·.1))).length≤20000:=by have:=outs_len A B (pre.map (·.1));rw [List.length_map] at this;have:=HN.out;have:=HM.out;omega
    cases p1 with
    | none=>
     cases p2 with
     | none=>exact absurd rfl hok.2.2
     | some j=>
      have hk0:j<B.length:=hok.2.1 j rfl
      obtain ⟨y,hy⟩:∃ y,B[j]?=some y:=⟨B[j],by simp⟩
      obtain ⟨_,_,lv⟩:=HPL.out.2 j y hy
      obtain ⟨v,v2,Bn,wB,wC,wD,k1,k2,k3,k4,k5,k6,k7,k8,k9,K1,K2,K3⟩:=hI.app (Ba:=T6+1) (Bb:=T6+2) (Bf:=T6+3) ⟨(none,some j),hok⟩ y (by simp only [outP];rw [getD_of hy]) rfl hlen2 hB0 sz2 (by omega) ⟨by omega,by omega⟩ ⟨by omega,by omega⟩ ⟨by omega,by omega⟩
      have lz:Lies W.drew gb (ob+j*71) (cc y):=(lv.below gW).drew ⟨1,rfl⟩
      have HK:=hid (And.intro K1 (And.intro K2 K3))
      clear K1 K2 K3 lv hy
      simp only [ptP,Option.map_some,Option.map_none]
      gi_wp2
      refine regUY gb (ob+j*71) Bn v v2 (cc y) l 2 T6 wB wC wD _ W rfl rfl rfl k1 lz (cc_size _) k2 k3 k4 k5 k6 k7 k8 k9 ?_
      exact ⟨HK.out.1,HK.out.2.1,HK.out.2.2⟩
    | some i=>
     cases p2 with
     | none=>
      have hk0:i<A.length:=hok.1 i rfl
      obtain ⟨x,hx⟩:∃ x,A[i]?=some x:=⟨A[i],by simp⟩
      obtain ⟨_,_,lv⟩:=HPL.out.1 i x hx
      obtain ⟨v,v2,Bn,wB,wC,wD,k1,k2,k3,k4,k5,k6,k7,k8,k9,K1,K2,K3⟩:=hI.app (Ba:=T6+1) (Bb:=T6+2) (Bf:=T6+3) ⟨(some i,none),hok⟩ x (by simp only [outP];rw [getD_of hx]) rfl hlen2 hB0 sz2 (by omega) ⟨by omega,by omega⟩ ⟨by omega,by omega⟩ ⟨by omega,by omega⟩
      have lz:Lies W.drew ga (oa+i*71) (cc x):=(lv.below gW).drew ⟨1,rfl⟩
      have HK:=hid (And.intro K1 (And.intro K2 K3))
      clear K1 K2 K3 lv hx
      simp only [ptP,Option.map_some,Option.map_none]
      gi_wp2
      refine regUX ga (oa+i*71) Bn v v2 (cc x) l 2 T6 wB wC wD _ W rfl rfl rfl k1 lz (cc_size _) k2 k3 k4 k5 k6 k7 k8 k9 ?_
      exact ⟨HK.out.1,HK.out.2.1,HK.out.2.2⟩
     | some j=>
      have hi0:i<A.length:=hok.1 i rfl
      have hj0:j<B.length:=hok.2.1 j rfl
      obtain ⟨x,hx⟩:∃ x,A[i]?=some x:=⟨A[i],by simp⟩
      obtain ⟨y,hy⟩:∃ y,B[j]?=some y:=⟨B[j],by simp⟩
      obtain ⟨_,_,lx⟩:=HPL.out.1 i x hx
      obtain ⟨_,_,ly⟩:=HPL.out.2 j y hy
      have HLX:=hid (lx.below gW)
      have HLY:=hid (ly.below gW)
      have HOUT:Hid (outP A B (some i,some j)=if x.old=y.new then [] else [⟨x.path,x.old,y.new⟩]):=by show _=_;simp only [outP];rw [getD_of hx,getD_of hy]
      have HBAD:Hid (badP A B (some i,some j)=!decide (x.new=y.old)):=by show _=_;simp only [badP];rw [getD_of hx,getD_of hy]
      have HII:=hid hI
      clear lx ly hx hy hI
      simp only [ptP,Option.map_some]
      by_cases hxy:x.new=y.old
      ·gi_wp2
       refine regUN ga (oa+i*71) gb (ob+j*71) _ _ false l 2 _ W rfl rfl rfl x.new y.old rfl rfl (by simp [hxy]) HLX.out.new HLY.out.old fun wz hz=>?_
       rw [foldUN]
       generalize (vx x.new).toArray=YA
       generalize (vx y.old).toArray=YB
       go_simp
       by_cases hon:x.old=y.new
       ·gi_wp2
        refine regUO ga (oa+i*71) gb (ob+j*71) _ _ false l 2 _ wz rfl rfl rfl x.old y.new rfl rfl (by simp [hon]) (HLX.out.old.drew hz) (HLY.out.new.drew hz) fun wy hy=>?_
        rw [foldUO]
        have hzy:=hz.trans hy
        have HE:=hid ((HII.out.drew hzy).same ⟨(some i,some j),hok⟩ (by rw [HOUT.out,if_pos hon]) (by rw [HBAD.out];simp [hxy]))
        generalize (vx x.old).toArray=YC
        generalize (vx y.new).toArray=YD
        go_simp
        gi_wp2
        exact ⟨drew_keeps hzy,KeepD.drew hzy,HE.out⟩
       ·gi_wp2
        refine regUO ga (oa+i*71) gb (ob+j*71) _ _ true l 2 _ wz rfl rfl rfl x.old y.new rfl rfl (by simp [hon]) (HLX.out.old.drew hz) (HLY.out.new.drew hz) fun wy hy=>?_
        rw [foldUO]
        have hzy:=hz.trans hy
        obtain ⟨v,v2,Bn,wB,wC,wD,k1,k2,k3,k4,k5,k6,k7,k8,k9,K1,K2,K3⟩:=(HII.out.drew hzy).app (Ba:=T6+1) (Bb:=T6+2) (Bf:=T6+3) ⟨(some i,some j),hok⟩ ⟨x.path,x.old,y.new⟩ (by rw [HOUT.out,if_neg hon]) (by rw [HBAD.out];simp [hxy]) hlen2 hB0 sz2 (by omega) ⟨by omega,by omega⟩ ⟨by omega,by omega⟩ ⟨by omega,by omega⟩
        have HK:=hid (And.intro ((drew_keeps hzy).trans K1) (And.intro ((KeepD.drew hzy).trans K2) K3))
        have lxd:=hid ((HLX.out.drew hzy).drew ⟨1,rfl⟩:Lies wy.drew ga (oa+i*71) (cc x))
        have lyd:=hid ((HLY.out.drew hzy).drew ⟨1,rfl⟩:Lies wy.drew gb (ob+j*71) (cc y))
        generalize (vx x.old).toArray=YC
        generalize (vx y.new).toArray=YD
        clear K1 K2 K3
        go_simp
        gi_wp2
        refine regUP ga (oa+i*71) gb (ob+j*71) Bn v v2 x.path (vx x.old).toArray (vx y.new).toArray (cc ⟨x.path,x.old,y.new⟩) l 2 T6 wB wC wD _ wy rfl rfl rfl rfl k1 lxd.out.path lxd.out.old lyd.out.new (by simp [vx_len]) (by simp [vx_len]) (fun p q r ho hp hq hr w=>exec_build55 p q r ho x.path x.old y.new hp hq hr w) (cc_size _) k2 k3 k4 k5 k6 k7 k8 k9 ?_
        exact ⟨HK.out.1,HK.out.2.1,HK.out.2.2⟩
      ·gi_wp2
       refine regUN ga (oa+i*71) gb (ob+j*71) _ _ true l 2 _ W rfl rfl rfl x.new y.old rfl rfl (by simp [hxy]) HLX.out.new HLY.out.old fun wz hz=>?_
       rw [foldUN]
       obtain ⟨⟨_,hw1,_,q4,f4,q5,f5⟩,gz⟩:=HII.out.drew hz
       have HW:Hid (wrong A B ((pre++[(⟨(some i,some j),hok⟩:Pv A B)]).map (·.1))=true):=by
        show _=_
        rw [List.map_append]
        simp only [List.map_cons,List.map_nil]
        rw [wrong_snoc,HBAD.out]
        simp [hxy]
       have HGZ:=hid gz
       generalize (vx x.new).toArray=YA
       generalize (vx y.old).toArray=YB
       go_simp
       gi_wp2
       obtain ⟨t4,t5⟩:=two_set (v1:=.slice none 0 0) (v2:=.int .i64 131) q4 q5
       exact ⟨((drew_keeps hz).trans (KeepsOthers.setCell _ _ _)).trans (KeepsOthers.setCell _ _ _),⟨rfl,HW.out,t4,t5⟩,(HGZ.out.setCell (p:=⟨B0,0,none⟩) (by show _≤B0;omega) _).setCell (p:=⟨B0+1,0,none⟩) (by show _≤B0+1;omega) _⟩
   case done=>
    rintro D ys W hD hys ⟨⟨⟨v,bx,how,-⟩,hwr,hlo,c4,f4,c5,f5⟩,gW⟩ hK
    have c6:=bx.cell
    rw [hys] at hwr how
    have HT2:Hid (thenE A B=0∧thenR A B=outs A B (mg A B 0 0)):=by
     have:thenE A B=0:=by rw [HT.out,hwr];rfl
     exact ⟨this,by rw [thenR,if_pos this]⟩
    obtain ⟨pv,qv,hv⟩:=row_form how
    subst hv
    obtain ⟨on,hon⟩:∃ on,(outs A B (mg A B 0 0)).length=on:=⟨_,rfl⟩
    rw [hon] at c6
    have HOW:=hid how
    rw [hon] at HOW
    clear how hwr hys bx
    gi_wp2
    obtain ⟨t4,t5⟩:=two_set (v1:=.slice pv on qv) (v2:=.int .i64 0) c4 c5
    have k1:((W.setCell ⟨B0,0,none⟩ (.slice pv on qv)).setCell ⟨B0+1,0,none⟩ (.int .i64 0)).heap[D]?=some (.deferred (some [])):=
     (KeepsOthers.setCell _ _ _).same D _ ((KeepsOthers.setCell _ _ _).same D _ hK rfl) rfl
    refine ⟨by simp,.inl ⟨_,_,rfl,run_takeDeferred k1,?_⟩⟩
    have d4:=cell_kept t4 (grownBy_putObj' _ D (.deferred none)) (fun r e=>by cases e;exact ⟨_,k1,rfl⟩)
    have d5:=cell_kept t5 (grownBy_putObj' _ D (.deferred none)) (fun r e=>by cases e;exact ⟨_,k1,rfl⟩)
    have hB2:Below w.heap.size w ((W.setCell ⟨B0,0,none⟩ (.slice pv on qv)).setCell ⟨B0+1,0,none⟩ (.int .i64 0)):=(gW.setCell (p:=⟨B0,0,none⟩) (by show _≤B0;omega) _).setCell (p:=⟨B0+1,0,none⟩) (by show _≤B0+1;omega) _
    refine ⟨.tuple #[.slice pv on qv,.int .i64 0],?_,.slice pv on qv,by rw [HT2.out.1],?_,(by have hz:=hB2.trans (belowK_b (w:=w) (Nat.le_refl _) _ D _ (.deferred none) (by omega) k1 rfl rfl);rw [hB0] at hz;exact hz)⟩
    ·simp [results,Tryz.f23,go_sem,d4,d5]
    ·rw [HT2.out.2]
     refine ownsRow_putObj ?_ _ k1 rfl
     rw [hon]
     have h1:(W.setCell ⟨B0,0,none⟩ (.slice pv on qv)).ownsRow (T6+4) 66 71 (.slice pv on qv) on (rcs (outs A B (mg A B 0 0))):=Bk.rowB HOW.out fun k hk=>Below.heap_setCell W ⟨B0,0,none⟩ _ k (by have:=(World.ownsRow.lt HOW.out k hk).1;show k≠B0;omega)
     have h2:=Bk.rowB h1 (w':=(W.setCell ⟨B0,0,none⟩ (.slice pv on qv)).setCell ⟨B0+1,0,none⟩ (.int .i64 0)) fun k hk=>Below.heap_setCell _ ⟨B0+1,0,none⟩ _ k (by have:=(World.ownsRow.lt h1 k hk).1;show k≠B0+1;omega)
     exact row_mono h2 (by omega)
   case stop=>
    rintro D c pre W hD hpre ⟨⟨rfl,hin,h4,h5⟩,gW⟩ hK
    have HT2:Hid (thenE A B=131∧thenR A B=[]):=by
     have hw:wrong A B (mg A B 0 0)=true:=by
      unfold wrong at hin ⊢
      rw [List.any_eq_true] at hin ⊢
      obtain ⟨q,hq,hb⟩:=hin
      exact ⟨q,hpre.subset hq,hb⟩
     have:thenE A B=131:=by rw [HT.out,hw];rfl
     exact ⟨this,by simp [thenR,this]⟩
    clear hin hpre
    gi_wp2
    refine ⟨by simp,.inl ⟨_,_,rfl,run_takeDeferred hK,?_⟩⟩
    have c4:=cell_kept h4 (grownBy_putObj' _ D (.deferred none)) (fun r e=>by cases e;exact ⟨_,hK,rfl⟩)
    have c5:=cell_kept h5 (grownBy_putObj' _ D (.deferred none)) (fun r e=>by cases e;exact ⟨_,hK,rfl⟩)
    refine ⟨.tuple #[.slice none 0 0,.int .i64 131],?_,.slice none 0 0,by rw [HT2.out.1],by rw [HT2.out.2];exact OwnsR.nil _ _,(by have hz:=gW.trans (belowK_b (w:=w) (Nat.le_refl _) W D _ (.deferred none) (by omega) hK rfl rfl);rw [hB0] at hz;exact hz)⟩
    simp [results,Tryz.f23,go_sem,c4,c5]
end Go.Proofs.YthfcanpkhjgomaaGreat.Th
namespace Go.Proofs.YthfcanpkhjgomaaGreat
open Go.RowKit Ch
structure Ea (w:World) (c1 c2 c3:Array Value) (nm1 nm2 nm3:ByteArray) (v1 v2 v3:Vd) (m1 m2 m3:Md) (ks1 ks2 ks3:F) (B:Nat) (ao:Option Addr) (n cp:Nat) (L:List Cd) (W:World):Prop where
 n1:HasN W c1 nm1 v1 m1 ks1
 n2:HasN W c2 nm2 v2 m2 ks2
 n3:HasN W c3 nm3 v3 m3 ks3
 r1:Var W B c1
 r2:Var W (B+1) c2
 r3:Var W (B+2) c3
 l:HasA W (.slice ao n cp) L
 g:G w W
theorem Ea.grow {w W W':World} {c1 c2 c3:Array Value} {nm1 nm2 nm3:ByteArray} {v1 v2 v3:Vd} {m1 m2 m3:Md} {ks1 ks2 ks3:F} {B:Nat} {ao:Option Addr} {n cp:Nat} {L:List Cd} (h:Ea w c1 c2 c3 nm1 nm2 nm3 v1 v2 v3 m1 m2 m3 ks1 ks2 ks3 B ao n cp L W) (g:G W W'):Ea w c1 c2 c3 nm1 nm2 nm3 v1 v2 v3 m1 m2 m3 ks1 ks2 ks3 B ao n cp L W':=
 ⟨h.n1.below g,h.n2.below g,h.n3.below g,h.r1.grow g,h.r2.grow g,h.r3.grow g,h.l.below g,h.g.trans g⟩
structure Eb (w:World) (p1 p2 p3:Nat) (t u x:T3) (ao:Option Addr) (n cp:Nat) (L:List Cd) (W:World):Prop where
 a:T1 W p1 t
 b:T1 W p2 u
 c:T1 W p3 x
 l:HasA W (.slice ao n cp) L
 g:G w W
theorem Eb.grow {w W W':World} {p1 p2 p3:Nat} {t u x:T3} {ao:Option Addr} {n cp:Nat} {L:List Cd} (h:Eb w p1 p2 p3 t u x ao n cp L W) (g:G W W'):Eb w p1 p2 p3 t u x ao n cp L W':=
 ⟨h.a.grow g,h.b.grow g,h.c.grow g,h.l.below g,h.g.trans g⟩
theorem same_ok {ao bo:Option Addr} {cp cq n:Nat} {L:List Cd} {w:World} (hn:L.length=n) (ha:HasA w (.slice ao n cp) L) (hb:HasA w (.slice bo n cq) L) (h:n≤1000000):
  Calls Tryz.prog 13 #[.slice ao n cp,.slice bo n cq] w fun e w'=>e=.returned (.bool true)∧G w w':=by
 subst hn
 refine (Ch.same_any ao bo cp cq L w ha hb h).mono ?_
 rintro e w' ⟨rfl,d⟩
 exact ⟨rfl,d.below⟩
theorem then_ok {p1 p2 p3:Nat} {t u x:T3} {w:World} {ao bo:Option Addr} {cp cq:Nat} (ht:T1 w p1 t) (hu:T1 w p2 u) (hx:T1 w p3 x) (gt:Good t) (gu:Good u) (gx:Good x) (w1:t.2.2.weight≤6000) (w2:u.2.2.weight≤6000) (w3:x.2.2.weight≤6000)
  (ha:HasA w (.slice ao (difT t u).length cp) (difT t u)) (hb:HasA w (.slice bo (difT u x).length cq) (difT u x)):
  Calls Tryz.prog 23 #[.slice ao (difT t u).length cp,.slice bo (difT u x).length cq] w fun e w'=>∃ co cr,e=.returned (.tuple #[.slice co (difT t x).length cr,.int .i64 0])∧HasA w' (.slice co (difT t x).length cr) (difT t x)∧G w w':=by
 obtain ⟨a1,a2,_⟩:=difT_facts ht hu gt gu w1 w2
 obtain ⟨b1,b2,_⟩:=difT_facts hu hx gu gx w2 w3
 obtain ⟨q1,e1,_,_⟩:=ht.si
 obtain ⟨q2,e2,_,_⟩:=hu.si
 obtain ⟨q3,e3,_,_⟩:=hx.si
 obtain ⟨k1,k2⟩:=difT_then gt gu gx e1 e2 e3
 refine (Th.then_any ao bo cp cq (difT t u) (difT u x) w ha hb a1 b1 a2 b2).mono ?_
 rintro e w' ⟨v,rfl,ow,g⟩
 rw [k1]
 rw [k2] at ow
 obtain ⟨co,cr,rfl⟩:=ow.form
 exact ⟨co,cr,rfl,HasQ.has ow.hasq,g⟩
theorem apply_says {p:Nat} {t:T3} {ao:Option Addr} {cp n:Nat} {L:List Cd} {w:World} (ht:T1 w p t) (gt:Good t) (w1:t.2.2.weight≤6000) (hn:L.length=n) (h:HasA w (.slice ao n cp) L) (hp:parts L≤6000):
  Calls Tryz.prog 11 #[.pointer (some ⟨p,0,none⟩),.slice ao n cp] w fun e w'=>∃ (pv:Option Addr) (E:Int),e=.returned (.tuple #[.pointer pv,.int .i64 E])∧G w w'∧((E≠0∧pv=none)∨E=0∧∃ z p',pv=some ⟨p',0,none⟩∧T1 w' p' z∧difT t z=L∧t.2.2.size+z.2.2.size≤9990∧t.2.2.weight+z.2.2.weight≤1000000):=by
 subst hn
 have g1:=good_small t.2.2 (check_rise gt.c).2
 have hl:=parts_len L
 have hs:∀ c∈L,c.path.size≤1048576:=fun c hc=>by have:=parts_mem L c hc;omega
 refine (apply_any p t ao cp L w ht gt.rises h (by omega) (by omega) hs).mono ?_
 rintro e w' ⟨u,rfl,hg,h1,h2⟩
 by_cases hE:apE t L=0
 ·obtain ⟨z,p',hz,rfl,hT⟩:=h2 hE
  obtain ⟨q,eq,_,_⟩:=(ht.grow hg).si
  obtain ⟨r,er,_,_⟩:=hT.si
  obtain ⟨gz,hd⟩:=difT_of_ap gt eq er hE hz
  have hw:=difT_weight (t:=t) gz
  have g2:=good_small z.2.2 (check_rise gz.c).2
  rw [hd] at hw
  rw [hE]
  exact ⟨_,0,rfl,hg,.inr ⟨rfl,z,p',rfl,hT,hd,by omega,by omega⟩⟩
 ·rw [h1 hE]
  exact ⟨none,_,rfl,hg,.inl ⟨hE,rfl⟩⟩
theorem diffThen_walk (c1 c2 c3:Array Value) (nm1 nm2 nm3:ByteArray) (v1 v2 v3:Vd) (m1 m2 m3:Md) (ks1 ks2 ks3:F) (ao:Option Addr) (cp:Nat) (L:List Cd) (w:World) (hN1:HasN w c1 nm1 v1 m1 ks1) (hN2:HasN w c2 nm2 v2 m2 ks2) (hN3:HasN w c3 nm3 v3 m3 ks3) (hL:HasA w (.slice ao L.length cp) L)
  (hnm1:nm1.size≤9223372036854775807) (hok1:ks1.ok) (hlen1:ks1.len≤9223372036854775807) (hnm2:nm2.size≤9223372036854775807) (hok2:ks2.ok) (hlen2:ks2.len≤9223372036854775807) (hnm3:nm3.size≤9223372036854775807) (hok3:ks3.ok) (hlen3:ks3.len≤9223372036854775807)
  (hLn:L.length≤9223372036854775807) (hLp:∀ c∈L,c.path.size≤9223372036854775807):
  Calls Tryz.prog 5 #[.agg c1,.agg c2,.agg c3,.slice ao L.length cp] w fun e w'=>e=.returned (.bool true)∧G w w':=by
 have cs1:c1.size=41:=by obtain ⟨_,rfl,_⟩:=hN1;exact nc_size ..
 have cs2:c2.size=41:=by obtain ⟨_,rfl,_⟩:=hN2;exact nc_size ..
 have cs3:c3.size=41:=by obtain ⟨_,rfl,_⟩:=hN3;exact nc_size ..
 obtain ⟨B,hB⟩:∃ B,w.heap.size=B:=⟨_,rfl⟩
 obtain ⟨n,hn⟩:∃ n,L.length=n:=⟨_,rfl⟩
 obtain ⟨W1,hW1⟩:∃ W1,((w.alloc (.cells c1 30)).alloc (.cells c2 30)).alloc (.cells c3 30)=W1:=⟨_,rfl⟩
 have g1:G w W1:=by rw [← hW1];exact ((G.alloc w _).trans (G.alloc _ _)).trans (G.alloc _ _)
 have r1:Var W1 B c1:=by rw [← hW1,← hB];exact ((heap_alloc_old _ _ (by simp only [World.size_alloc];omega)).trans (heap_alloc_old _ _ (by simp only [World.size_alloc];omega))).trans (heap_alloc_new _ _)
 have r2:Var W1 (B+1) c2:=by
  rw [← hW1,← hB]
  have:=heap_alloc_new (w.alloc (.cells c1 30)) (.cells c2 30)
  rw [World.size_alloc] at this
  exact (heap_alloc_old _ _ (by simp only [World.size_alloc];omega)).trans this
 have r3:Var W1 (B+2) c3:=by
  rw [← hW1,← hB]
  have:=heap_alloc_new ((w.alloc (.cells c1 30)).alloc (.cells c2 30)) (.cells c3 30)
  rwa [World.size_alloc,World.size_alloc] at this
 have CF:Hid (∀ W,G w W→Calls Tryz.prog 7 #[.slice ao n cp] W fun e w'=>∃ b,e=.returned (.bool b)∧(b=true→parts L≤6000)∧G W w'):=fun W hW=>by
  have:=few_any ao cp L W (hL.below hW) hLn hLp
  rwa [hn] at this
 rw [hn] at hL ⊢
 have HN0:Hid (Ea w c1 c2 c3 nm1 nm2 nm3 v1 v2 v3 m1 m2 m3 ks1 ks2 ks3 B ao n cp L W1):=⟨hN1.below g1,hN2.below g1,hN3.below g1,r1,r2,r3,hL.below g1,g1⟩
 have HO:=hid (And.intro (And.intro hnm1 (And.intro hok1 hlen1)) (And.intro (And.intro hnm2 (And.intro hok2 hlen2)) (And.intro hnm3 (And.intro hok3 hlen3))))
 have HLN:=hid hn
 clear hN1 hN2 hN3 hL g1 r1 r2 r3 hnm1 hok1 hlen1 hnm2 hok2 hlen2 hnm3 hok3 hlen3 hLn hLp hn
 go_enter Tryz.func5,Tryz.ntmps5
 go_upto_region 1 with fail
 clear hW1
 go_upto_region 3 with (go_at_call 18;refine (known_any W1).mono ?_;rintro e W1' ⟨rfl,g1'⟩;have HN:=hid (HN0.out.grow g1');clear g1' HN0)
 have C1:=hid (fits_any c1 nm1 v1 m1 ks1 W1' HN.out.n1 HO.out.1.1 HO.out.1.2.1 HO.out.1.2.2)
 go_wp2_with ((with_reducible refine wpList_exec (.agg c1) ?_ ?_ ?_);exact exec_load30 _ rfl B 0 rfl c1 cs1 HN.out.r1.lies;kernel_rfl)
 refine C1.out.mono ?_
 rintro e X1 ⟨b1,rfl,h1,gx⟩
 have H1:=hid h1
 replace HN:=hid (HN.out.grow gx)
 clear h1 gx C1
 cases b1
 ·go_wp2
  go_ret
  exact ⟨rfl,HN.out.g⟩
 have C2:=hid (fits_any c2 nm2 v2 m2 ks2 X1 HN.out.n2 HO.out.2.1.1 HO.out.2.1.2.1 HO.out.2.1.2.2)
 go_wp2_with ((with_reducible refine wpList_exec (.agg c2) ?_ ?_ ?_);exact exec_load30 _ rfl (B+1) 0 rfl c2 cs2 HN.out.r2.lies;kernel_rfl)
 refine C2.out.mono ?_
 rintro e X2 ⟨b2,rfl,h2,gx⟩
 have H2:=hid h2
 replace HN:=hid (HN.out.grow gx)
 clear h2 gx C2
 cases b2
 ·go_wp2
  go_ret
  exact ⟨rfl,HN.out.g⟩
 have C3:=hid (fits_any c3 nm3 v3 m3 ks3 X2 HN.out.n3 HO.out.2.2.1 HO.out.2.2.2.1 HO.out.2.2.2.2)
 go_wp2_with ((with_reducible refine wpList_exec (.agg c3) ?_ ?_ ?_);exact exec_load30 _ rfl (B+2) 0 rfl c3 cs3 HN.out.r3.lies;kernel_rfl)
 refine C3.out.mono ?_
 rintro e X3 ⟨b3,rfl,h3,gx⟩
 have H3:=hid h3
 replace HN:=hid (HN.out.grow gx)
 clear h3 gx C3
 cases b3
 ·go_wp2
  go_ret
  exact ⟨rfl,HN.out.g⟩
 go_wp2_with fail
 refine (CF.out X3 HN.out.g).mono ?_
 rintro e X4 ⟨b4,rfl,h4,gx⟩
 replace HN:=hid (HN.out.grow gx)
 have HP:=hid h4
 clear h4 gx CF
 cases b4
 ·go_wp2
  go_ret
  exact ⟨rfl,HN.out.g⟩
 have HP2:Hid (parts L≤6000):=HP.out rfl
 obtain ⟨hw1,he1⟩:=H1.out (by first | rfl | trivial)
 obtain ⟨hw2,he2⟩:=H2.out (by first | rfl | trivial)
 obtain ⟨hw3,he3⟩:=H3.out (by first | rfl | trivial)
 clear H1 H2 H3 HP HO
 have D1:=hid (grown5_any c1 nm1 v1 m1 ks1 X4 HN.out.n1 hw1 he1)
 go_wp2_with ((with_reducible refine wpList_exec (.agg c1) ?_ ?_ ?_);exact exec_load30 _ rfl B 0 rfl c1 cs1 HN.out.r1.lies;kernel_rfl)
 refine D1.out.mono ?_
 rintro e Y1 ⟨p1,k1,rfl,ta1,f1,pl1,tr1,gx⟩
 replace HN:=hid (HN.out.grow gx)
 have HT1:Hid (T1 Y1 p1 (v1,m1,ks1)):=AtTF.of ta1 pl1 tr1 f1
 clear ta1 f1 pl1 tr1 gx D1
 have D2:=hid (grown5_any c2 nm2 v2 m2 ks2 Y1 HN.out.n2 hw2 he2)
 go_wp2_with ((with_reducible refine wpList_exec (.agg c2) ?_ ?_ ?_);exact exec_load30 _ rfl (B+1) 0 rfl c2 cs2 HN.out.r2.lies;kernel_rfl)
 refine D2.out.mono ?_
 rintro e Y2 ⟨p2,k2,rfl,ta2,f2,pl2,tr2,gx⟩
 replace HN:=hid (HN.out.grow gx)
 replace HT1:=hid (HT1.out.grow gx)
 have HT2:Hid (T1 Y2 p2 (v2,m2,ks2)):=AtTF.of ta2 pl2 tr2 f2
 clear ta2 f2 pl2 tr2 gx D2
 have D3:=hid (grown5_any c3 nm3 v3 m3 ks3 Y2 HN.out.n3 hw3 he3)
 go_wp2_with ((with_reducible refine wpList_exec (.agg c3) ?_ ?_ ?_);exact exec_load30 _ rfl (B+2) 0 rfl c3 cs3 HN.out.r3.lies;kernel_rfl)
 refine D3.out.mono ?_
 rintro e Y3 ⟨p3,k3,rfl,ta3,f3,pl3,tr3,gx⟩
 replace HN:=hid (HN.out.grow gx)
 replace HT1:=hid (HT1.out.grow gx)
 replace HT2:=hid (HT2.out.grow gx)
 have HT3:Hid (T1 Y3 p3 (v3,m3,ks3)):=AtTF.of ta3 pl3 tr3 f3
 clear ta3 f3 pl3 tr3 gx D3
 obtain ⟨t,et⟩:∃ t:T3,t=(v1,m1,ks1):=⟨_,rfl⟩
 obtain ⟨u,eu⟩:∃ u:T3,u=(v2,m2,ks2):=⟨_,rfl⟩
 obtain ⟨x,ex⟩:∃ x:T3,x=(v3,m3,ks3):=⟨_,rfl⟩
 have HT:Hid (Eb w p1 p2 p3 t u x ao n cp L Y3):=by subst et;subst eu;subst ex;exact ⟨HT1.out,HT2.out,HT3.out,HN.out.l,HN.out.g⟩
 have HG:Hid ((Good t∧Good u∧Good x)∧t.2.2.weight≤6000∧u.2.2.weight≤6000∧x.2.2.weight≤6000):=by subst et;subst eu;subst ex;exact ⟨⟨⟨he1⟩,⟨he2⟩,⟨he3⟩⟩,hw1,hw2,hw3⟩
 clear HN HT1 HT2 HT3 et eu ex he1 he2 he3 hw1 hw2 hw3 cs1 cs2 cs3
 have E0:=of_given p1 p2 t u Y3 HT.out.a HT.out.b HG.out.1.1 HG.out.1.2.1 HG.out.2.1 HG.out.2.2.1
 go_upto_region 11 with (first
  | (go_at_call 20;refine E0.mono ?_;rintro e U0 ⟨B0,rfl,kk,gx⟩;have F0:=kk U0 (G.refl _);replace HT:=hid (HT.out.grow gx);clear kk gx E0)
  | (go_at_call 19;refine F0.mono ?_;rintro e V0 ⟨lo0,lc0,rfl,hh,gx⟩;replace HT:=hid (HT.out.grow gx);have HL0:=hid hh;clear hh gx F0))
 have E1:=of_given p2 p3 u x V0 HT.out.b HT.out.c HG.out.1.2.1 HG.out.1.2.2 HG.out.2.2.1 HG.out.2.2.2
 go_upto_region 12 with (first
  | (go_at_call 20;refine E1.mono ?_;rintro e U1 ⟨B1,rfl,kk,gx⟩;have F1:=kk U1 (G.refl _);replace HT:=hid (HT.out.grow gx);replace HL0:=hid (HL0.out.below gx);clear kk gx E1)
  | (go_at_call 19;refine F1.mono ?_;rintro e V1 ⟨lo1,lc1,rfl,hh,gx⟩;replace HT:=hid (HT.out.grow gx);replace HL0:=hid (HL0.out.below gx);have HL1:=hid hh;clear hh gx F1))
 have E2:=of_given p1 p3 t x V1 HT.out.a HT.out.c HG.out.1.1 HG.out.1.2.2 HG.out.2.1 HG.out.2.2.2
 go_upto_region 13 with (first
  | (go_at_call 20;refine E2.mono ?_;rintro e U2 ⟨B2,rfl,kk,gx⟩;have F2:=kk U2 (G.refl _);replace HT:=hid (HT.out.grow gx);replace HL0:=hid (HL0.out.below gx);replace HL1:=hid (HL1.out.below gx);clear kk gx E2)
  | (go_at_call 19;refine F2.mono ?_;rintro e V2 ⟨lo2,lc2,rfl,hh,gx⟩;replace HT:=hid (HT.out.grow gx);replace HL0:=hid (HL0.out.below gx);replace HL1:=hid (HL1.out.below gx);have HL2:=hid hh;clear hh gx F2))
 have CT:=then_ok HT.out.a HT.out.b HT.out.c HG.out.1.1 HG.out.1.2.1 HG.out.1.2.2 HG.out.2.1 HG.out.2.2.1 HG.out.2.2.2 HL0.out HL1.out
 go_upto_region 14 with (go_at_call 23;refine CT.mono ?_;rintro e S1 ⟨ro,rc,rfl,hh,gx⟩;replace HT:=hid (HT.out.grow gx);have HR:=hid (And.intro hh (HL2.out.below gx));clear hh gx CT HL0 HL1 HL2)
 have CS:=same_ok (n:=(difT t x).length) rfl HR.out.1 HR.out.2 (by have:=(difT_facts HT.out.a HT.out.c HG.out.1.1 HG.out.1.2.2 HG.out.2.1 HG.out.2.2.2).1;omega)
 go_upto_region 16 with (first
  | (go_at_call 12;refine (num_any 0 _).mono ?_;rintro e Wn ⟨rfl,en⟩;subst en)
  | (go_at_call 13;refine CS.mono ?_;rintro e S2 ⟨rfl,gx⟩;replace HT:=hid (HT.out.grow gx);clear gx CS HR))
 have CA:=apply_says HT.out.a HG.out.1.1 HG.out.2.1 HLN.out HT.out.l HP2.out
 go_upto_region 17 with (go_at_call 11;refine CA.mono ?_;rintro e S3 ⟨pv,E,rfl,gx,hh⟩;replace HT:=hid (HT.out.grow gx);have HH:=hid hh;clear gx hh CA)
 rcases HH.out with ⟨hE,rfl⟩ | ⟨rfl,z,pz,rfl,hz⟩
 ·have h1:(E != 0)=true:=by simpa using hE
  clear HH
  go_wp2_with (go_at_call 12;refine (num_any _ _).mono ?_;rintro e Wn ⟨rfl,en⟩;subst en)
  go_ret
  exact ⟨rfl,HT.out.g⟩
 have HZ:=hid hz
 clear HH hz
 have EA:=of_given2 p1 pz t z S3 HT.out.a HZ.out.1 HZ.out.2.2.1 HZ.out.2.2.2
 go_upto_region 22 with (first
  | (go_at_call 12;refine (num_any _ _).mono ?_;rintro e Wn ⟨rfl,en⟩;subst en)
  | (go_at_call 20;refine EA.mono ?_;rintro e S4 ⟨Bz,rfl,kk,gx⟩;have EB:=kk S4 (G.refl _);rw [HZ.out.2.1,HLN.out] at EB;replace HT:=hid (HT.out.grow gx);clear kk gx EA)
  | (go_at_call 19;refine EB.mono ?_;rintro e S5 ⟨zo,zc,rfl,hh,gx⟩;replace HT:=hid (HT.out.grow gx);have HR:=hid hh;clear hh gx EB))
 have CE:=same_ok HLN.out HR.out HT.out.l (by have:=parts_len L;have:=HP2.out;have:=HLN.out;omega)
 go_wp2_with (go_at_call 13;refine CE.mono ?_;rintro e S6 ⟨rfl,gx⟩;replace HT:=hid (HT.out.grow gx);clear gx CE)
 go_ret
 exact ⟨rfl,HT.out.g⟩
end Go.Proofs.YthfcanpkhjgomaaGreat
