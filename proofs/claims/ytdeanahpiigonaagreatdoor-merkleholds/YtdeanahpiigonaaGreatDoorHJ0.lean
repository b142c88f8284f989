import Derived.Test.YtdeanahpiigonaaGreatDoorHI0
import Derived.Test.YtdeanahpiigonaaGreatDoorQRefSplit
set_option maxRecDepth 100000
set_option maxHeartbeats 16000000
namespace Go.Proofs.YtdeanahpiigonaaGreatDoor
open Go.RowKit Hm
attribute [local go_sem] Oper.semAt_some
def qX (p:ByteArray):List ByteArray:=(Pa.splitL (Pa.tl p) 64).map ofB
def zH (p:ByteArray) (v:Vd) (l:List Int):Option Cm:=if 90000<l.length∨valB v=false∨Pa.splitE (Pa.tl p) 64≠0 then none else bZ l (qX p) v
def NmAt (w:World) (na:Option Addr) (names:List ByteArray):Prop:=∀ i s,names[i]?=some s→∃ g,na=some ⟨g,0,none⟩∧w.cell? ⟨g,i,none⟩=some (.string s)
theorem lW {p:ByteArray} {L:List ByteArray} (h:L.map Pa.tl=Pa.splitL (Pa.tl p) 64):L=qX p:=by
 unfold qX
 rw [← h,List.map_map]
 have:(ofB ∘ Pa.tl)=id:=by funext s;exact a2a s
 rw [this,List.map_id]
theorem eK {p:ByteArray} (h:Pa.splitE (Pa.tl p) 64=0):(qX p).length≤64:=by
 unfold qX Pa.splitL
 rw [if_pos h,List.length_map]
 unfold Pa.splitE at h
 split at h
 ·omega
 ·rename_i q
  omega
theorem eL {w:World} {lo:Nat} {a:Option Addr} {n c:Nat} {L:List ByteArray} (h:Pa.OwnsT w lo (.slice a n c) L):n=L.length∧∀ i s,L[i]?=some s→∃ g,a=some ⟨g,0,none⟩∧g<w.heap.size∧w.cell? ⟨g,i,none⟩=some (.string s):=by
 have h0:=h
 obtain ⟨h1,⟨e,h2⟩ | ⟨g,cap,cur,e,hg,hh,hn,hm,hs,ht⟩⟩:=h
 ·injection e with e1 e2 e3
  have:L=[]:=List.length_eq_zero_iff.1 h2
  subst this
  exact ⟨by omega,fun i s q=>by simp at q⟩
 ·injection e with e1 e2 e3
  refine ⟨e2,fun i s q=>⟨g,e1,(ga hh).1,?_⟩⟩
  have:=World.ownsRow.cells h0 (g:=g) (by rw [e1];rfl) i (.string s) (by rw [List.getElem?_map,q];rfl)
  rw [Addr.add_mid,Nat.zero_add] at this
  exact this
theorem gp (p:ByteArray) (v:Vd) (pv:Value) (l:List Int) (w:World) (hp:Wi.Has w pv l) (hB:Wire.Bytes l) (hl:l.length≤100000) (hps:p.size≤1048576):
  Calls Tryz.prog 27 #[.string p,.agg (vx v).toArray,pv] w fun e w'=>G w w'∧((∃ q,e=.returned (.tuple #[q,.bool false]))∧zH p v l=none∨∃ C cm na nc sv dv,e=.returned (.tuple #[.pointer (some ⟨C,0,none⟩),.bool true])∧zH p v l=some cm∧ClI C (.slice na (qX p).length nc) cm sv dv w'∧NmAt w' na (qX p)):=by
 obtain ⟨ao,cap,rfl,_⟩:=hp.form
 obtain ⟨X,hX⟩:∃ X:Array Value,X=(vx v).toArray:=⟨_,rfl⟩
 have HX:Hid (X=(vx v).toArray∧X.size=35):=by subst hX;exact ⟨rfl,jx v⟩
 rw [← hX]
 have CV:Hid (∀ W,Calls Tryz.prog 65 #[.agg X] W fun e w'=>e=.returned (.bool (valB v))∧G W w'):=fun W=>by rw [hX];exact yt v W
 clear hX
 obtain ⟨len,hlen⟩:∃ len,l.length=len:=⟨_,rfl⟩
 rw [hlen] at hl hp
 have HP:=hid hp
 clear hp
 have HLN:=hid hlen
 by_cases hlong:90000<len
 ·have hr:zH p v l=none:=by unfold zH;rw [if_pos (.inl (by omega))]
  rw [hr,hlen]
  have hlI:(90000:Int)<len:=by omega
  clear hlen hr
  go_enter Tryz.func27,Tryz.ntmps27
  go_wp2_with (first
   | ((with_reducible refine jt 4 24 (.tmp 1) X ?_ ?_ ?_ ?_ ?_);rfl;rfl;kernel_rfl;rfl;intro w1 b1 H1))
  refine bodyPost_ret (results_tmp2 rfl _ _ _) rfl ?_
  exact ⟨H1.o.2.1,.inl ⟨⟨_,rfl⟩,by first | rfl | trivial⟩⟩
 have hlI:¬ (90000:Int)<len:=by omega
 cases hvb:valB v with
 | false=>
  have hr:zH p v l=none:=by unfold zH;rw [if_pos (.inr (.inl hvb))]
  rw [hr,hlen]
  rw [hvb] at CV
  clear hlen hr hvb
  go_enter Tryz.func27,Tryz.ntmps27
  go_wp2_with (first
   | ((with_reducible refine jt 4 24 (.tmp 1) X ?_ ?_ ?_ ?_ ?_);rfl;rfl;kernel_rfl;rfl;intro w1 b1 H1)
   | ((with_reducible refine jE 16 24 (.tmp 4) b1 0 X _ ?_ ?_ ?_ ?_ ?_ jR ?_ ?_ ?_);rfl;rfl;kernel_rfl;rfl;exact Lies.of_heap H1.o.2.2.1;rfl;exact (by rw [qU,HX.o.2]))
   | (go_at_call 65;refine (CV.o w1).mono ?_;rintro e w2 ⟨rfl,q⟩;have H2:Hid (G w1 w2):=q;clear q))
  refine bodyPost_ret (results_tmp2 rfl _ _ _) rfl ?_
  exact ⟨G.trans H1.o.2.1 H2.o,.inl ⟨⟨_,rfl⟩,by first | rfl | trivial⟩⟩
 | true=>
  rw [hvb] at CV
  have CS:Hid (∀ W,Calls Tryz.prog 66 #[.string p,.int .i64 64] W fun e w'=>(∃ v L,e=.returned (.tuple #[v,.int .i64 (Pa.splitE (Pa.tl p) 64)])∧Pa.OwnsT w' W.heap.size v L∧L.map Pa.tl=Pa.splitL (Pa.tl p) 64)∧Below W.heap.size W w'):=fun W=>Pa.split_any p 64 W hps
  obtain ⟨E,hE⟩:∃ E,Pa.splitE (Pa.tl p) 64=E:=⟨_,rfl⟩
  have HEE:=hid hE
  rw [hE] at CS
  clear hE
  by_cases hE0:E=0
  rotate_left 1
  ·have hr:zH p v l=none:=by unfold zH;rw [if_pos (.inr (.inr (by rw [HEE.o];exact hE0)))]
   rw [hr,hlen]
   have hEb:(E !=0)=true:=by simp [hE0]
   clear hlen hr hvb
   go_enter Tryz.func27,Tryz.ntmps27
   go_wp2_with (first
    | ((with_reducible refine jt 4 24 (.tmp 1) X ?_ ?_ ?_ ?_ ?_);rfl;rfl;kernel_rfl;rfl;intro w1 b1 H1)
    | ((with_reducible refine jE 16 24 (.tmp 4) b1 0 X _ ?_ ?_ ?_ ?_ ?_ jR ?_ ?_ ?_);rfl;rfl;kernel_rfl;rfl;exact Lies.of_heap H1.o.2.2.1;rfl;exact (by rw [qU,HX.o.2]))
    | (go_at_call 65;refine (CV.o w1).mono ?_;rintro e w2 ⟨rfl,q⟩;have H2:Hid (G w w2):=G.trans H1.o.2.1 q;clear q)
    | (go_at_call 66;refine (CS.o w2).mono ?_;rintro e w3 ⟨⟨nv,L,rfl,_,_⟩,q⟩;have H3:Hid (G w w3):=G.trans H2.o q;clear q))
   refine bodyPost_ret (results_tmp2 rfl _ _ _) rfl ?_
   exact ⟨H3.o,.inl ⟨⟨_,rfl⟩,by first | rfl | trivial⟩⟩
  subst hE0
  have hro:zH p v l=bZ l (qX p) v:=by unfold zH;rw [if_neg];rintro (q | q | q);omega;rw [hvb] at q;cases q;exact q HEE.o
  rw [hro,hlen]
  have hnl:=eK HEE.o
  obtain ⟨N,hN⟩:∃ N,(qX p).length=N:=⟨_,rfl⟩
  rw [hN] at hnl ⊢
  have HN:=hid hN
  clear hlen hro hvb hN
  have CP:Hid (∀ (c:Rq) (C:Nat) (na:Option Addr) (nc:Nat) (W:World),PvAt c p0 W→c.Q<C→ClI C (.slice na N nc) cm0 (.slice none 0 0) (.slice none 0 0) W→(∀ i s,(qX p)[i]?=some s→∃ g,na=some ⟨g,0,none⟩∧g<c.lo∧W.cell? ⟨g,i,none⟩=some (.string s))→Calls Tryz.prog 68 #[.pointer (some ⟨c.Q,0,none⟩),.pointer (some ⟨C,0,none⟩),.agg X] W fun e w'=>e=.returned (.tuple #[])∧PvAt c (yg c.l (qX p) v p0).2 w'∧(∃ sv dv,ClI C (.slice na N nc) (yg c.l (qX p) v p0).1 sv dv w')∧Kp (c.in_ C) W w'):=by
   intro c C na nc W h1 h2 h3 h4
   rw [HX.o.1]
   exact lP h1 C h2 (qX p) N HN.o na nc h4 hnl h3 v
  have CE:Hid (∀ (c:Rq) rr W,PvAt c rr W→Calls Tryz.prog 69 #[.pointer (some ⟨c.R,0,none⟩)] W fun e w'=>e=.returned (.tuple #[])∧PvAt c ⟨Wi.endS c.l rr.s,rr.bad⟩ w'∧Kp c.own W w'):=fun c rr W q=>(Wi.a0W c.lo c.R c.l rr.s W q.rd).mono (by
   rintro e w' ⟨rfl,h1,h2⟩
   exact ⟨rfl,q.wire h1 h2⟩)
  go_enter Tryz.func27,Tryz.ntmps27
  go_upto_region 10 with (first
   | ((with_reducible refine jt 4 24 (.tmp 1) X ?_ ?_ ?_ ?_ ?_);rfl;rfl;kernel_rfl;rfl;intro w1 b1 H1)
   | ((with_reducible refine jE 16 24 (.tmp 4) b1 0 X _ ?_ ?_ ?_ ?_ ?_ jR ?_ ?_ ?_);rfl;rfl;kernel_rfl;rfl;exact Lies.of_heap H1.o.2.2.1;rfl;exact (by rw [qU,HX.o.2]))
   | (go_at_call 65;refine (CV.o w1).mono ?_;rintro e w2 ⟨rfl,q⟩;have H2:Hid (G w w2∧w2.heap[b1]?=some (.cells X 24 (0,0))):=⟨G.trans H1.o.2.1 q,(q.block b1 (by have:=H1.o.2.2.2;omega)).trans H1.o.2.2.1⟩;clear q)
   | (go_at_call 66;refine (CS.o w2).mono ?_;rintro e w3 ⟨⟨nv,L,rfl,z1,z2⟩,q⟩;obtain ⟨na,nc,rfl⟩:∃ na nc,nv=.slice na N nc:=(by obtain ⟨a,k,e⟩:=Hm.row_form z1;subst e;exact ⟨a,k,by rw [← HN.o,← lW z2]⟩);have H3:Hid (G w w3∧w3.heap[b1]?=some (.cells X 24 (0,0))∧∀ i s,(qX p)[i]?=some s→∃ g,na=some ⟨g,0,none⟩∧g<w3.heap.size∧w3.cell? ⟨g,i,none⟩=some (.string s)):=⟨G.trans H2.o.1 q,(q.block b1 (ga H2.o.2).1).trans H2.o.2,by rw [← lW z2];exact (eL z1).2⟩;clear q z1 z2)
   | (go_at_call 67;refine (Wi.rO _ l w3 (HP.o.below H3.o.1) (by have:=HLN.o;omega)).mono ?_;rintro e w4 ⟨R,rfl,z1,z2,z3⟩;have H4:=hid (⟨z1,z2,z3⟩:_∧_∧_);clear z1 z2 z3)
   | ((with_reducible refine jT 29 (.agg #[.pointer (some ⟨R,0,none⟩),.bool false]) w4 ?_ ?_ ?_ ?_);rfl;kernel_rfl;exact eE 113 0 (.tmp 28) rfl (.pointer (some ⟨R,0,none⟩)) rfl _ (build113 R _))
   | ((with_reducible refine jt 30 113 (.tmp 29) #[.pointer (some ⟨R,0,none⟩),.bool false] ?_ ?_ ?_ ?_ ?_);rfl;rfl;kernel_rfl;rfl;intro w5 b5 H5)
   | ((with_reducible refine jT 32 (.agg (clc (.slice na N nc) (.slice none 0 0) vz ((0:Nat):Int) j7 (.slice none 0 0)).toArray) w5 ?_ ?_ ?_ ?_);rfl;kernel_rfl;exact eE 117 0 (.tmp 31) rfl (.slice na N nc) rfl _ (build117 na N nc _))
   | ((with_reducible refine jt 33 117 (.tmp 32) (clc (.slice na N nc) (.slice none 0 0) vz ((0:Nat):Int) j7 (.slice none 0 0)).toArray ?_ ?_ ?_ ?_ ?_);rfl;rfl;kernel_rfl;rfl;intro w6 b6 H6;obtain ⟨c,hc⟩:∃ c:Rq,c=⟨w3.heap.size,R,b5,l,hB⟩:=⟨_,rfl⟩;have H7:Hid (PvAt c p0 w6∧c.Q<b6∧ClI b6 (.slice na N nc) cm0 (.slice none 0 0) (.slice none 0 0) w6∧G w3 w6∧w6.heap[b1]?=some (.cells X 24 (0,0))∧c=⟨w3.heap.size,R,b5,l,hB⟩):=(by obtain ⟨p1,p2,p3,p4⟩:=H5.o;obtain ⟨q1,q2,q3,q4⟩:=H6.o;have hRR:=Wi.Rdr.lt H4.o.2.1;have g36:=G.trans (G.trans H4.o.2.2 p2) q2;subst hc;exact ⟨⟨Wi.Rdr.below (Wi.Rdr.below H4.o.2.1 p2) q2,(q2.block b5 (by omega)).trans p3,by show R<b5;omega⟩,by show b5<b6;omega,⟨q3,StL.nil _ _,SdL.nil _ _,jC⟩,g36,(g36.block b1 (ga H3.o.2.1).1).trans H3.o.2.1,rfl⟩);clear hc;have hQe:c.Q=b5:=(by rw [H7.o.2.2.2.2.2]);have hRe:c.R=R:=(by rw [H7.o.2.2.2.2.2]);subst hQe hRe)
   | ((with_reducible refine jE 36 24 (.tmp 4) b1 0 X _ ?_ ?_ ?_ ?_ ?_ jR ?_ ?_ ?_);rfl;rfl;kernel_rfl;rfl;exact Lies.of_heap H7.o.2.2.2.2.1;rfl;exact (by rw [qU,HX.o.2]))
   | (go_at_call 68;refine (CP.o c b6 na nc w6 H7.o.1 H7.o.2.1 H7.o.2.2.1 (fun i s q=>by obtain ⟨g,z1,z2,z3⟩:=H3.o.2.2 i s q;exact ⟨g,z1,by rw [H7.o.2.2.2.2.2];exact z2,H7.o.2.2.2.1.cell z3⟩)).mono ?_;rintro e w7 ⟨rfl,z1,⟨sv,dv,z2⟩,z3⟩;have H8:=hid (⟨z1,z2,z3⟩:_∧_∧_);have hz7:=z1.cell0;clear z1 z2 z3)
   | (go_at_call 69;refine (CE.o c _ w7 H8.o.1).mono ?_;rintro e w8 ⟨rfl,z1,z2⟩;have H9:=hid (⟨z1,H8.o.2.1.kp z2 H7.o.2.1,z2⟩:_∧_∧_);clear z1 z2))
  have hcl:c.l=l:=by rw [H7.o.2.2.2.2.2]
  have HR:Hid (bZ l (qX p) v=if (yg c.l (qX p) v p0).2.bad=true∨(Wi.endS c.l (yg c.l (qX p) v p0).2.s).fe≠0 then none else some (yg c.l (qX p) v p0).1):=by rw [hcl];rfl
  have HG:Hid (G w w8):=by
   refine ⟨?_,?_,?_,?_,fun b hb=>?_⟩
   ·exact H9.o.2.2.os.trans (H8.o.2.2.os.trans ((G.trans H3.o.1 H7.o.2.2.2.1).os))
   ·exact H9.o.2.2.tape.trans (H8.o.2.2.tape.trans ((G.trans H3.o.1 H7.o.2.2.2.1).tape))
   ·exact H9.o.2.2.output.trans (H8.o.2.2.output.trans ((G.trans H3.o.1 H7.o.2.2.2.1).output))
   ·have:=H9.o.2.2.size;have:=H8.o.2.2.size;have:=(G.trans H3.o.1 H7.o.2.2.2.1).size;omega
   ·have n1:=H3.o.1.size
    have n2:c.lo=w3.heap.size:=by rw [H7.o.2.2.2.2.2]
    have n3:=H7.o.1.lo
    have n4:=H7.o.1.lt
    have n5:=H7.o.2.1
    have n6:=(G.trans H3.o.1 H7.o.2.2.2.1).size
    have n7:=H8.o.2.2.size
    rw [H9.o.2.2.block b (by omega) (fun e=>by have:=e.1;omega),H8.o.2.2.block b (by omega) (fun e=>by rcases e with e | e;have:=e.1;omega;omega)]
    exact (G.trans H3.o.1 H7.o.2.2.2.1).block b hb
  have HNM:Hid (NmAt w8 na (qX p)):=fun i s q=>by
   obtain ⟨g,z1,z2,z3⟩:=H3.o.2.2 i s q
   have n2:c.lo=w3.heap.size:=by rw [H7.o.2.2.2.2.2]
   have n3:=H7.o.1.lo
   have n4:=H7.o.1.lt
   have n5:=H7.o.2.1
   have n6:=H7.o.2.2.2.1.size
   have n7:=H8.o.2.2.size
   have hb:w8.heap[g]?=w3.heap[g]?:=by
    rw [H9.o.2.2.block g (by omega) (fun e=>by have:=e.1;omega),H8.o.2.2.block g (by omega) (fun e=>by rcases e with e | e;have:=e.1;omega;omega)]
    exact H7.o.2.2.2.1.block g z2
   refine ⟨g,z1,?_⟩
   unfold World.cell? at z3 ⊢
   simp only [hb]
   exact z3
  have HC9:=hid H9.o.2.1
  have HP9:=hid H9.o.1
  generalize yg c.l (qX p) v p0=A at *
  obtain ⟨cm,rr⟩:=A
  simp only at HR HC9 HP9
  clear H1 H2 H3 H4 H5 H6 H8 H9 hz7 hcl
  cases hbad:rr.bad with
  | true=>
   refine regi1 b6 c.Q _ w8 rfl rfl rfl (by rw [j9 HP9.o.q];simp [hbad]) fun _=>?_
   rw [foldi1]
   have HN0:=hid (show bZ l (qX p) v=none by rw [HR.o,if_pos (.inl hbad)])
   have HG2:=hid (G.trans HG.o (G.drew w8))
   clear hbad HR
   go_simp
   go_wp2_with fail
   refine bodyPost_ret (results_tmp2 rfl _ _ _) rfl ?_
   exact ⟨HG2.o,.inl ⟨⟨_,rfl⟩,HN0.o⟩⟩
  | false=>
   by_cases hfe:(Wi.endS c.l rr.s).fe=0
   ·have HN0:=hid (show bZ l (qX p) v=some cm by rw [HR.o,if_neg (by rintro (q | q);rw [hbad] at q;cases q;exact q hfe)])
    refine a1e b6 c.Q c.R .nilIface true (fun _ W=>PvAt c ⟨Wi.endS c.l rr.s,rr.bad⟩ W∧W=w8.drew) (fun _ W=>W=w8.drew) (fun W=>PvAt c ⟨Wi.endS c.l rr.s,rr.bad⟩ W) _ w8 rfl rfl rfl eqnil we (fun _ _ q=>q.1) ?k1 (fun W q=>by rw [j9 q.q];simp [hbad]) (fun W q=>q.cell0) (fun _=>⟨HP9.o.up (G.drew w8),rfl⟩) ?k2
    case k1=>
     rintro _ W ⟨q,rfl⟩
     have q':=q.rd
     rw [show Wi.endS c.l rr.s=⟨(Wi.endS c.l rr.s).p,(Wi.endS c.l rr.s).fa,0⟩ by rw [← hfe]] at q'
     refine (Wi.rP c.lo c.R c.l _ _ _ q').mono ?_
     rintro e W' ⟨rfl,rfl⟩
     exact ⟨rfl,rfl⟩
    case k2=>
     rintro r' W rfl
     rw [t8]
     have HF:=hid (⟨G.trans HG.o (G.drew w8),HC9.o.up (G.drew w8)⟩:_∧_)
     have HM:Hid (NmAt w8.drew na (qX p)):=fun i s q=>by obtain ⟨g,z1,z3⟩:=HNM.o i s q;exact ⟨g,z1,(G.drew w8).cell z3⟩
     clear hbad HR hfe
     generalize w8.drew=w9 at *
     go_simp
     go_wp2_with fail
     refine bodyPost_ret (results_tmp2 rfl _ _ _) rfl ?_
     exact ⟨HF.o.1,.inr ⟨b6,cm,na,nc,sv,dv,rfl,HN0.o,HF.o.2,HM.o⟩⟩
   ·have HN0:=hid (show bZ l (qX p) v=none by rw [HR.o,if_pos (.inr hfe)])
    refine a1e b6 c.Q c.R (.iface 190 (.pointer (some ⟨w8.drew.heap.size,0,none⟩))) false (fun _ W=>PvAt c ⟨Wi.endS c.l rr.s,rr.bad⟩ W∧W=w8.drew) (fun _ W=>G w8 W) (fun W=>PvAt c ⟨Wi.endS c.l rr.s,rr.bad⟩ W) _ w8 rfl rfl rfl (eqsome _) (oY _) (fun _ _ q=>q.1) ?k1 (fun W q=>by rw [j9 q.q];simp [hbad]) (fun W q=>q.cell0) (fun _=>⟨HP9.o.up (G.drew w8),rfl⟩) ?k2
    case k1=>
     rintro _ W ⟨q,rfl⟩
     refine (Wi.rQ c.lo c.R c.l _ _ q.rd hfe).mono ?_
     rintro e W' ⟨rfl,rfl⟩
     exact ⟨rfl,G.trans (G.drew w8) (G.alloc _ _)⟩
    case k2=>
     rintro r' W hW
     rw [t8]
     have HF:=hid (G.trans HG.o hW)
     clear hbad HR hfe hW
     generalize w8.drew.heap.size=sz
     go_simp
     go_wp2_with fail
     refine bodyPost_ret (results_tmp2 rfl _ _ _) rfl ?_
     exact ⟨HF.o,.inl ⟨⟨_,rfl⟩,HN0.o⟩⟩
noncomputable abbrev yP:Array Oper:=kS Tryz.f96 5
theorem lZ:yP.size=16:=by kernel_rfl
theorem a1h:say yP 0=some (some 24,.move (.tmp 4),none):=by kernel_rfl
theorem a1i:say yP 1=some (some 25,.load 22 (.tmp 5),none):=by kernel_rfl
theorem a1j:say yP 2=some (some 26,.move (.tmp 11),none):=by kernel_rfl
theorem a1k:say yP 3=some (some 27,.move (.tmp 2),none):=by kernel_rfl
theorem a1l:say yP 4=some (some 28,.move (.tmp 3),none):=by kernel_rfl
theorem a1m:say yP 5=some (some 29,.move (.tmp 12),none):=by kernel_rfl
theorem a1n:say yP 6=some (some 30,.slice 70 (.tmp 28) none (some (.tmp 29)) none,none):=by kernel_rfl
theorem a1o:say yP 7=some (some 31,.move (.tmp 4),none):=by kernel_rfl
theorem a1p:say yP 8=some (some 32,.call { callee:=.value (.func 96),args:=#[.tmp 25,.tmp 26,.tmp 27,.tmp 30,.tmp 31],argTypes:=#[22,3,3,70,34] },none):=by kernel_rfl
theorem a1q:say yP 9=some (some 33,.move (.tmp 3),none):=by kernel_rfl
theorem tB:say yP 10=some (some 34,.move (.tmp 12),none):=by kernel_rfl
theorem tC:say yP 11=some (some 35,.indexAddr 70 (.tmp 33) (.tmp 34),none):=by kernel_rfl
theorem tD:say yP 12=some (some 36,.load 22 (.tmp 35),none):=by kernel_rfl
theorem tE:say yP 13=some (some 37,.call { callee:=.value (.func 115),args:=#[.tmp 32,.tmp 36],argTypes:=#[22,22] },none):=by kernel_rfl
theorem tF:say yP 14=some (some 38,.call { callee:=.value (.tmp 24),args:=#[.tmp 37],argTypes:=#[25] },none):=by kernel_rfl
theorem a1r:say yP 15=some (none,.store 22 (.tmp 10) (.tmp 38),none):=by kernel_rfl
def Vj5 (m g o l cap _b5 _b10:Nat) (Xa Ya _Za:Array Value) (k pl:Int) (r:Nat→Value):Nat→Value
 | 0=>.func (.func 29) #[.pointer (some ⟨m,0,none⟩)] #[]
 | 1=>.agg Xa
 | 2=>.int .i64 k
 | 3=>.int .i64 pl
 | 4=>.slice (some ⟨g,o,none⟩) (l+1) cap
 | 5=>.int .i64 (l:Int)
 | 6=>.slice (some ⟨g,o,none⟩) l cap
 | 7=>.func (.func 29) #[.pointer (some ⟨m,0,none⟩)] #[]
 | 8=>(r 1)
 | 9=>.slice (some ⟨g,o,none⟩) (l+1) cap
 | 10=>.int .i64 (l:Int)
 | 11=>.pointer (some ⟨g,o+l*32,none⟩)
 | 12=>.agg Ya
 | 13=>(r 2)
 | 14=>(r 3)
 | 15=>undef
 | _=>undef
theorem regj5 (m g o l cap b5 b10:Nat) (Xa Ya Za:Array Value) (k pl:Int) (F0 F1 F2 F3 F4:(Nat→Value)→World→Prop) (B:World→Prop)  (t0:Array Value) (wr:World) {Q:Exit→Act→World→Prop} (ht:t0.size=58) (h4:t0.getD 4 undef=.func (.func 29) #[.pointer (some ⟨m,0,none⟩)] #[]) (h5:t0.getD 5 undef=.pointer (some ⟨b5,0,none⟩)) (h11:t0.getD 11 undef=.int .i64 k) (h2:t0.getD 2 undef=.int .i64 pl) (h3:t0.getD 3 undef=.slice (some ⟨g,o,none⟩) (l+1) cap) (h12:t0.getD 12 undef=.int .i64 (l:Int)) (h10:t0.getD 10 undef=.pointer (some ⟨b10,0,none⟩))
  (hX:Xa.size=32) (hY:Ya.size=32) (hZ:Za.size=32∧Za.all (·.oneCell')=true) (hsl1:¬ cap<l) (hix1:¬ (l:Int)+1≤l)
  (hb0:∀ r w,F0 r w→B w) (hb1:∀ r w,F1 r w→B w) (hb2:∀ r w,F2 r w→B w) (hb3:∀ r w,F3 r w→B w)
  (hc1:∀ r w,F0 r w→Calls Tryz.prog 96 #[.agg Xa,.int .i64 k,.int .i64 pl,.slice (some ⟨g,o,none⟩) l cap,.func (.func 29) #[.pointer (some ⟨m,0,none⟩)] #[]] w fun e w'=>∃ u,e=.returned u∧F1 (ups r 1 u) w')
  (hc2:∀ r w,F1 r w→Calls Tryz.prog 115 #[(r 1),.agg Ya] w fun e w'=>∃ u,e=.returned u∧F2 (ups r 2 u) w')
  (hc3:∀ r w,F2 r w→Calls Tryz.prog 29 #[.pointer (some ⟨m,0,none⟩),(r 2)] w fun e w'=>∃ u,e=.returned u∧F3 (ups r 3 u) w')
  (hw4:∀ r w,F3 r w→∃ old,w.heap[b10]?=some (.cells old 22 (0,0))∧old.size=32∧r 3=.agg Za∧F4 r (w.setRow b10 Za))
  (hl1:∀ w,B w→Lies w b5 0 Xa)
  (hl12:∀ w,B w→Lies w g (o+l*32) Ya)
  (hst0:∀ r,F0 r wr.drew)
  (hQ:∀ r w,F4 r w→Q .normal ⟨fold yP (Vj5 m g o l cap b5 b10 Xa Ya Za k pl r) t0 16,[]⟩ w):(Code.region 5 yP true).wp Tryz.prog Q ⟨t0,[]⟩ wr:=by
 have hB:dstB yP t0.size=true:=by rw [ht];kernel_rfl
 have hBB:∀ r done w,MC F0 [(14,F3),(13,F2),(8,F1)] r done w→B w:=fun r done w h=>MC.base hb0 (by simp only [List.mem_cons,List.not_mem_nil,or_false];rintro x (rfl | rfl | rfl)<;>assumption) h
 refine jL (by kernel_rfl) (IE yP (Vj5 m g o l cap b5 b10 Xa Ya Za k pl) t0 (MC F0 [(15,F4),(14,F3),(13,F2),(8,F1)] )) (by kernel_rfl) ⟨(fun _=>undef),t0,rfl,⟨rfl,fun _ _=>rfl,fun _ _ _ _ _ h=>by cases h⟩,MC.start (hst0 _)⟩ ?_ ?_
 rotate_left 1
 ·rintro done a w ⟨r,t,rfl,hS,hM⟩ hall
  rw [hS.end hB hall,lZ]
  exact hQ r w (MC.get (hall 15 (by rw [lZ];decide)) [] (by simp) hM)
 ·rintro jz op done a w ho ⟨r,t,rfl,hS,hM⟩ hnd hdep hcl
  have e4:=hS.ol h4
  have e5:=hS.ol h5
  have e11:=hS.ol h11
  have e2:=hS.ol h2
  have e3:=hS.ol h3
  have e12:=hS.ol h12
  have e10:=hS.ol h10
  have hlt:jz<16:=by rw [← lZ];exact (ga ho).1
  match jz,hlt,ho,hnd,hdep with
  | 0,_,ho,hnd,hdep=>
   refine jM a1h r hB ho hS (hM.step (by rfl)) fun hop=>?_
   unfold execOp;simp [hop,e4,Vj5,go_sem]
  | 1,_,ho,hnd,hdep=>
   have ny15:done 15=false:=j8 (by kernel_rfl) hcl hnd
   refine jM a1i r hB ho hS (hM.step (by rfl)) fun hop=>?_
   exact jQ 22 _ hop b5 0 (by show t.getD 5 undef=_;rw [gd];exact e5) Xa _ (hl1 w (hBB _ _ _ (MC.cut [(15,F4)] (by simp [ny15]) hM))) Tryz.underlying22 rfl (by rw [jK,hX])
  | 2,_,ho,hnd,hdep=>
   refine jM a1j r hB ho hS (hM.step (by rfl)) fun hop=>?_
   unfold execOp;simp [hop,e11,Vj5,go_sem]
  | 3,_,ho,hnd,hdep=>
   refine jM a1k r hB ho hS (hM.step (by rfl)) fun hop=>?_
   unfold execOp;simp [hop,e2,Vj5,go_sem]
  | 4,_,ho,hnd,hdep=>
   refine jM a1l r hB ho hS (hM.step (by rfl)) fun hop=>?_
   unfold execOp;simp [hop,e3,Vj5,go_sem]
  | 5,_,ho,hnd,hdep=>
   refine jM a1m r hB ho hS (hM.step (by rfl)) fun hop=>?_
   unfold execOp;simp [hop,e12,Vj5,go_sem]
  | 6,_,ho,hnd,hdep=>
   have x28:=hS.gt a1l ho hdep
   have x29:=hS.gt a1m ho hdep
   refine jM a1n r hB ho hS (hM.step (by rfl)) fun hop=>?_
   unfold execOp;simp [hop,x28,x29,Vj5,hsl1,go_sem]
  | 7,_,ho,hnd,hdep=>
   refine jM a1o r hB ho hS (hM.step (by rfl)) fun hop=>?_
   unfold execOp;simp [hop,e4,Vj5,go_sem]
  | 8,_,ho,hnd,hdep=>
   obtain ⟨hd,hop,hgd⟩:=jB a1p ho
   have x25:=hS.gt a1i ho hdep
   simp only [Vj5] at x25
   have x26:=hS.gt a1j ho hdep
   simp only [Vj5] at x26
   have x27:=hS.gt a1k ho hdep
   simp only [Vj5] at x27
   have x30:=hS.gt a1n ho hdep
   simp only [Vj5] at x30
   have x31:=hS.gt a1o ho hdep
   simp only [Vj5] at x31
   have ny13:done 13=false:=j8 (by kernel_rfl) hcl hnd
   have ny14:done 14=false:=j8 (by kernel_rfl) hcl ny13
   have ny15:done 15=false:=j8 (by kernel_rfl) hcl hnd
   have hF:=MC.get0 [(15,F4),(14,F3),(13,F2),(8,F1)] (by simp [hnd,ny13,ny14,ny15]) hM
   refine jb r 96 #[.agg Xa,.int .i64 k,.int .i64 pl,.slice (some ⟨g,o,none⟩) l cap,.func (.func 29) #[.pointer (some ⟨m,0,none⟩)] #[]] hB ho (j0 hgd) hd hS ?_ ?_
   ·skip
    unfold execOp
    simp only [hop]
    simp [x25,x26,x27,x30,x31,go_sem]
   ·skip
    refine (hc1 r w hF).mono ?_
    rintro e w' ⟨u,rfl,hF'⟩
    refine ⟨ups r 1 u,?_,fun k hk=>?_,MC.put hF' [(15,F4),(14,F3),(13,F2)] (by simp [ny13,ny14,ny15])⟩
    ·simp only [Vj5,jA]
    ·skip
     have q8:k≠8:=fun e=>by rw [e,hnd] at hk;cases hk
     unfold Vj5
     split<;>first | rfl | exact absurd rfl q8
  | 9,_,ho,hnd,hdep=>
   refine jM a1q r hB ho hS (hM.step (by rfl)) fun hop=>?_
   unfold execOp;simp [hop,e3,Vj5,go_sem]
  | 10,_,ho,hnd,hdep=>
   refine jM tB r hB ho hS (hM.step (by rfl)) fun hop=>?_
   unfold execOp;simp [hop,e12,Vj5,go_sem]
  | 11,_,ho,hnd,hdep=>
   have x33:=hS.gt a1q ho hdep
   have x34:=hS.gt tB ho hdep
   refine jM tC r hB ho hS (hM.step (by rfl)) fun hop=>?_
   unfold execOp;simp [hop,x33,x34,Vj5,hix1,go_sem]
  | 12,_,ho,hnd,hdep=>
   have x35:=hS.gt tC ho hdep
   simp only [Vj5] at x35
   have ny15:done 15=false:=j8 (by kernel_rfl) hcl hnd
   refine jM tD r hB ho hS (hM.step (by rfl)) fun hop=>?_
   exact jQ 22 _ hop g (o+l*32) (by show t.getD 35 undef=_;rw [gd];exact x35) Ya _ (hl12 w (hBB _ _ _ (MC.cut [(15,F4)] (by simp [ny15]) hM))) Tryz.underlying22 rfl (by rw [jK,hY])
  | 13,_,ho,hnd,hdep=>
   obtain ⟨hd,hop,hgd⟩:=jB tE ho
   have x32:=hS.gt a1p ho hdep
   simp only [Vj5] at x32
   have x36:=hS.gt tD ho hdep
   simp only [Vj5] at x36
   have ny14:done 14=false:=j8 (by kernel_rfl) hcl hnd
   have ny15:done 15=false:=j8 (by kernel_rfl) hcl hnd
   have a8:done 8=true:=jy (j:=8) (by kernel_rfl) ho hdep
   have hF:=MC.get a8 [(15,F4),(14,F3),(13,F2)] (by simp [hnd,ny14,ny15]) hM
   refine jb r 115 #[(r 1),.agg Ya] hB ho (j0 hgd) hd hS ?_ ?_
   ·skip
    unfold execOp
    simp only [hop]
    simp [x32,x36,go_sem]
   ·skip
    refine (hc2 r w hF).mono ?_
    rintro e w' ⟨u,rfl,hF'⟩
    refine ⟨ups r 2 u,?_,fun k hk=>?_,MC.put hF' [(15,F4),(14,F3)] (by simp [ny14,ny15])⟩
    ·simp only [Vj5,jA]
    ·skip
     have q13:k≠13:=fun e=>by rw [e,hnd] at hk;cases hk
     unfold Vj5
     split<;>first | rfl | exact absurd rfl q13
  | 14,_,ho,hnd,hdep=>
   obtain ⟨hd,hop,hgd⟩:=jB tF ho
   have x24:=hS.gt a1h ho hdep
   simp only [Vj5] at x24
   have x37:=hS.gt tE ho hdep
   simp only [Vj5] at x37
   have ny15:done 15=false:=j8 (by kernel_rfl) hcl hnd
   have a13:done 13=true:=jy (j:=13) (by kernel_rfl) ho hdep
   have hF:=MC.get a13 [(15,F4),(14,F3)] (by simp [hnd,ny15]) hM
   refine jb r 29 #[.pointer (some ⟨m,0,none⟩),(r 2)] hB ho (j0 hgd) hd hS ?_ ?_
   ·skip
    unfold execOp
    simp only [hop]
    simp [x24,x37,go_sem]
   ·skip
    refine (hc3 r w hF).mono ?_
    rintro e w' ⟨u,rfl,hF'⟩
    refine ⟨ups r 3 u,?_,fun k hk=>?_,MC.put hF' [(15,F4)] (by simp [ny15])⟩
    ·simp only [Vj5,jA]
    ·skip
     have q14:k≠14:=fun e=>by rw [e,hnd] at hk;cases hk
     unfold Vj5
     split<;>first | rfl | exact absurd rfl q14
  | 15,_,ho,hnd,hdep=>
   obtain ⟨hd,hop,hgd⟩:=jB a1r ho
   have x38:=hS.gt tF ho hdep
   simp only [Vj5] at x38
   have a14:done 14=true:=jy (j:=14) (by kernel_rfl) ho hdep
   have hF:=MC.get a14 [(15,F4)] (by simp [hnd]) hM
   obtain ⟨old9,ho9,hs9,e9,hF9⟩:=hw4 r w hF
   refine qh (w':=w.setRow b10 Za) r ho (j0 hgd) hd hS (MC.put hF9 [] (by simp)) ?_
   exact qN 22 _ _ hop b10 Za old9 (by show t.getD 10 undef=_;rw [gd];exact e10) (Eq.trans (by show t.getD 38 undef=_;rw [gd];exact x38) e9) w ho9 (by rw [jK,hZ.1]) (by rw [hs9,hZ.1]) hZ.2
theorem foldj5 (m g o l cap b5 b10:Nat) (Xa Ya Za:Array Value) (k pl:Int) (r:Nat→Value) (t0:Array Value):fold yP (Vj5 m g o l cap b5 b10 Xa Ya Za k pl r) t0 16=(((((((((((((((t0.setIfInBounds 24 (.func (.func 29) #[.pointer (some ⟨m,0,none⟩)] #[])).setIfInBounds 25 (.agg Xa)).setIfInBounds 26 (.int .i64 k)).setIfInBounds 27 (.int .i64 pl)).setIfInBounds 28 (.slice (some ⟨g,o,none⟩) (l+1) cap)).setIfInBounds 29 (.int .i64 (l:Int))).setIfInBounds 30 (.slice (some ⟨g,o,none⟩) l cap)).setIfInBounds 31 (.func (.func 29) #[.pointer (some ⟨m,0,none⟩)] #[])).setIfInBounds 32 ((r 1))).setIfInBounds 33 (.slice (some ⟨g,o,none⟩) (l+1) cap)).setIfInBounds 34 (.int .i64 (l:Int))).setIfInBounds 35 (.pointer (some ⟨g,o+l*32,none⟩))).setIfInBounds 36 (.agg Ya)).setIfInBounds 37 ((r 2))).setIfInBounds 38 ((r 3))):=by kernel_rfl
noncomputable abbrev kf:Array Oper:=kS Tryz.f96 6
theorem li:kf.size=20:=by kernel_rfl
theorem a1s:say kf 0=some (some 39,.move (.tmp 4),none):=by kernel_rfl
theorem a1t:say kf 1=some (some 40,.move (.tmp 3),none):=by kernel_rfl
theorem a1u:say kf 2=some (some 41,.move (.tmp 12),none):=by kernel_rfl
theorem a1v:say kf 3=some (some 42,.indexAddr 70 (.tmp 40) (.tmp 41),none):=by kernel_rfl
theorem a1w:say kf 4=some (some 43,.load 22 (.tmp 42),none):=by kernel_rfl
theorem a1x:say kf 5=some (some 44,.load 22 (.tmp 5),none):=by kernel_rfl
theorem a1y:say kf 6=some (some 45,.move (.tmp 1),none):=by kernel_rfl
theorem a1z:say kf 7=some (some 46,.move (.tmp 11),none):=by kernel_rfl
theorem a20:say kf 8=some (some 47,.binOp .sub 3 (.tmp 45) (.tmp 46) 3,none):=by kernel_rfl
theorem a22:say kf 9=some (some 48,.move (.tmp 2),none):=by kernel_rfl
theorem tG:say kf 10=some (some 49,.move (.tmp 11),none):=by kernel_rfl
theorem tH:say kf 11=some (some 50,.binOp .sub 3 (.tmp 48) (.tmp 49) 3,none):=by kernel_rfl
theorem tI:say kf 12=some (some 51,.move (.tmp 3),none):=by kernel_rfl
theorem tJ:say kf 13=some (some 52,.move (.tmp 12),none):=by kernel_rfl
theorem tK:say kf 14=some (some 53,.slice 70 (.tmp 51) none (some (.tmp 52)) none,none):=by kernel_rfl
theorem tL:say kf 15=some (some 54,.move (.tmp 4),none):=by kernel_rfl
theorem tM:say kf 16=some (some 55,.call { callee:=.value (.func 96),args:=#[.tmp 44,.tmp 47,.tmp 50,.tmp 53,.tmp 54],argTypes:=#[22,3,3,70,34] },none):=by kernel_rfl
theorem tO:say kf 17=some (some 56,.call { callee:=.value (.func 115),args:=#[.tmp 43,.tmp 55],argTypes:=#[22,22] },none):=by kernel_rfl
theorem tP:say kf 18=some (some 57,.call { callee:=.value (.tmp 39),args:=#[.tmp 56],argTypes:=#[25] },none):=by kernel_rfl
theorem a23:say kf 19=some (none,.store 22 (.tmp 10) (.tmp 57),none):=by kernel_rfl
def Vj6 (m g o l cap _b5 _b10:Nat) (Xa Ya _Za:Array Value) (k pl:Int) (cn c2 p2:Int) (r:Nat→Value):Nat→Value
 | 0=>.func (.func 29) #[.pointer (some ⟨m,0,none⟩)] #[]
 | 1=>.slice (some ⟨g,o,none⟩) (l+1) cap
 | 2=>.int .i64 (l:Int)
 | 3=>.pointer (some ⟨g,o+l*32,none⟩)
 | 4=>.agg Ya
 | 5=>.agg Xa
 | 6=>.int .i64 cn
 | 7=>.int .i64 k
 | 8=>.int .i64 c2
 | 9=>.int .i64 pl
 | 10=>.int .i64 k
 | 11=>.int .i64 p2
 | 12=>.slice (some ⟨g,o,none⟩) (l+1) cap
 | 13=>.int .i64 (l:Int)
 | 14=>.slice (some ⟨g,o,none⟩) l cap
 | 15=>.func (.func 29) #[.pointer (some ⟨m,0,none⟩)] #[]
 | 16=>(r 1)
 | 17=>(r 2)
 | 18=>(r 3)
 | 19=>undef
 | _=>undef
theorem regj6 (m g o l cap b5 b10:Nat) (Xa Ya Za:Array Value) (k pl:Int) (cn c2 p2:Int) (F0 F1 F2 F3 F4:(Nat→Value)→World→Prop) (B:World→Prop)  (t0:Array Value) (wr:World) {Q:Exit→Act→World→Prop} (ht:t0.size=58) (h4:t0.getD 4 undef=.func (.func 29) #[.pointer (some ⟨m,0,none⟩)] #[]) (h5:t0.getD 5 undef=.pointer (some ⟨b5,0,none⟩)) (h11:t0.getD 11 undef=.int .i64 k) (h1:t0.getD 1 undef=.int .i64 cn) (h2:t0.getD 2 undef=.int .i64 pl) (h3:t0.getD 3 undef=.slice (some ⟨g,o,none⟩) (l+1) cap) (h12:t0.getD 12 undef=.int .i64 (l:Int)) (h10:t0.getD 10 undef=.pointer (some ⟨b10,0,none⟩))
  (hX:Xa.size=32) (hY:Ya.size=32) (hZ:Za.size=32∧Za.all (·.oneCell')=true) (hsl1:¬ cap<l) (hix1:¬ (l:Int)+1≤l) (hcn2:IntKind.i64.wrap (cn-k)=c2) (hp2:IntKind.i64.wrap (pl-k)=p2)
  (hb0:∀ r w,F0 r w→B w) (hb1:∀ r w,F1 r w→B w) (hb2:∀ r w,F2 r w→B w) (hb3:∀ r w,F3 r w→B w)
  (hc1:∀ r w,F0 r w→Calls Tryz.prog 96 #[.agg Xa,.int .i64 c2,.int .i64 p2,.slice (some ⟨g,o,none⟩) l cap,.func (.func 29) #[.pointer (some ⟨m,0,none⟩)] #[]] w fun e w'=>∃ u,e=.returned u∧F1 (ups r 1 u) w')
  (hc2:∀ r w,F1 r w→Calls Tryz.prog 115 #[.agg Ya,(r 1)] w fun e w'=>∃ u,e=.returned u∧F2 (ups r 2 u) w')
  (hc3:∀ r w,F2 r w→Calls Tryz.prog 29 #[.pointer (some ⟨m,0,none⟩),(r 2)] w fun e w'=>∃ u,e=.returned u∧F3 (ups r 3 u) w')
  (hw4:∀ r w,F3 r w→∃ old,w.heap[b10]?=some (.cells old 22 (0,0))∧old.size=32∧r 3=.agg Za∧F4 r (w.setRow b10 Za))
  (hl5:∀ w,B w→Lies w b5 0 Xa)
  (hl4:∀ w,B w→Lies w g (o+l*32) Ya)
  (hst0:∀ r,F0 r wr.drew)
  (hQ:∀ r w,F4 r w→Q .normal ⟨fold kf (Vj6 m g o l cap b5 b10 Xa Ya Za k pl cn c2 p2 r) t0 20,[]⟩ w):(Code.region 6 kf true).wp Tryz.prog Q ⟨t0,[]⟩ wr:=by
 have hB:dstB kf t0.size=true:=by rw [ht];kernel_rfl
 have hBB:∀ r done w,MC F0 [(18,F3),(17,F2),(16,F1)] r done w→B w:=fun r done w h=>MC.base hb0 (by simp only [List.mem_cons,List.not_mem_nil,or_false];rintro x (rfl | rfl | rfl)<;>assumption) h
 refine jL (by kernel_rfl) (IE kf (Vj6 m g o l cap b5 b10 Xa Ya Za k pl cn c2 p2) t0 (MC F0 [(19,F4),(18,F3),(17,F2),(16,F1)] )) (by kernel_rfl) ⟨(fun _=>undef),t0,rfl,⟨rfl,fun _ _=>rfl,fun _ _ _ _ _ h=>by cases h⟩,MC.start (hst0 _)⟩ ?_ ?_
 rotate_left 1
 ·rintro done a w ⟨r,t,rfl,hS,hM⟩ hall
  rw [hS.end hB hall,li]
  exact hQ r w (MC.get (hall 19 (by rw [li];decide)) [] (by simp) hM)
 ·rintro jz op done a w ho ⟨r,t,rfl,hS,hM⟩ hnd hdep hcl
  have e4:=hS.ol h4
  have e5:=hS.ol h5
  have e11:=hS.ol h11
  have e1:=hS.ol h1
  have e2:=hS.ol h2
  have e3:=hS.ol h3
  have e12:=hS.ol h12
  have e10:=hS.ol h10
  have hlt:jz<20:=by rw [← li];exact (ga ho).1
  match jz,hlt,ho,hnd,hdep with
  | 0,_,ho,hnd,hdep=>
   refine jM a1s r hB ho hS (hM.step (by rfl)) fun hop=>?_
   unfold execOp;simp [hop,e4,Vj6,go_sem]
  | 1,_,ho,hnd,hdep=>
   refine jM a1t r hB ho hS (hM.step (by rfl)) fun hop=>?_
   unfold execOp;simp [hop,e3,Vj6,go_sem]
  | 2,_,ho,hnd,hdep=>
   refine jM a1u r hB ho hS (hM.step (by rfl)) fun hop=>?_
   unfold execOp;simp [hop,e12,Vj6,go_sem]
  | 3,_,ho,hnd,hdep=>
   have x40:=hS.gt a1t ho hdep
   have x41:=hS.gt a1u ho hdep
   refine jM a1v r hB ho hS (hM.step (by rfl)) fun hop=>?_
   unfold execOp;simp [hop,x40,x41,Vj6,hix1,go_sem]
  | 4,_,ho,hnd,hdep=>
   have x42:=hS.gt a1v ho hdep
   simp only [Vj6] at x42
   have ny19:done 19=false:=j8 (by kernel_rfl) hcl hnd
   refine jM a1w r hB ho hS (hM.step (by rfl)) fun hop=>?_
   exact jQ 22 _ hop g (o+l*32) (by show t.getD 42 undef=_;rw [gd];exact x42) Ya _ (hl4 w (hBB _ _ _ (MC.cut [(19,F4)] (by simp [ny19]) hM))) Tryz.underlying22 rfl (by rw [jK,hY])
  | 5,_,ho,hnd,hdep=>
   have ny19:done 19=false:=j8 (by kernel_rfl) hcl hnd
   refine jM a1x r hB ho hS (hM.step (by rfl)) fun hop=>?_
   exact jQ 22 _ hop b5 0 (by show t.getD 5 undef=_;rw [gd];exact e5) Xa _ (hl5 w (hBB _ _ _ (MC.cut [(19,F4)] (by simp [ny19]) hM))) Tryz.underlying22 rfl (by rw [jK,hX])
  | 6,_,ho,hnd,hdep=>
   refine jM a1y r hB ho hS (hM.step (by rfl)) fun hop=>?_
   unfold execOp;simp [hop,e1,Vj6,go_sem]
  | 7,_,ho,hnd,hdep=>
   refine jM a1z r hB ho hS (hM.step (by rfl)) fun hop=>?_
   unfold execOp;simp [hop,e11,Vj6,go_sem]
  | 8,_,ho,hnd,hdep=>
   have x45:=hS.gt a1y ho hdep
   simp only [Vj6] at x45
   have x46:=hS.gt a1z ho hdep
   simp only [Vj6] at x46
   refine jM a20 r hB ho hS (hM.step (by rfl)) fun hop=>?_
   unfold execOp;simp [hop,x45,x46,Vj6,go_sem]
   exact hcn2
  | 9,_,ho,hnd,hdep=>
   refine jM a22 r hB ho hS (hM.step (by rfl)) fun hop=>?_
   unfold execOp;simp [hop,e2,Vj6,go_sem]
  | 10,_,ho,hnd,hdep=>
   refine jM tG r hB ho hS (hM.step (by rfl)) fun hop=>?_
   unfold execOp;simp [hop,e11,Vj6,go_sem]
  | 11,_,ho,hnd,hdep=>
   have x48:=hS.gt a22 ho hdep
   simp only [Vj6] at x48
   have x49:=hS.gt tG ho hdep
   simp only [Vj6] at x49
   refine jM tH r hB ho hS (hM.step (by rfl)) fun hop=>?_
   unfold execOp;simp [hop,x48,x49,Vj6,go_sem]
   exact hp2
  | 12,_,ho,hnd,hdep=>
   refine jM tI r hB ho hS (hM.step (by rfl)) fun hop=>?_
   unfold execOp;simp [hop,e3,Vj6,go_sem]
  | 13,_,ho,hnd,hdep=>
   refine jM tJ r hB ho hS (hM.step (by rfl)) fun hop=>?_
   unfold execOp;simp [hop,e12,Vj6,go_sem]
  | 14,_,ho,hnd,hdep=>
   have x51:=hS.gt tI ho hdep
   have x52:=hS.gt tJ ho hdep
   refine jM tK r hB ho hS (hM.step (by rfl)) fun hop=>?_
   unfold execOp;simp [hop,x51,x52,Vj6,hsl1,go_sem]
  | 15,_,ho,hnd,hdep=>
   refine jM tL r hB ho hS (hM.step (by rfl)) fun hop=>?_
   unfold execOp;simp [hop,e4,Vj6,go_sem]
  | 16,_,ho,hnd,hdep=>
   obtain ⟨hd,hop,hgd⟩:=jB tM ho
   have x44:=hS.gt a1x ho hdep
   simp only [Vj6] at x44
   have x47:=hS.gt a20 ho hdep
   simp only [Vj6] at x47
   have x50:=hS.gt tH ho hdep
   simp only [Vj6] at x50
   have x53:=hS.gt tK ho hdep
   simp only [Vj6] at x53
   have x54:=hS.gt tL ho hdep
   simp only [Vj6] at x54
   have ny17:done 17=false:=j8 (by kernel_rfl) hcl hnd
   have ny18:done 18=false:=j8 (by kernel_rfl) hcl ny17
   have ny19:done 19=false:=j8 (by kernel_rfl) hcl hnd
   have hF:=MC.get0 [(19,F4),(18,F3),(17,F2),(16,F1)] (by simp [hnd,ny17,ny18,ny19]) hM
   refine jb r 96 #[.agg Xa,.int .i64 c2,.int .i64 p2,.slice (some ⟨g,o,none⟩) l cap,.func (.func 29) #[.pointer (some ⟨m,0,none⟩)] #[]] hB ho (j0 hgd) hd hS ?_ ?_
   ·skip
    unfold execOp
    simp only [hop]
    simp [x44,x47,x50,x53,x54,go_sem]
   ·skip
    refine (hc1 r w hF).mono ?_
    rintro e w' ⟨u,rfl,hF'⟩
    refine ⟨ups r 1 u,?_,fun k hk=>?_,MC.put hF' [(19,F4),(18,F3),(17,F2)] (by simp [ny17,ny18,ny19])⟩
    ·simp only [Vj6,jA]
    ·skip
     have q16:k≠16:=fun e=>by rw [e,hnd] at hk;cases hk
     unfold Vj6
     split<;>first | rfl | exact absurd rfl q16
  | 17,_,ho,hnd,hdep=>
   obtain ⟨hd,hop,hgd⟩:=jB tO ho
   have x43:=hS.gt a1w ho hdep
   simp only [Vj6] at x43
   have x55:=hS.gt tM ho hdep
   simp only [Vj6] at x55
   have ny18:done 18=false:=j8 (by kernel_rfl) hcl hnd
   have ny19:done 19=false:=j8 (by kernel_rfl) hcl hnd
   have a16:done 16=true:=jy (j:=16) (by kernel_rfl) ho hdep
   have hF:=MC.get a16 [(19,F4),(18,F3),(17,F2)] (by simp [hnd,ny18,ny19]) hM
   refine jb r 115 #[.agg Ya,(r 1)] hB ho (j0 hgd) hd hS ?_ ?_
   ·skip
    unfold execOp
    simp only [hop]
    simp [x43,x55,go_sem]
   ·skip
    refine (hc2 r w hF).mono ?_
    rintro e w' ⟨u,rfl,hF'⟩
    refine ⟨ups r 2 u,?_,fun k hk=>?_,MC.put hF' [(19,F4),(18,F3)] (by simp [ny18,ny19])⟩
    ·simp only [Vj6,jA]
    ·skip
     have q17:k≠17:=fun e=>by rw [e,hnd] at hk;cases hk
     unfold Vj6
     split<;>first | rfl | exact absurd rfl q17
  | 18,_,ho,hnd,hdep=>
   obtain ⟨hd,hop,hgd⟩:=jB tP ho
   have x39:=hS.gt a1s ho hdep
   simp only [Vj6] at x39
   have x56:=hS.gt tO ho hdep
   simp only [Vj6] at x56
   have ny19:done 19=false:=j8 (by kernel_rfl) hcl hnd
   have a17:done 17=true:=jy (j:=17) (by kernel_rfl) ho hdep
   have hF:=MC.get a17 [(19,F4),(18,F3)] (by simp [hnd,ny19]) hM
   refine jb r 29 #[.pointer (some ⟨m,0,none⟩),(r 2)] hB ho (j0 hgd) hd hS ?_ ?_
   ·skip
    unfold execOp
    simp only [hop]
    simp [x39,x56,go_sem]
   ·skip
    refine (hc3 r w hF).mono ?_
    rintro e w' ⟨u,rfl,hF'⟩
    refine ⟨ups r 3 u,?_,fun k hk=>?_,MC.put hF' [(19,F4)] (by simp [ny19])⟩
    ·simp only [Vj6,jA]
    ·skip
     have q18:k≠18:=fun e=>by rw [e,hnd] at hk;cases hk
     unfold Vj6
     split<;>first | rfl | exact absurd rfl q18
  | 19,_,ho,hnd,hdep=>
   obtain ⟨hd,hop,hgd⟩:=jB a23 ho
   have x57:=hS.gt tP ho hdep
   simp only [Vj6] at x57
   have a18:done 18=true:=jy (j:=18) (by kernel_rfl) ho hdep
   have hF:=MC.get a18 [(19,F4)] (by simp [hnd]) hM
   obtain ⟨old9,ho9,hs9,e9,hF9⟩:=hw4 r w hF
   refine qh (w':=w.setRow b10 Za) r ho (j0 hgd) hd hS (MC.put hF9 [] (by simp)) ?_
   exact qN 22 _ _ hop b10 Za old9 (by show t.getD 10 undef=_;rw [gd];exact e10) (Eq.trans (by show t.getD 57 undef=_;rw [gd];exact x57) e9) w ho9 (by rw [jK,hZ.1]) (by rw [hs9,hZ.1]) hZ.2
theorem foldj6 (m g o l cap b5 b10:Nat) (Xa Ya Za:Array Value) (k pl:Int) (cn c2 p2:Int) (r:Nat→Value) (t0:Array Value):fold kf (Vj6 m g o l cap b5 b10 Xa Ya Za k pl cn c2 p2 r) t0 20=(((((((((((((((((((t0.setIfInBounds 39 (.func (.func 29) #[.pointer (some ⟨m,0,none⟩)] #[])).setIfInBounds 40 (.slice (some ⟨g,o,none⟩) (l+1) cap)).setIfInBounds 41 (.int .i64 (l:Int))).setIfInBounds 42 (.pointer (some ⟨g,o+l*32,none⟩))).setIfInBounds 43 (.agg Ya)).setIfInBounds 44 (.agg Xa)).setIfInBounds 45 (.int .i64 cn)).setIfInBounds 46 (.int .i64 k)).setIfInBounds 47 (.int .i64 c2)).setIfInBounds 48 (.int .i64 pl)).setIfInBounds 49 (.int .i64 k)).setIfInBounds 50 (.int .i64 p2)).setIfInBounds 51 (.slice (some ⟨g,o,none⟩) (l+1) cap)).setIfInBounds 52 (.int .i64 (l:Int))).setIfInBounds 53 (.slice (some ⟨g,o,none⟩) l cap)).setIfInBounds 54 (.func (.func 29) #[.pointer (some ⟨m,0,none⟩)] #[])).setIfInBounds 55 ((r 1))).setIfInBounds 56 ((r 2))).setIfInBounds 57 ((r 3))):=by kernel_rfl
end Go.Proofs.YtdeanahpiigonaaGreatDoor
