import Derived.Test.YtdeanahpiigonaaGreatDoorHR1
set_option maxRecDepth 100000
set_option maxHeartbeats 2000000
namespace Go.Proofs.YtdeanahpiigonaaGreatDoor
open Go.RowKit Hm
section
variable {s n:Nat} {md:Region.Mode} {ops:Array Oper} {Q:Exit→Act→World→Prop}
theorem vXr (i d:Nat) (v:Value) (w':World) {oi:Oper} {k:Nat} {listed:Array Bool} {a:Act} {w:World} {rest:List Nat} (hi:ops[i]?=some oi) (hk:okW ops s i d oi a.tmps=true)
  (hx:(execOp a.eval oi).run Tryz.prog w=.ok (.value v) w') (hg:G w w') (h:wpX s Fence.wide n md ops Q k (listed.setIfInBounds i true) (a.put (some d) v) w') (hr:AllX s Fence.wide n md ops Q k listed a w rest):AllX s Fence.wide n md ops Q k listed a w (i::rest):=by
 obtain ⟨h1,h2,h3,h4⟩:=cU hk
 exact AllX.value xH i d v w' hi h1 h2 h3 h4 hx hg h hr
end
theorem xk (nm:ByteArray) (h:List Nat) (w:World) (hh:h.length=32) (hn:nm.size≤100000):
  Calls Tryz.prog 22 #[.string nm,.agg (h.map Su.vb).toArray] w fun e w'=>∃ u,e=.returned u∧Su.Owns w' w.heap.size u (qg nm h)∧G w w':=by
 obtain ⟨B,hB⟩:∃ B,w.heap.size=B:=⟨_,rfl⟩
 obtain ⟨w1,hw1⟩:∃ w1,w1=w.alloc (.cells (h.map Su.vb).toArray 22):=⟨_,rfl⟩
 have H1:Hid (G w w1∧Lies w1 B 0 (h.map Su.vb).toArray):=by
  rw [hw1,← hB]
  exact ⟨G.alloc _ _,jc w _ 22⟩
 have HS:Hid (∀ W,G w1 W→Su.Has W (.slice (some ⟨B,0,none⟩) 32 32) h):=fun W hg=>zr (hg.lies H1.o.2) h hh (fun j x h=>by rw [Nat.zero_add];simpa using h)
 have HT:Hid (qg nm h=[[78],encN nm.size++strN nm,h].flatten):=by show _=_;unfold qg;simp
 have CW:Hid (∀ W,Calls Tryz.prog 57 #[.string nm] W fun e w'=>∃ v,e=.returned v∧Su.Owns w' W.heap.size v (encN nm.size++strN nm)∧G W w'):=fun W=>wv nm W hn
 have hwl:(encN nm.size++strN nm).length≤100010:=by have:=ju (n:=nm.size) (by omega);simp [ze];omega
 have HB:Hid ((encN nm.size++strN nm).length≤100010∧h.length=32∧w.heap.size=B):=⟨hwl,hh,hB⟩
 generalize qg nm h=OT at *
 generalize encN nm.size++strN nm=WD at *
 generalize (h.map Su.vb).toArray=TX at *
 clear hn hh hwl
 refine (callsIn_wide (n:=3)).1 ?_
 refine callsIn_of_wp_marks Tryz.func22 rfl trivial (Go.wpIn_mono (Q:=RetM Tryz.f22 _) ?_ RetM.post) rfl
 simp only [Tryz.ntmps22,List.size_toArray,List.length_cons,List.length_nil,Nat.reduceAdd,Nat.reduceSub,Array.replicate_succ,Array.replicate_zero,List.push_toArray,List.append_toArray,List.nil_append,List.cons_append]
 gi_wp2_with fail
 rw [← hw1]
 refine qL 6 ?_
 have HD:Hid (G w1 w1.drew):=G.drew w1
 generalize w1.drew=w2 at *
 refine tX 1 6 (.string nm) rfl (by kernel_rfl) (fun _ _ _ h=>h) (fun wz hz=>?_) ?_
 ·rfl
 try simp only [Act.put,sA,sB,sC]
 refine tX 3 8 (.slice (some ⟨B,0,none⟩) 32 32) rfl (by kernel_rfl) (fun _ _ _ h=>h) (fun wz hz=>?_) ?_
 ·have y:=kT B 0 wz;go_simp
 try simp only [Act.put,sA,sB,sC]
 refine ja [0,2] (by kernel_rfl) (by simp) fun w3 hg3=>?_
 refine vXr 0 5 (.slice (some ⟨w3.heap.size,0,none⟩) 1 1) (w3.alloc (.cells #[.int .u8 78] 5)) rfl (by kernel_rfl) (by go_simp) (G.alloc _ _) ?ca (kX 2 7 57 #[.string nm] rfl (by kernel_rfl) (by go_simp) ((callsIn_wide.2 (CW.o w3)).mono ?cb))
 case ca=>
  try simp only [Act.put,sA,sB,sC]
  refine ja [2] (by kernel_rfl) (by simp) fun w4 hg4=>?_
  refine kX 2 7 57 #[.string nm] rfl (by kernel_rfl) (by go_simp) ((callsIn_wide.2 (CW.o w4)).mono ?_)
  rintro e w5 ⟨u7,rfl,h7,hg7⟩
  refine ⟨_,rfl,hg7,?_⟩
  have h7:=h7.has
  obtain ⟨ao7,cp7,e7,_⟩:=h7.form
  subst e7
  try simp only [Act.put,sA,sB,sC]
  have h5:Su.Has w5 (.slice (some ⟨w3.heap.size,0,none⟩) 1 1) [78]:=(qD w3 78).below (hg4.trans hg7)
  have hgx:G w1 w5:=(((HD.o.trans hg3).trans (G.alloc _ _)).trans hg4).trans hg7
  refine ja [4] (by kernel_rfl) (by simp) fun wA hgA=>?_
  refine vX 4 9 (.slice (some ⟨wA.heap.size,0,none⟩) 3 3) (wA.alloc (.cells #[.slice (some ⟨w3.heap.size,0,none⟩) 1 1,.slice ao7 WD.length cp7,.slice (some ⟨B,0,none⟩) 32 32] 25)) rfl (by kernel_rfl) (by go_simp) (G.alloc _ _) ?_
  try simp only [Act.put,sA,sB,sC]
  refine ja [5] (by kernel_rfl) (by simp) fun wB hgB=>?_
  have hzB:G w5 wB:=(hgA.trans (G.alloc _ _)).trans hgB
  have hz1:G w1 wB:=(hgx).trans hzB
  have hL:=hgB.lies (jc wA #[.slice (some ⟨w3.heap.size,0,none⟩) 1 1,.slice ao7 WD.length cp7,.slice (some ⟨B,0,none⟩) 32 32] 25)
  have CC:=zK wA.heap.size 3 [.slice (some ⟨w3.heap.size,0,none⟩) 1 1,.slice ao7 WD.length cp7,.slice (some ⟨B,0,none⟩) 32 32] [[78],WD,h] wB rfl (by simp)
   (fun i hi=>match i,hi with | 0,_=>jD hL 0 _ rfl | 1,_=>jD hL 1 _ rfl | 2,_=>jD hL 2 _ rfl | i+3,hi=>absurd hi (by simp))
   (fun i hi=>match i,hi with | 0,_=>(h5).below hzB | 1,_=>(h7).below hzB | 2,_=>HS.o wB hz1 | i+3,hi=>absurd hi (by simp)) (by have:=HB.o;simp;omega)
  refine kX 5 10 56 #[.slice (some ⟨wA.heap.size,0,none⟩) 3 3] rfl (by kernel_rfl) (by go_simp) ((callsIn_wide.2 CC).mono ?_)
  rintro e wC ⟨u,rfl,hC,hgC⟩
  refine ⟨_,rfl,hgC,?_⟩
  try simp only [Act.put,sA,sB,sC]
  refine zk (by kernel_rfl) fun w9 hg9=>?_
  refine wpAnyIn_ready (rs:=[6]) (by kernel_rfl) (by simp) ?_
  refine km 6 4 (u) (w9) rfl rfl (by kernel_rfl) (rfl) ?_ AllReadyIn.nil
  try simp only [Act.put,sA,sB,sC]
  refine wpAnyIn_done (by kernel_rfl) ?_ _
  have HF:Hid (Su.Owns w9 w.heap.size u OT∧G w w9):=by
   have hBB:=HB.o.2.2
   have:=(H1.o.1.trans hz1).size
   refine ⟨?_,(H1.o.1.trans hz1).trans (hgC.trans hg9)⟩
   rw [HT.o]
   exact Su.Owns.mono (Su.Owns.below hC hg9 (Nat.le_refl _)) (by omega)
  clear CC hL hz1 hzB hC
  gi_wp2_with fail
  exact ⟨_,results_tmp rfl _ _ _,u,rfl,HF.o⟩
 case cb=>
  rintro e w4 ⟨u7,rfl,h7,hg7⟩
  refine ⟨_,rfl,hg7,?_⟩
  have h7:=h7.has
  obtain ⟨ao7,cp7,e7,_⟩:=h7.form
  subst e7
  try simp only [Act.put,sA,sB,sC]
  refine ja [0] (by kernel_rfl) (by simp) fun w5 hg5=>?_
  refine vX 0 5 (.slice (some ⟨w5.heap.size,0,none⟩) 1 1) (w5.alloc (.cells #[.int .u8 78] 5)) rfl (by kernel_rfl) (by go_simp) (G.alloc _ _) ?_
  try simp only [Act.put,sA,sB,sC]
  have h5:Su.Has (w5.alloc (.cells #[.int .u8 78] 5)) (.slice (some ⟨w5.heap.size,0,none⟩) 1 1) [78]:=qD w5 78
  have hgx:G w1 (w5.alloc (.cells #[.int .u8 78] 5)):=(((HD.o.trans hg3).trans hg7).trans hg5).trans (G.alloc _ _)
  have h7:=h7.below (hg5.trans (G.alloc _ (.cells #[.int .u8 78] 5)))
  refine ja [4] (by kernel_rfl) (by simp) fun wA hgA=>?_
  refine vX 4 9 (.slice (some ⟨wA.heap.size,0,none⟩) 3 3) (wA.alloc (.cells #[.slice (some ⟨w5.heap.size,0,none⟩) 1 1,.slice ao7 WD.length cp7,.slice (some ⟨B,0,none⟩) 32 32] 25)) rfl (by kernel_rfl) (by go_simp) (G.alloc _ _) ?_
  try simp only [Act.put,sA,sB,sC]
  refine ja [5] (by kernel_rfl) (by simp) fun wB hgB=>?_
  have hzB:G (w5.alloc (.cells #[.int .u8 78] 5)) wB:=(hgA.trans (G.alloc _ _)).trans hgB
  have hz1:G w1 wB:=(hgx).trans hzB
  have hL:=hgB.lies (jc wA #[.slice (some ⟨w5.heap.size,0,none⟩) 1 1,.slice ao7 WD.length cp7,.slice (some ⟨B,0,none⟩) 32 32] 25)
  have CC:=zK wA.heap.size 3 [.slice (some ⟨w5.heap.size,0,none⟩) 1 1,.slice ao7 WD.length cp7,.slice (some ⟨B,0,none⟩) 32 32] [[78],WD,h] wB rfl (by simp)
   (fun i hi=>match i,hi with | 0,_=>jD hL 0 _ rfl | 1,_=>jD hL 1 _ rfl | 2,_=>jD hL 2 _ rfl | i+3,hi=>absurd hi (by simp))
   (fun i hi=>match i,hi with | 0,_=>(h5).below hzB | 1,_=>(h7).below hzB | 2,_=>HS.o wB hz1 | i+3,hi=>absurd hi (by simp)) (by have:=HB.o;simp;omega)
  refine kX 5 10 56 #[.slice (some ⟨wA.heap.size,0,none⟩) 3 3] rfl (by kernel_rfl) (by go_simp) ((callsIn_wide.2 CC).mono ?_)
  rintro e wC ⟨u,rfl,hC,hgC⟩
  refine ⟨_,rfl,hgC,?_⟩
  try simp only [Act.put,sA,sB,sC]
  refine zk (by kernel_rfl) fun w9 hg9=>?_
  refine wpAnyIn_ready (rs:=[6]) (by kernel_rfl) (by simp) ?_
  refine km 6 4 (u) (w9) rfl rfl (by kernel_rfl) (rfl) ?_ AllReadyIn.nil
  try simp only [Act.put,sA,sB,sC]
  refine wpAnyIn_done (by kernel_rfl) ?_ _
  have HF:Hid (Su.Owns w9 w.heap.size u OT∧G w w9):=by
   have hBB:=HB.o.2.2
   have:=(H1.o.1.trans hz1).size
   refine ⟨?_,(H1.o.1.trans hz1).trans (hgC.trans hg9)⟩
   rw [HT.o]
   exact Su.Owns.mono (Su.Owns.below hC hg9 (Nat.le_refl _)) (by omega)
  clear CC hL hz1 hzB hC
  gi_wp2_with fail
  exact ⟨_,results_tmp rfl _ _ _,u,rfl,HF.o⟩
theorem al (m c:Nat) (h:List Nat) (w:World) (hh:h.length=32) (hm:m<9223372036854775808) (hc:c<9223372036854775808):
  Calls Tryz.prog 23 #[.int .i64 (m:Int),.int .i64 (c:Int),.agg (h.map Su.vb).toArray] w fun e w'=>∃ u,e=.returned u∧Su.Owns w' w.heap.size u (68::(encN m++encN c++h))∧G w w':=by
 obtain ⟨B,hB⟩:∃ B,w.heap.size=B:=⟨_,rfl⟩
 obtain ⟨w1,hw1⟩:∃ w1,w1=w.alloc (.cells (h.map Su.vb).toArray 22):=⟨_,rfl⟩
 have H1:Hid (G w w1∧Lies w1 B 0 (h.map Su.vb).toArray):=by
  rw [hw1,← hB]
  exact ⟨G.alloc _ _,jc w _ 22⟩
 have HS:Hid (∀ W,G w1 W→Su.Has W (.slice (some ⟨B,0,none⟩) 32 32) h):=fun W hg=>zr (hg.lies H1.o.2) h hh (fun j x h=>by rw [Nat.zero_add];simpa using h)
 have HT:Hid (68::(encN m++encN c++h)=[[68],encN m,encN c,h].flatten):=by show _=_;simp
 have CN:Hid ((∀ W,Calls Tryz.prog 58 #[.int .i64 (m:Int)] W fun e w'=>∃ v,e=.returned v∧Su.Owns w' W.heap.size v (encN m)∧G W w')∧(∀ W,Calls Tryz.prog 58 #[.int .i64 (c:Int)] W fun e w'=>∃ v,e=.returned v∧Su.Owns w' W.heap.size v (encN c)∧G W w')):=⟨fun W=>cN m W hm,fun W=>cN c W hc⟩
 have HB:Hid ((encN m).length≤10∧(encN c).length≤10∧h.length=32∧w.heap.size=B):=⟨ju (by omega),ju (by omega),hh,hB⟩
 generalize 68::(encN m++encN c++h)=OT at *
 generalize encN m=WM at *
 generalize encN c=WK at *
 generalize (h.map Su.vb).toArray=TX at *
 clear hm hh hc
 refine (callsIn_wide (n:=3)).1 ?_
 refine callsIn_of_wp_marks Tryz.func23 rfl trivial (Go.wpIn_mono (Q:=RetM Tryz.f23 _) ?_ RetM.post) rfl
 simp only [Tryz.ntmps23,List.size_toArray,List.length_cons,List.length_nil,Nat.reduceAdd,Nat.reduceSub,Array.replicate_succ,Array.replicate_zero,List.push_toArray,List.append_toArray,List.nil_append,List.cons_append]
 gi_wp2_with fail
 rw [← hw1]
 refine qL 8 ?_
 have HD:Hid (G w1 w1.drew):=G.drew w1
 generalize w1.drew=w2 at *
 refine tX 1 8 (.int .i64 (m:Int)) rfl (by kernel_rfl) (fun _ _ _ h=>h) (fun wz hz=>?_) ?_
 ·rfl
 try simp only [Act.put,sA,sB,sC]
 refine tX 3 10 (.int .i64 (c:Int)) rfl (by kernel_rfl) (fun _ _ _ h=>h) (fun wz hz=>?_) ?_
 ·rfl
 try simp only [Act.put,sA,sB,sC]
 refine tX 5 12 (.slice (some ⟨B,0,none⟩) 32 32) rfl (by kernel_rfl) (fun _ _ _ h=>h) (fun wz hz=>?_) ?_
 ·have y:=kT B 0 wz;go_simp
 try simp only [Act.put,sA,sB,sC]
 refine ja [0,2] (by kernel_rfl) (by simp) fun wr1 hr2=>?_
 refine vXr 0 7 (.slice (some ⟨wr1.heap.size,0,none⟩) 1 1) (wr1.alloc (.cells #[.int .u8 68] 5)) rfl (by kernel_rfl) (by go_simp) (G.alloc _ _) ?ca3 (kX 2 9 58 #[.int .i64 (m:Int)] rfl (by kernel_rfl) (by go_simp) ((callsIn_wide.2 (CN.o.1 wr1)).mono ?cb4))
 case ca3=>
  try simp only [Act.put,sA,sB,sC]
  have gg5:G w1 (wr1.alloc (.cells #[.int .u8 68] 5)):=(HD.o.trans hr2).trans (G.alloc _ _)
  have hh6:Su.Has (wr1.alloc (.cells #[.int .u8 68] 5)) (.slice (some ⟨wr1.heap.size,0,none⟩) 1 1) [68]:=qD wr1 68
  refine ja [2] (by kernel_rfl) (by simp) fun wr7 hr8=>?_
  refine kX 2 9 58 #[.int .i64 (m:Int)] rfl (by kernel_rfl) (by go_simp) ((callsIn_wide.2 (CN.o.1 wr7)).mono ?_)
  rintro _ wc9 ⟨u10,rfl,hc11,hgc12⟩
  refine ⟨_,rfl,hgc12,?_⟩
  have hc11:=hc11.has
  obtain ⟨ao13,cp14,e15,_⟩:=hc11.form
  subst e15
  try simp only [Act.put,sA,sB,sC]
  have gg16:G w1 wc9:=(gg5.trans hr8).trans hgc12
  have hh17:=hh6.below (hr8.trans hgc12)
  refine ja [4] (by kernel_rfl) (by simp) fun wr18 hr19=>?_
  refine kX 4 11 58 #[.int .i64 (c:Int)] rfl (by kernel_rfl) (by go_simp) ((callsIn_wide.2 (CN.o.2 wr18)).mono ?_)
  rintro _ wc20 ⟨u21,rfl,hc22,hgc23⟩
  refine ⟨_,rfl,hgc23,?_⟩
  have hc22:=hc22.has
  obtain ⟨ao24,cp25,e26,_⟩:=hc22.form
  subst e26
  try simp only [Act.put,sA,sB,sC]
  have gg27:G w1 wc20:=(gg16.trans hr19).trans hgc23
  have hh28:=hh17.below (hr19.trans hgc23)
  have hh29:=hc11.below (hr19.trans hgc23)
  refine ja [6] (by kernel_rfl) (by simp) fun wA hgA=>?_
  refine vX 6 13 (.slice (some ⟨wA.heap.size,0,none⟩) 4 4) (wA.alloc (.cells #[.slice (some ⟨wr1.heap.size,0,none⟩) 1 1,.slice ao13 WM.length cp14,.slice ao24 WK.length cp25,.slice (some ⟨B,0,none⟩) 32 32] 25)) rfl (by kernel_rfl) (by go_simp) (G.alloc _ _) ?_
  try simp only [Act.put,sA,sB,sC]
  refine ja [7] (by kernel_rfl) (by simp) fun wB hgB=>?_
  have hzB:G wc20 wB:=(hgA.trans (G.alloc _ _)).trans hgB
  have hz1:G w1 wB:=gg27.trans hzB
  have hL:=hgB.lies (jc wA #[.slice (some ⟨wr1.heap.size,0,none⟩) 1 1,.slice ao13 WM.length cp14,.slice ao24 WK.length cp25,.slice (some ⟨B,0,none⟩) 32 32] 25)
  have CC:=zK wA.heap.size 4 [.slice (some ⟨wr1.heap.size,0,none⟩) 1 1,.slice ao13 WM.length cp14,.slice ao24 WK.length cp25,.slice (some ⟨B,0,none⟩) 32 32] [[68],WM,WK,h] wB rfl (by simp)
   (fun i hi=>match i,hi with | 0,_=>jD hL 0 _ rfl | 1,_=>jD hL 1 _ rfl | 2,_=>jD hL 2 _ rfl | 3,_=>jD hL 3 _ rfl | i+4,hi=>absurd hi (by simp))
   (fun i hi=>match i,hi with | 0,_=>hh28.below hzB | 1,_=>hh29.below hzB | 2,_=>hc22.below hzB | 3,_=>HS.o wB hz1 | i+4,hi=>absurd hi (by simp)) (by have:=HB.o;simp;omega)
  refine kX 7 14 56 #[.slice (some ⟨wA.heap.size,0,none⟩) 4 4] rfl (by kernel_rfl) (by go_simp) ((callsIn_wide.2 CC).mono ?_)
  rintro e wC ⟨u,rfl,hC,hgC⟩
  refine ⟨_,rfl,hgC,?_⟩
  try simp only [Act.put,sA,sB,sC]
  refine zk (by kernel_rfl) fun w9 hg9=>?_
  refine wpAnyIn_ready (rs:=[8]) (by kernel_rfl) (by simp) ?_
  refine km 8 6 (u) (w9) rfl rfl (by kernel_rfl) (rfl) ?_ AllReadyIn.nil
  try simp only [Act.put,sA,sB,sC]
  refine wpAnyIn_done (by kernel_rfl) ?_ _
  have HF:Hid (Su.Owns w9 w.heap.size u OT∧G w w9):=by
   have hBB:=HB.o.2.2.2
   have:=(H1.o.1.trans hz1).size
   refine ⟨?_,(H1.o.1.trans hz1).trans (hgC.trans hg9)⟩
   rw [HT.o]
   exact Su.Owns.mono (Su.Owns.below hC hg9 (Nat.le_refl _)) (by omega)
  clear CC hL hz1 hzB hC
  gi_wp2_with fail
  exact ⟨_,results_tmp rfl _ _ _,u,rfl,HF.o⟩
 case cb4=>
  rintro _ wc30 ⟨u31,rfl,hc32,hgc33⟩
  refine ⟨_,rfl,hgc33,?_⟩
  have hc32:=hc32.has
  obtain ⟨ao34,cp35,e36,_⟩:=hc32.form
  subst e36
  try simp only [Act.put,sA,sB,sC]
  have gg37:G w1 wc30:=(HD.o.trans hr2).trans hgc33
  refine ja [0,4] (by kernel_rfl) (by simp) fun wr38 hr39=>?_
  refine vXr 0 7 (.slice (some ⟨wr38.heap.size,0,none⟩) 1 1) (wr38.alloc (.cells #[.int .u8 68] 5)) rfl (by kernel_rfl) (by go_simp) (G.alloc _ _) ?ca40 (kX 4 11 58 #[.int .i64 (c:Int)] rfl (by kernel_rfl) (by go_simp) ((callsIn_wide.2 (CN.o.2 wr38)).mono ?cb41))
  case ca40=>
   try simp only [Act.put,sA,sB,sC]
   have gg42:G w1 (wr38.alloc (.cells #[.int .u8 68] 5)):=(gg37.trans hr39).trans (G.alloc _ _)
   have hh44:=hc32.below (hr39.trans (G.alloc _ (.cells #[.int .u8 68] 5)))
   have hh43:Su.Has (wr38.alloc (.cells #[.int .u8 68] 5)) (.slice (some ⟨wr38.heap.size,0,none⟩) 1 1) [68]:=qD wr38 68
   refine ja [4] (by kernel_rfl) (by simp) fun wr45 hr46=>?_
   refine kX 4 11 58 #[.int .i64 (c:Int)] rfl (by kernel_rfl) (by go_simp) ((callsIn_wide.2 (CN.o.2 wr45)).mono ?_)
   rintro _ wc47 ⟨u48,rfl,hc49,hgc50⟩
   refine ⟨_,rfl,hgc50,?_⟩
   have hc49:=hc49.has
   obtain ⟨ao51,cp52,e53,_⟩:=hc49.form
   subst e53
   try simp only [Act.put,sA,sB,sC]
   have gg54:G w1 wc47:=(gg42.trans hr46).trans hgc50
   have hh55:=hh43.below (hr46.trans hgc50)
   have hh56:=hh44.below (hr46.trans hgc50)
   refine ja [6] (by kernel_rfl) (by simp) fun wA hgA=>?_
   refine vX 6 13 (.slice (some ⟨wA.heap.size,0,none⟩) 4 4) (wA.alloc (.cells #[.slice (some ⟨wr38.heap.size,0,none⟩) 1 1,.slice ao34 WM.length cp35,.slice ao51 WK.length cp52,.slice (some ⟨B,0,none⟩) 32 32] 25)) rfl (by kernel_rfl) (by go_simp) (G.alloc _ _) ?_
   try simp only [Act.put,sA,sB,sC]
   refine ja [7] (by kernel_rfl) (by simp) fun wB hgB=>?_
   have hzB:G wc47 wB:=(hgA.trans (G.alloc _ _)).trans hgB
   have hz1:G w1 wB:=gg54.trans hzB
   have hL:=hgB.lies (jc wA #[.slice (some ⟨wr38.heap.size,0,none⟩) 1 1,.slice ao34 WM.length cp35,.slice ao51 WK.length cp52,.slice (some ⟨B,0,none⟩) 32 32] 25)
   have CC:=zK wA.heap.size 4 [.slice (some ⟨wr38.heap.size,0,none⟩) 1 1,.slice ao34 WM.length cp35,.slice ao51 WK.length cp52,.slice (some ⟨B,0,none⟩) 32 32] [[68],WM,WK,h] wB rfl (by simp)
    (fun i hi=>match i,hi with | 0,_=>jD hL 0 _ rfl | 1,_=>jD hL 1 _ rfl | 2,_=>jD hL 2 _ rfl | 3,_=>jD hL 3 _ rfl | i+4,hi=>absurd hi (by simp))
    (fun i hi=>match i,hi with | 0,_=>hh55.below hzB | 1,_=>hh56.below hzB | 2,_=>hc49.below hzB | 3,_=>HS.o wB hz1 | i+4,hi=>absurd hi (by simp)) (by have:=HB.o;simp;omega)
   refine kX 7 14 56 #[.slice (some ⟨wA.heap.size,0,none⟩) 4 4] rfl (by kernel_rfl) (by go_simp) ((callsIn_wide.2 CC).mono ?_)
   rintro e wC ⟨u,rfl,hC,hgC⟩
   refine ⟨_,rfl,hgC,?_⟩
   try simp only [Act.put,sA,sB,sC]
   refine zk (by kernel_rfl) fun w9 hg9=>?_
   refine wpAnyIn_ready (rs:=[8]) (by kernel_rfl) (by simp) ?_
   refine km 8 6 (u) (w9) rfl rfl (by kernel_rfl) (rfl) ?_ AllReadyIn.nil
   try simp only [Act.put,sA,sB,sC]
   refine wpAnyIn_done (by kernel_rfl) ?_ _
   have HF:Hid (Su.Owns w9 w.heap.size u OT∧G w w9):=by
    have hBB:=HB.o.2.2.2
    have:=(H1.o.1.trans hz1).size
    refine ⟨?_,(H1.o.1.trans hz1).trans (hgC.trans hg9)⟩
    rw [HT.o]
    exact Su.Owns.mono (Su.Owns.below hC hg9 (Nat.le_refl _)) (by omega)
   clear CC hL hz1 hzB hC
   gi_wp2_with fail
   exact ⟨_,results_tmp rfl _ _ _,u,rfl,HF.o⟩
  case cb41=>
   rintro _ wc57 ⟨u58,rfl,hc59,hgc60⟩
   refine ⟨_,rfl,hgc60,?_⟩
   have hc59:=hc59.has
   obtain ⟨ao61,cp62,e63,_⟩:=hc59.form
   subst e63
   try simp only [Act.put,sA,sB,sC]
   have gg64:G w1 wc57:=(gg37.trans hr39).trans hgc60
   have hh65:=hc32.below (hr39.trans hgc60)
   refine ja [0] (by kernel_rfl) (by simp) fun wr66 hr67=>?_
   refine vX 0 7 (.slice (some ⟨wr66.heap.size,0,none⟩) 1 1) (wr66.alloc (.cells #[.int .u8 68] 5)) rfl (by kernel_rfl) (by go_simp) (G.alloc _ _) ?_
   try simp only [Act.put,sA,sB,sC]
   have gg68:G w1 (wr66.alloc (.cells #[.int .u8 68] 5)):=(gg64.trans hr67).trans (G.alloc _ _)
   have hh70:=hh65.below (hr67.trans (G.alloc _ (.cells #[.int .u8 68] 5)))
   have hh71:=hc59.below (hr67.trans (G.alloc _ (.cells #[.int .u8 68] 5)))
   have hh69:Su.Has (wr66.alloc (.cells #[.int .u8 68] 5)) (.slice (some ⟨wr66.heap.size,0,none⟩) 1 1) [68]:=qD wr66 68
   refine ja [6] (by kernel_rfl) (by simp) fun wA hgA=>?_
   refine vX 6 13 (.slice (some ⟨wA.heap.size,0,none⟩) 4 4) (wA.alloc (.cells #[.slice (some ⟨wr66.heap.size,0,none⟩) 1 1,.slice ao34 WM.length cp35,.slice ao61 WK.length cp62,.slice (some ⟨B,0,none⟩) 32 32] 25)) rfl (by kernel_rfl) (by go_simp) (G.alloc _ _) ?_
   try simp only [Act.put,sA,sB,sC]
   refine ja [7] (by kernel_rfl) (by simp) fun wB hgB=>?_
   have hzB:G (wr66.alloc (.cells #[.int .u8 68] 5)) wB:=(hgA.trans (G.alloc _ _)).trans hgB
   have hz1:G w1 wB:=gg68.trans hzB
   have hL:=hgB.lies (jc wA #[.slice (some ⟨wr66.heap.size,0,none⟩) 1 1,.slice ao34 WM.length cp35,.slice ao61 WK.length cp62,.slice (some ⟨B,0,none⟩) 32 32] 25)
   have CC:=zK wA.heap.size 4 [.slice (some ⟨wr66.heap.size,0,none⟩) 1 1,.slice ao34 WM.length cp35,.slice ao61 WK.length cp62,.slice (some ⟨B,0,none⟩) 32 32] [[68],WM,WK,h] wB rfl (by simp)
    (fun i hi=>match i,hi with | 0,_=>jD hL 0 _ rfl | 1,_=>jD hL 1 _ rfl | 2,_=>jD hL 2 _ rfl | 3,_=>jD hL 3 _ rfl | i+4,hi=>absurd hi (by simp))
    (fun i hi=>match i,hi with | 0,_=>hh69.below hzB | 1,_=>hh70.below hzB | 2,_=>hh71.below hzB | 3,_=>HS.o wB hz1 | i+4,hi=>absurd hi (by simp)) (by have:=HB.o;simp;omega)
   refine kX 7 14 56 #[.slice (some ⟨wA.heap.size,0,none⟩) 4 4] rfl (by kernel_rfl) (by go_simp) ((callsIn_wide.2 CC).mono ?_)
   rintro e wC ⟨u,rfl,hC,hgC⟩
   refine ⟨_,rfl,hgC,?_⟩
   try simp only [Act.put,sA,sB,sC]
   refine zk (by kernel_rfl) fun w9 hg9=>?_
   refine wpAnyIn_ready (rs:=[8]) (by kernel_rfl) (by simp) ?_
   refine km 8 6 (u) (w9) rfl rfl (by kernel_rfl) (rfl) ?_ AllReadyIn.nil
   try simp only [Act.put,sA,sB,sC]
   refine wpAnyIn_done (by kernel_rfl) ?_ _
   have HF:Hid (Su.Owns w9 w.heap.size u OT∧G w w9):=by
    have hBB:=HB.o.2.2.2
    have:=(H1.o.1.trans hz1).size
    refine ⟨?_,(H1.o.1.trans hz1).trans (hgC.trans hg9)⟩
    rw [HT.o]
    exact Su.Owns.mono (Su.Owns.below hC hg9 (Nat.le_refl _)) (by omega)
   clear CC hL hz1 hzB hC
   gi_wp2_with fail
   exact ⟨_,results_tmp rfl _ _ _,u,rfl,HF.o⟩
theorem yv (v:Vd) (w:World) (hm:0≤v.mode∧v.mode<9223372036854775808) (hs:0≤v.size∧v.size<9223372036854775808):
  Calls Tryz.prog 51 #[.agg (vx v).toArray] w fun e w'=>∃ u,e=.returned u∧Su.Owns w' w.heap.size u (if v.kind=3 then 76::(encN v.size.toNat++v.sum) else 70::(encN v.mode.toNat++(encN v.size.toNat++v.sum)))∧G w w':=by
 obtain ⟨B,hB⟩:∃ B,w.heap.size=B:=⟨_,rfl⟩
 obtain ⟨w1,hw1⟩:∃ w1,w1=w.alloc (.cells (vx v).toArray 24):=⟨_,rfl⟩
 have H1:Hid (G w w1∧Lies w1 B 0 (vx v).toArray):=by
  rw [hw1,← hB]
  exact ⟨G.alloc _ _,jc w _ 24⟩
 have c0:(vx v).toArray[0]?=some (.int .i64 v.kind):=by simp [vx]
 have c1:(vx v).toArray[1]?=some (.int .i64 v.mode):=by simp [vx]
 have c2:(vx v).toArray[2]?=some (.int .i64 v.size):=by simp [vx]
 have HX:Hid ((vx v).toArray.size=35):=by show _=_;simp [jq]
 have HS:Hid (∀ W,G w1 W→Su.Has W (.slice (some ⟨B,3,none⟩) 32 32) v.sum):=fun W hg=>zr (hg.lies H1.o.2) v.sum v.len (gM v)
 have q0:=jD H1.o.2 0 _ c0
 obtain ⟨kd,hkd⟩:∃ kd,v.kind=kd:=⟨_,rfl⟩
 obtain ⟨mo,hmo⟩:∃ mo:Nat,v.mode=mo:=⟨v.mode.toNat,by omega⟩
 obtain ⟨sz,hsz⟩:∃ sz:Nat,v.size=sz:=⟨v.size.toNat,by omega⟩
 rw [hkd] at q0 ⊢
 rw [hw1] at q0
 rw [hmo] at c1 hm ⊢
 rw [hsz] at c2 hs ⊢
 rw [Int.toNat_natCast,Int.toNat_natCast]
 have HC:=hid (And.intro c1 c2)
 have HT:Hid ((if kd=3 then 76::(encN sz++v.sum) else 70::(encN mo++(encN sz++v.sum)))=if kd=3 then [[76],encN sz,v.sum].flatten else [[70],encN mo,encN sz,v.sum].flatten):=by show _=_;split<;>simp
 have CN:Hid ((∀ W,Calls Tryz.prog 58 #[.int .i64 (mo:Int)] W fun e w'=>∃ v,e=.returned v∧Su.Owns w' W.heap.size v (encN mo)∧G W w')∧(∀ W,Calls Tryz.prog 58 #[.int .i64 (sz:Int)] W fun e w'=>∃ v,e=.returned v∧Su.Owns w' W.heap.size v (encN sz)∧G W w')):=⟨fun W=>cN mo W (by omega),fun W=>cN sz W (by omega)⟩
 have HB:Hid ((encN mo).length≤10∧(encN sz).length≤10∧v.sum.length=32∧w.heap.size=B):=⟨ju (by omega),ju (by omega),v.len,hB⟩
 generalize (if kd=3 then 76::(encN sz++v.sum) else 70::(encN mo++(encN sz++v.sum)))=OT at *
 generalize encN mo=WM at *
 generalize encN sz=WS at *
 generalize v.sum=SM at *
 generalize (vx v).toArray=X at *
 clear hm hs hmo hsz hkd c0 c1 c2
 by_cases hk3:kd=3
 ·subst hk3
  have HT2:Hid (OT=[[76],WS,SM].flatten):=HT.o.trans (if_pos rfl)
  clear HT
  refine (callsIn_wide (n:=3)).1 ?_
  refine callsIn_of_wp_marks Tryz.func51 rfl trivial (Go.wpIn_mono (Q:=RetM Tryz.f51 _) ?_ RetM.post) rfl
  simp only [Tryz.ntmps51,List.size_toArray,List.length_cons,List.length_nil,Nat.reduceAdd,Nat.reduceSub,Array.replicate_succ,Array.replicate_zero,List.push_toArray,List.append_toArray,List.nil_append,List.cons_append]
  gi_wp2_with fail
  rw [← hw1]
  refine qL 8 ?_
  have HD:Hid (G w1 w1.drew):=G.drew w1
  generalize w1.drew=w2 at *
  refine tX 1 7 (.pointer (some ⟨B,2,none⟩)) rfl (by kernel_rfl) (fun _ _ _ h=>h) (fun wz hz=>?_) ?_
  ·go_simp
  try simp only [Act.put,sA,sB,sC]
  refine tX 2 8 (.int .i64 (sz:Int)) rfl (by kernel_rfl) (fun _ _ _ h=>h) (fun wz hz=>?_) ?_
  ·have y:=(HD.o.trans hz).cell (jD H1.o.2 2 _ HC.o.2);go_simp
  try simp only [Act.put,sA,sB,sC]
  refine tX 4 10 (.pointer (some ⟨B,3,none⟩)) rfl (by kernel_rfl) (fun _ _ _ h=>h) (fun wz hz=>?_) ?_
  ·go_simp
  try simp only [Act.put,sA,sB,sC]
  refine tX 5 11 (.slice (some ⟨B,3,none⟩) 32 32) rfl (by kernel_rfl) (fun _ _ _ h=>h) (fun wz hz=>?_) ?_
  ·have y:=kT B 3 wz;go_simp
  try simp only [Act.put,sA,sB,sC]
  refine ja [0,3] (by kernel_rfl) (by simp) fun wr1 hr2=>?_
  refine vXr 0 6 (.slice (some ⟨wr1.heap.size,0,none⟩) 1 1) (wr1.alloc (.cells #[.int .u8 76] 5)) rfl (by kernel_rfl) (by go_simp) (G.alloc _ _) ?ca3 (kX 3 9 58 #[.int .i64 (sz:Int)] rfl (by kernel_rfl) (by go_simp) ((callsIn_wide.2 (CN.o.2 wr1)).mono ?cb4))
  case ca3=>
   try simp only [Act.put,sA,sB,sC]
   have gg5:G w1 (wr1.alloc (.cells #[.int .u8 76] 5)):=(HD.o.trans hr2).trans (G.alloc _ _)
   have hh6:Su.Has (wr1.alloc (.cells #[.int .u8 76] 5)) (.slice (some ⟨wr1.heap.size,0,none⟩) 1 1) [76]:=qD wr1 76
   refine ja [3] (by kernel_rfl) (by simp) fun wr7 hr8=>?_
   refine kX 3 9 58 #[.int .i64 (sz:Int)] rfl (by kernel_rfl) (by go_simp) ((callsIn_wide.2 (CN.o.2 wr7)).mono ?_)
   rintro _ wc9 ⟨u10,rfl,hc11,hgc12⟩
   refine ⟨_,rfl,hgc12,?_⟩
   have hc11:=hc11.has
   obtain ⟨ao13,cp14,e15,_⟩:=hc11.form
   subst e15
   try simp only [Act.put,sA,sB,sC]
   have gg16:G w1 wc9:=(gg5.trans hr8).trans hgc12
   have hh17:=hh6.below (hr8.trans hgc12)
   refine ja [6] (by kernel_rfl) (by simp) fun wA hgA=>?_
   refine vX 6 12 (.slice (some ⟨wA.heap.size,0,none⟩) 3 3) (wA.alloc (.cells #[.slice (some ⟨wr1.heap.size,0,none⟩) 1 1,.slice ao13 WS.length cp14,.slice (some ⟨B,3,none⟩) 32 32] 25)) rfl (by kernel_rfl) (by go_simp) (G.alloc _ _) ?_
   try simp only [Act.put,sA,sB,sC]
   refine ja [7] (by kernel_rfl) (by simp) fun wB hgB=>?_
   have hzB:G wc9 wB:=(hgA.trans (G.alloc _ _)).trans hgB
   have hz1:G w1 wB:=gg16.trans hzB
   have hL:=hgB.lies (jc wA #[.slice (some ⟨wr1.heap.size,0,none⟩) 1 1,.slice ao13 WS.length cp14,.slice (some ⟨B,3,none⟩) 32 32] 25)
   have CC:=zK wA.heap.size 3 [.slice (some ⟨wr1.heap.size,0,none⟩) 1 1,.slice ao13 WS.length cp14,.slice (some ⟨B,3,none⟩) 32 32] [[76],WS,SM] wB rfl (by simp)
    (fun i hi=>match i,hi with | 0,_=>jD hL 0 _ rfl | 1,_=>jD hL 1 _ rfl | 2,_=>jD hL 2 _ rfl | i+3,hi=>absurd hi (by simp))
    (fun i hi=>match i,hi with | 0,_=>hh17.below hzB | 1,_=>hc11.below hzB | 2,_=>HS.o wB hz1 | i+3,hi=>absurd hi (by simp)) (by have:=HB.o;simp;omega)
   refine kX 7 13 56 #[.slice (some ⟨wA.heap.size,0,none⟩) 3 3] rfl (by kernel_rfl) (by go_simp) ((callsIn_wide.2 CC).mono ?_)
   rintro e wC ⟨u,rfl,hC,hgC⟩
   refine ⟨_,rfl,hgC,?_⟩
   try simp only [Act.put,sA,sB,sC]
   refine zk (by kernel_rfl) fun w9 hg9=>?_
   refine wpAnyIn_ready (rs:=[8]) (by kernel_rfl) (by simp) ?_
   refine km 8 2 (u) (w9) rfl rfl (by kernel_rfl) (rfl) ?_ AllReadyIn.nil
   try simp only [Act.put,sA,sB,sC]
   refine wpAnyIn_done (by kernel_rfl) ?_ _
   have HF:Hid (Su.Owns w9 w.heap.size u OT∧G w w9):=by
    have hBB:=HB.o.2.2.2
    have:=(H1.o.1.trans hz1).size
    refine ⟨?_,(H1.o.1.trans hz1).trans (hgC.trans hg9)⟩
    rw [HT2.o]
    exact Su.Owns.mono (Su.Owns.below hC hg9 (Nat.le_refl _)) (by omega)
   clear CC hL hz1 hzB hC
   gi_wp2_with fail
   exact ⟨_,results_tmp rfl _ _ _,u,rfl,HF.o⟩
  case cb4=>
   rintro _ wc18 ⟨u19,rfl,hc20,hgc21⟩
   refine ⟨_,rfl,hgc21,?_⟩
   have hc20:=hc20.has
   obtain ⟨ao22,cp23,e24,_⟩:=hc20.form
   subst e24
   try simp only [Act.put,sA,sB,sC]
   have gg25:G w1 wc18:=(HD.o.trans hr2).trans hgc21
   refine ja [0] (by kernel_rfl) (by simp) fun wr26 hr27=>?_
   refine vX 0 6 (.slice (some ⟨wr26.heap.size,0,none⟩) 1 1) (wr26.alloc (.cells #[.int .u8 76] 5)) rfl (by kernel_rfl) (by go_simp) (G.alloc _ _) ?_
   try simp only [Act.put,sA,sB,sC]
   have gg28:G w1 (wr26.alloc (.cells #[.int .u8 76] 5)):=(gg25.trans hr27).trans (G.alloc _ _)
   have hh30:=hc20.below (hr27.trans (G.alloc _ (.cells #[.int .u8 76] 5)))
   have hh29:Su.Has (wr26.alloc (.cells #[.int .u8 76] 5)) (.slice (some ⟨wr26.heap.size,0,none⟩) 1 1) [76]:=qD wr26 76
   refine ja [6] (by kernel_rfl) (by simp) fun wA hgA=>?_
   refine vX 6 12 (.slice (some ⟨wA.heap.size,0,none⟩) 3 3) (wA.alloc (.cells #[.slice (some ⟨wr26.heap.size,0,none⟩) 1 1,.slice ao22 WS.length cp23,.slice (some ⟨B,3,none⟩) 32 32] 25)) rfl (by kernel_rfl) (by go_simp) (G.alloc _ _) ?_
   try simp only [Act.put,sA,sB,sC]
   refine ja [7] (by kernel_rfl) (by simp) fun wB hgB=>?_
   have hzB:G (wr26.alloc (.cells #[.int .u8 76] 5)) wB:=(hgA.trans (G.alloc _ _)).trans hgB
   have hz1:G w1 wB:=gg28.trans hzB
   have hL:=hgB.lies (jc wA #[.slice (some ⟨wr26.heap.size,0,none⟩) 1 1,.slice ao22 WS.length cp23,.slice (some ⟨B,3,none⟩) 32 32] 25)
   have CC:=zK wA.heap.size 3 [.slice (some ⟨wr26.heap.size,0,none⟩) 1 1,.slice ao22 WS.length cp23,.slice (some ⟨B,3,none⟩) 32 32] [[76],WS,SM] wB rfl (by simp)
    (fun i hi=>match i,hi with | 0,_=>jD hL 0 _ rfl | 1,_=>jD hL 1 _ rfl | 2,_=>jD hL 2 _ rfl | i+3,hi=>absurd hi (by simp))
    (fun i hi=>match i,hi with | 0,_=>hh29.below hzB | 1,_=>hh30.below hzB | 2,_=>HS.o wB hz1 | i+3,hi=>absurd hi (by simp)) (by have:=HB.o;simp;omega)
   refine kX 7 13 56 #[.slice (some ⟨wA.heap.size,0,none⟩) 3 3] rfl (by kernel_rfl) (by go_simp) ((callsIn_wide.2 CC).mono ?_)
   rintro e wC ⟨u,rfl,hC,hgC⟩
   refine ⟨_,rfl,hgC,?_⟩
   try simp only [Act.put,sA,sB,sC]
   refine zk (by kernel_rfl) fun w9 hg9=>?_
   refine wpAnyIn_ready (rs:=[8]) (by kernel_rfl) (by simp) ?_
   refine km 8 2 (u) (w9) rfl rfl (by kernel_rfl) (rfl) ?_ AllReadyIn.nil
   try simp only [Act.put,sA,sB,sC]
   refine wpAnyIn_done (by kernel_rfl) ?_ _
   have HF:Hid (Su.Owns w9 w.heap.size u OT∧G w w9):=by
    have hBB:=HB.o.2.2.2
    have:=(H1.o.1.trans hz1).size
    refine ⟨?_,(H1.o.1.trans hz1).trans (hgC.trans hg9)⟩
    rw [HT2.o]
    exact Su.Owns.mono (Su.Owns.below hC hg9 (Nat.le_refl _)) (by omega)
   clear CC hL hz1 hzB hC
   gi_wp2_with fail
   exact ⟨_,results_tmp rfl _ _ _,u,rfl,HF.o⟩
 ·have HT2:Hid (OT=[[70],WM,WS,SM].flatten):=HT.o.trans (if_neg hk3)
  clear HT
  refine (callsIn_wide (n:=3)).1 ?_
  refine callsIn_of_wp_marks Tryz.func51 rfl trivial (Go.wpIn_mono (Q:=RetM Tryz.f51 _) ?_ RetM.post) rfl
  simp only [Tryz.ntmps51,List.size_toArray,List.length_cons,List.length_nil,Nat.reduceAdd,Nat.reduceSub,Array.replicate_succ,Array.replicate_zero,List.push_toArray,List.append_toArray,List.nil_append,List.cons_append]
  gi_wp2_with fail
  rw [← hw1]
  refine qL 11 ?_
  have HD:Hid (G w1 w1.drew):=G.drew w1
  generalize w1.drew=w2 at *
  refine tX 1 15 (.pointer (some ⟨B,1,none⟩)) rfl (by kernel_rfl) (fun _ _ _ h=>h) (fun wz hz=>?_) ?_
  ·go_simp
  try simp only [Act.put,sA,sB,sC]
  refine tX 2 16 (.int .i64 (mo:Int)) rfl (by kernel_rfl) (fun _ _ _ h=>h) (fun wz hz=>?_) ?_
  ·have y:=(HD.o.trans hz).cell (jD H1.o.2 1 _ HC.o.1);go_simp
  try simp only [Act.put,sA,sB,sC]
  refine tX 4 18 (.pointer (some ⟨B,2,none⟩)) rfl (by kernel_rfl) (fun _ _ _ h=>h) (fun wz hz=>?_) ?_
  ·go_simp
  try simp only [Act.put,sA,sB,sC]
  refine tX 5 19 (.int .i64 (sz:Int)) rfl (by kernel_rfl) (fun _ _ _ h=>h) (fun wz hz=>?_) ?_
  ·have y:=(HD.o.trans hz).cell (jD H1.o.2 2 _ HC.o.2);go_simp
  try simp only [Act.put,sA,sB,sC]
  refine tX 7 21 (.pointer (some ⟨B,3,none⟩)) rfl (by kernel_rfl) (fun _ _ _ h=>h) (fun wz hz=>?_) ?_
  ·go_simp
  try simp only [Act.put,sA,sB,sC]
  refine tX 8 22 (.slice (some ⟨B,3,none⟩) 32 32) rfl (by kernel_rfl) (fun _ _ _ h=>h) (fun wz hz=>?_) ?_
  ·have y:=kT B 3 wz;go_simp
  try simp only [Act.put,sA,sB,sC]
  refine ja [0,3] (by kernel_rfl) (by simp) fun wr1 hr2=>?_
  refine vXr 0 14 (.slice (some ⟨wr1.heap.size,0,none⟩) 1 1) (wr1.alloc (.cells #[.int .u8 70] 5)) rfl (by kernel_rfl) (by go_simp) (G.alloc _ _) ?ca3 (kX 3 17 58 #[.int .i64 (mo:Int)] rfl (by kernel_rfl) (by go_simp) ((callsIn_wide.2 (CN.o.1 wr1)).mono ?cb4))
  case ca3=>
   try simp only [Act.put,sA,sB,sC]
   have gg5:G w1 (wr1.alloc (.cells #[.int .u8 70] 5)):=(HD.o.trans hr2).trans (G.alloc _ _)
   have hh6:Su.Has (wr1.alloc (.cells #[.int .u8 70] 5)) (.slice (some ⟨wr1.heap.size,0,none⟩) 1 1) [70]:=qD wr1 70
   refine ja [3] (by kernel_rfl) (by simp) fun wr7 hr8=>?_
   refine kX 3 17 58 #[.int .i64 (mo:Int)] rfl (by kernel_rfl) (by go_simp) ((callsIn_wide.2 (CN.o.1 wr7)).mono ?_)
   rintro _ wc9 ⟨u10,rfl,hc11,hgc12⟩
   refine ⟨_,rfl,hgc12,?_⟩
   have hc11:=hc11.has
   obtain ⟨ao13,cp14,e15,_⟩:=hc11.form
   subst e15
   try simp only [Act.put,sA,sB,sC]
   have gg16:G w1 wc9:=(gg5.trans hr8).trans hgc12
   have hh17:=hh6.below (hr8.trans hgc12)
   refine ja [6] (by kernel_rfl) (by simp) fun wr18 hr19=>?_
   refine kX 6 20 58 #[.int .i64 (sz:Int)] rfl (by kernel_rfl) (by go_simp) ((callsIn_wide.2 (CN.o.2 wr18)).mono ?_)
   rintro _ wc20 ⟨u21,rfl,hc22,hgc23⟩
   refine ⟨_,rfl,hgc23,?_⟩
   have hc22:=hc22.has
   obtain ⟨ao24,cp25,e26,_⟩:=hc22.form
   subst e26
   try simp only [Act.put,sA,sB,sC]
   have gg27:G w1 wc20:=(gg16.trans hr19).trans hgc23
   have hh28:=hh17.below (hr19.trans hgc23)
   have hh29:=hc11.below (hr19.trans hgc23)
   refine ja [9] (by kernel_rfl) (by simp) fun wA hgA=>?_
   refine vX 9 23 (.slice (some ⟨wA.heap.size,0,none⟩) 4 4) (wA.alloc (.cells #[.slice (some ⟨wr1.heap.size,0,none⟩) 1 1,.slice ao13 WM.length cp14,.slice ao24 WS.length cp25,.slice (some ⟨B,3,none⟩) 32 32] 25)) rfl (by kernel_rfl) (by go_simp) (G.alloc _ _) ?_
   try simp only [Act.put,sA,sB,sC]
   refine ja [10] (by kernel_rfl) (by simp) fun wB hgB=>?_
   have hzB:G wc20 wB:=(hgA.trans (G.alloc _ _)).trans hgB
   have hz1:G w1 wB:=gg27.trans hzB
   have hL:=hgB.lies (jc wA #[.slice (some ⟨wr1.heap.size,0,none⟩) 1 1,.slice ao13 WM.length cp14,.slice ao24 WS.length cp25,.slice (some ⟨B,3,none⟩) 32 32] 25)
   have CC:=zK wA.heap.size 4 [.slice (some ⟨wr1.heap.size,0,none⟩) 1 1,.slice ao13 WM.length cp14,.slice ao24 WS.length cp25,.slice (some ⟨B,3,none⟩) 32 32] [[70],WM,WS,SM] wB rfl (by simp)
    (fun i hi=>match i,hi with | 0,_=>jD hL 0 _ rfl | 1,_=>jD hL 1 _ rfl | 2,_=>jD hL 2 _ rfl | 3,_=>jD hL 3 _ rfl | i+4,hi=>absurd hi (by simp))
    (fun i hi=>match i,hi with | 0,_=>hh28.below hzB | 1,_=>hh29.below hzB | 2,_=>hc22.below hzB | 3,_=>HS.o wB hz1 | i+4,hi=>absurd hi (by simp)) (by have:=HB.o;simp;omega)
   refine kX 10 24 56 #[.slice (some ⟨wA.heap.size,0,none⟩) 4 4] rfl (by kernel_rfl) (by go_simp) ((callsIn_wide.2 CC).mono ?_)
   rintro e wC ⟨u,rfl,hC,hgC⟩
   refine ⟨_,rfl,hgC,?_⟩
   try simp only [Act.put,sA,sB,sC]
   refine zk (by kernel_rfl) fun w9 hg9=>?_
   refine wpAnyIn_ready (rs:=[11]) (by kernel_rfl) (by simp) ?_
   refine km 11 2 (u) (w9) rfl rfl (by kernel_rfl) (rfl) ?_ AllReadyIn.nil
   try simp only [Act.put,sA,sB,sC]
   refine wpAnyIn_done (by kernel_rfl) ?_ _
   have HF:Hid (Su.Owns w9 w.heap.size u OT∧G w w9):=by
    have hBB:=HB.o.2.2.2
    have:=(H1.o.1.trans hz1).size
    refine ⟨?_,(H1.o.1.trans hz1).trans (hgC.trans hg9)⟩
    rw [HT2.o]
    exact Su.Owns.mono (Su.Owns.below hC hg9 (Nat.le_refl _)) (by omega)
   clear CC hL hz1 hzB hC
   gi_wp2_with fail
   exact ⟨_,results_tmp rfl _ _ _,u,rfl,HF.o⟩
  case cb4=>
   rintro _ wc30 ⟨u31,rfl,hc32,hgc33⟩
   refine ⟨_,rfl,hgc33,?_⟩
   have hc32:=hc32.has
   obtain ⟨ao34,cp35,e36,_⟩:=hc32.form
   subst e36
   try simp only [Act.put,sA,sB,sC]
   have gg37:G w1 wc30:=(HD.o.trans hr2).trans hgc33
   refine ja [0,6] (by kernel_rfl) (by simp) fun wr38 hr39=>?_
   refine vXr 0 14 (.slice (some ⟨wr38.heap.size,0,none⟩) 1 1) (wr38.alloc (.cells #[.int .u8 70] 5)) rfl (by kernel_rfl) (by go_simp) (G.alloc _ _) ?ca40 (kX 6 20 58 #[.int .i64 (sz:Int)] rfl (by kernel_rfl) (by go_simp) ((callsIn_wide.2 (CN.o.2 wr38)).mono ?cb41))
   case ca40=>
    try simp only [Act.put,sA,sB,sC]
    have gg42:G w1 (wr38.alloc (.cells #[.int .u8 70] 5)):=(gg37.trans hr39).trans (G.alloc _ _)
    have hh44:=hc32.below (hr39.trans (G.alloc _ (.cells #[.int .u8 70] 5)))
    have hh43:Su.Has (wr38.alloc (.cells #[.int .u8 70] 5)) (.slice (some ⟨wr38.heap.size,0,none⟩) 1 1) [70]:=qD wr38 70
    refine ja [6] (by kernel_rfl) (by simp) fun wr45 hr46=>?_
    refine kX 6 20 58 #[.int .i64 (sz:Int)] rfl (by kernel_rfl) (by go_simp) ((callsIn_wide.2 (CN.o.2 wr45)).mono ?_)
    rintro _ wc47 ⟨u48,rfl,hc49,hgc50⟩
    refine ⟨_,rfl,hgc50,?_⟩
    have hc49:=hc49.has
    obtain ⟨ao51,cp52,e53,_⟩:=hc49.form
    subst e53
    try simp only [Act.put,sA,sB,sC]
    have gg54:G w1 wc47:=(gg42.trans hr46).trans hgc50
    have hh55:=hh43.below (hr46.trans hgc50)
    have hh56:=hh44.below (hr46.trans hgc50)
    refine ja [9] (by kernel_rfl) (by simp) fun wA hgA=>?_
    refine vX 9 23 (.slice (some ⟨wA.heap.size,0,none⟩) 4 4) (wA.alloc (.cells #[.slice (some ⟨wr38.heap.size,0,none⟩) 1 1,.slice ao34 WM.length cp35,.slice ao51 WS.length cp52,.slice (some ⟨B,3,none⟩) 32 32] 25)) rfl (by kernel_rfl) (by go_simp) (G.alloc _ _) ?_
    try simp only [Act.put,sA,sB,sC]
    refine ja [10] (by kernel_rfl) (by simp) fun wB hgB=>?_
    have hzB:G wc47 wB:=(hgA.trans (G.alloc _ _)).trans hgB
    have hz1:G w1 wB:=gg54.trans hzB
    have hL:=hgB.lies (jc wA #[.slice (some ⟨wr38.heap.size,0,none⟩) 1 1,.slice ao34 WM.length cp35,.slice ao51 WS.length cp52,.slice (some ⟨B,3,none⟩) 32 32] 25)
    have CC:=zK wA.heap.size 4 [.slice (some ⟨wr38.heap.size,0,none⟩) 1 1,.slice ao34 WM.length cp35,.slice ao51 WS.length cp52,.slice (some ⟨B,3,none⟩) 32 32] [[70],WM,WS,SM] wB rfl (by simp)
     (fun i hi=>match i,hi with | 0,_=>jD hL 0 _ rfl | 1,_=>jD hL 1 _ rfl | 2,_=>jD hL 2 _ rfl | 3,_=>jD hL 3 _ rfl | i+4,hi=>absurd hi (by simp))
     (fun i hi=>match i,hi with | 0,_=>hh55.below hzB | 1,_=>hh56.below hzB | 2,_=>hc49.below hzB | 3,_=>HS.o wB hz1 | i+4,hi=>absurd hi (by simp)) (by have:=HB.o;simp;omega)
    refine kX 10 24 56 #[.slice (some ⟨wA.heap.size,0,none⟩) 4 4] rfl (by kernel_rfl) (by go_simp) ((callsIn_wide.2 CC).mono ?_)
    rintro e wC ⟨u,rfl,hC,hgC⟩
    refine ⟨_,rfl,hgC,?_⟩
    try simp only [Act.put,sA,sB,sC]
    refine zk (by kernel_rfl) fun w9 hg9=>?_
    refine wpAnyIn_ready (rs:=[11]) (by kernel_rfl) (by simp) ?_
    refine km 11 2 (u) (w9) rfl rfl (by kernel_rfl) (rfl) ?_ AllReadyIn.nil
    try simp only [Act.put,sA,sB,sC]
    refine wpAnyIn_done (by kernel_rfl) ?_ _
    have HF:Hid (Su.Owns w9 w.heap.size u OT∧G w w9):=by
     have hBB:=HB.o.2.2.2
     have:=(H1.o.1.trans hz1).size
     refine ⟨?_,(H1.o.1.trans hz1).trans (hgC.trans hg9)⟩
     rw [HT2.o]
     exact Su.Owns.mono (Su.Owns.below hC hg9 (Nat.le_refl _)) (by omega)
    clear CC hL hz1 hzB hC
    gi_wp2_with fail
    exact ⟨_,results_tmp rfl _ _ _,u,rfl,HF.o⟩
   case cb41=>
    rintro _ wc57 ⟨u58,rfl,hc59,hgc60⟩
    refine ⟨_,rfl,hgc60,?_⟩
    have hc59:=hc59.has
    obtain ⟨ao61,cp62,e63,_⟩:=hc59.form
    subst e63
    try simp only [Act.put,sA,sB,sC]
    have gg64:G w1 wc57:=(gg37.trans hr39).trans hgc60
    have hh65:=hc32.below (hr39.trans hgc60)
    refine ja [0] (by kernel_rfl) (by simp) fun wr66 hr67=>?_
    refine vX 0 14 (.slice (some ⟨wr66.heap.size,0,none⟩) 1 1) (wr66.alloc (.cells #[.int .u8 70] 5)) rfl (by kernel_rfl) (by go_simp) (G.alloc _ _) ?_
    try simp only [Act.put,sA,sB,sC]
    have gg68:G w1 (wr66.alloc (.cells #[.int .u8 70] 5)):=(gg64.trans hr67).trans (G.alloc _ _)
    have hh70:=hh65.below (hr67.trans (G.alloc _ (.cells #[.int .u8 70] 5)))
    have hh71:=hc59.below (hr67.trans (G.alloc _ (.cells #[.int .u8 70] 5)))
    have hh69:Su.Has (wr66.alloc (.cells #[.int .u8 70] 5)) (.slice (some ⟨wr66.heap.size,0,none⟩) 1 1) [70]:=qD wr66 70
    refine ja [9] (by kernel_rfl) (by simp) fun wA hgA=>?_
    refine vX 9 23 (.slice (some ⟨wA.heap.size,0,none⟩) 4 4) (wA.alloc (.cells #[.slice (some ⟨wr66.heap.size,0,none⟩) 1 1,.slice ao34 WM.length cp35,.slice ao61 WS.length cp62,.slice (some ⟨B,3,none⟩) 32 32] 25)) rfl (by kernel_rfl) (by go_simp) (G.alloc _ _) ?_
    try simp only [Act.put,sA,sB,sC]
    refine ja [10] (by kernel_rfl) (by simp) fun wB hgB=>?_
    have hzB:G (wr66.alloc (.cells #[.int .u8 70] 5)) wB:=(hgA.trans (G.alloc _ _)).trans hgB
    have hz1:G w1 wB:=gg68.trans hzB
    have hL:=hgB.lies (jc wA #[.slice (some ⟨wr66.heap.size,0,none⟩) 1 1,.slice ao34 WM.length cp35,.slice ao61 WS.length cp62,.slice (some ⟨B,3,none⟩) 32 32] 25)
    have CC:=zK wA.heap.size 4 [.slice (some ⟨wr66.heap.size,0,none⟩) 1 1,.slice ao34 WM.length cp35,.slice ao61 WS.length cp62,.slice (some ⟨B,3,none⟩) 32 32] [[70],WM,WS,SM] wB rfl (by simp)
     (fun i hi=>match i,hi with | 0,_=>jD hL 0 _ rfl | 1,_=>jD hL 1 _ rfl | 2,_=>jD hL 2 _ rfl | 3,_=>jD hL 3 _ rfl | i+4,hi=>absurd hi (by simp))
     (fun i hi=>match i,hi with | 0,_=>hh69.below hzB | 1,_=>hh70.below hzB | 2,_=>hh71.below hzB | 3,_=>HS.o wB hz1 | i+4,hi=>absurd hi (by simp)) (by have:=HB.o;simp;omega)
    refine kX 10 24 56 #[.slice (some ⟨wA.heap.size,0,none⟩) 4 4] rfl (by kernel_rfl) (by go_simp) ((callsIn_wide.2 CC).mono ?_)
    rintro e wC ⟨u,rfl,hC,hgC⟩
    refine ⟨_,rfl,hgC,?_⟩
    try simp only [Act.put,sA,sB,sC]
    refine zk (by kernel_rfl) fun w9 hg9=>?_
    refine wpAnyIn_ready (rs:=[11]) (by kernel_rfl) (by simp) ?_
    refine km 11 2 (u) (w9) rfl rfl (by kernel_rfl) (rfl) ?_ AllReadyIn.nil
    try simp only [Act.put,sA,sB,sC]
    refine wpAnyIn_done (by kernel_rfl) ?_ _
    have HF:Hid (Su.Owns w9 w.heap.size u OT∧G w w9):=by
     have hBB:=HB.o.2.2.2
     have:=(H1.o.1.trans hz1).size
     refine ⟨?_,(H1.o.1.trans hz1).trans (hgC.trans hg9)⟩
     rw [HT2.o]
     exact Su.Owns.mono (Su.Owns.below hC hg9 (Nat.le_refl _)) (by omega)
    clear CC hL hz1 hzB hC
    gi_wp2_with fail
    exact ⟨_,results_tmp rfl _ _ _,u,rfl,HF.o⟩
end Go.Proofs.YtdeanahpiigonaaGreatDoor
