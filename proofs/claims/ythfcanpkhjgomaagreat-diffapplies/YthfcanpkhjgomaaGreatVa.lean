import Derived.Test.YthfcanpkhjgomaaGreatWays
import Derived.Test.YthfcanpkhjgomaaGreatLast
import Derived.Test.YthfcanpkhjgomaaGreatCells
set_option maxRecDepth 100000
set_option maxHeartbeats 2000000
namespace Go.Proofs.YthfcanpkhjgomaaGreat
open Go.RowKit
def Tr (w:World) (p:Nat):Prop:=∃ c,w.heap[p]?=some (.cells c 98 (0,0))
theorem Tr.grow {w w':World} {p:Nat} (h:Tr w p) (hg:G w w'):Tr w' p:=by
 obtain ⟨c,h⟩:=h
 exact ⟨c,(hg.block p (Array.getElem?_eq_some_iff.1 h).1).trans h⟩
def K.plain (w:World):K→Prop
 | .nil=>True
 | .node _ p _ _ _ kids ah be=>Tr w p∧K.plain w kids∧K.plain w ah∧K.plain w be
theorem K.plain_grow {w w':World} (hg:G w w'):∀ {k:K},k.plain w→k.plain w'
 | .nil,_=>trivial
 | .node _ _ _ _ _ _ _ _,⟨h1,h2,h3,h4⟩=>⟨h1.grow hg,K.plain_grow hg h2,K.plain_grow hg h3,K.plain_grow hg h4⟩
def ChildrenOkP (f:F):Prop:=∀ (v:Value) (w:World),HasS w v f→f.okL→Calls Tryz.prog 107 #[v] w fun e w'=>∃ k u,e=.returned u∧At w' k u∧k.flat=f∧G w w'∧k.plain w'
theorem made_anyP (g o:Nat) (nm:ByteArray) (v:Vd) (m:Md) (kv:Value) (ks:F) (w:World) (hl:Lies w g o (nc nm v m kv)) (hS:HasS w kv ks) (hok:ks.okL) (ih:ChildrenOkP ks):
  Calls Tryz.prog 71 #[.pointer (some ⟨g,o,none⟩)] w fun e w'=>∃ p k,e=.returned (.pointer (some ⟨p,0,none⟩))∧AtT w' p v m k∧k.flat=ks∧G w w'∧k.plain w'∧Tr w' p:=by
 obtain ⟨a,cap,rfl,_⟩:=hS.form
 have CK:=hid (fun (W:World) (hW:G w W)=>ih _ W (hS.below hW) hok)
 have c40:=lies_kids hl
 have HL0:Hid (Lies w g (o+1) (vx v).toArray∧Lies w g (o+36) (mx m).toArray):=⟨lies_val hl,qL hl⟩
 clear hl hS ih
 obtain ⟨N,hN⟩:∃ N,ks.len=N:=⟨_,rfl⟩
 rw [hN] at CK c40
 clear hN
 go_enter Tryz.func71,Tryz.ntmps71
 go_upto_region 1 with fail
 refine jV ?_
 have d40:=(G.drew w).cell c40
 have L:Hid (Lies w.drew g (o+1) (vx v).toArray∧Lies w.drew g (o+36) (mx m).toArray):=⟨(G.drew w).lies HL0.out.1,(G.drew w).lies HL0.out.2⟩
 have HD:Hid (G w w.drew):=G.drew w
 generalize w.drew=w2 at *
 refine takeG 0 3 (.pointer (some ⟨g,o,none⟩)) rfl rfl (by kernel_rfl) (by kernel_rfl) (by kernel_rfl) (fun _ _ _ h=>h) (by kernel_rfl) (fun wz hz=>?_) ?_
 ·rfl
 try simp only [Act.put,sA,sB,sC]
 refine takeG 1 4 (.pointer (some ⟨g,o,none⟩)) rfl rfl (by kernel_rfl) (by kernel_rfl) (by kernel_rfl) (fun _ _ _ h=>h) (by kernel_rfl) (fun wz hz=>?_) ?_
 ·go_simp
 try simp only [Act.put,sA,sB,sC]
 refine takeG 2 5 (.pointer (some ⟨g,o+1,none⟩)) rfl rfl (by kernel_rfl) (by kernel_rfl) (by kernel_rfl) (fun _ _ _ h=>h) (by kernel_rfl) (fun wz hz=>?_) ?_
 ·go_simp
 try simp only [Act.put,sA,sB,sC]
 refine takeG 3 6 (.agg (vx v).toArray) rfl rfl (by kernel_rfl) (by kernel_rfl) (by kernel_rfl) (fun _ _ _ h=>h) (by kernel_rfl) (fun wz hz=>?_) ?_
 ·exact jE _ rfl g (o+1) rfl _ (by simp [jQ]) (hz.lies L.out.1)
 try simp only [Act.put,sA,sB,sC]
 refine takeG 4 7 (.pointer (some ⟨g,o,none⟩)) rfl rfl (by kernel_rfl) (by kernel_rfl) (by kernel_rfl) (fun _ _ _ h=>h) (by kernel_rfl) (fun wz hz=>?_) ?_
 ·rfl
 try simp only [Act.put,sA,sB,sC]
 refine takeG 5 8 (.pointer (some ⟨g,o,none⟩)) rfl rfl (by kernel_rfl) (by kernel_rfl) (by kernel_rfl) (fun _ _ _ h=>h) (by kernel_rfl) (fun wz hz=>?_) ?_
 ·go_simp
 try simp only [Act.put,sA,sB,sC]
 refine takeG 6 9 (.pointer (some ⟨g,o+36,none⟩)) rfl rfl (by kernel_rfl) (by kernel_rfl) (by kernel_rfl) (fun _ _ _ h=>h) (by kernel_rfl) (fun wz hz=>?_) ?_
 ·go_simp
 try simp only [Act.put,sA,sB,sC]
 refine takeG 7 10 (.agg (mx m).toArray) rfl rfl (by kernel_rfl) (by kernel_rfl) (by kernel_rfl) (fun _ _ _ h=>h) (by kernel_rfl) (fun wz hz=>?_) ?_
 ·exact jO _ rfl g (o+36) rfl _ (by simp [ji]) (hz.lies L.out.2)
 try simp only [Act.put,sA,sB,sC]
 refine takeG 8 11 (.pointer (some ⟨g,o,none⟩)) rfl rfl (by kernel_rfl) (by kernel_rfl) (by kernel_rfl) (fun _ _ _ h=>h) (by kernel_rfl) (fun wz hz=>?_) ?_
 ·rfl
 try simp only [Act.put,sA,sB,sC]
 refine takeG 9 12 (.pointer (some ⟨g,o,none⟩)) rfl rfl (by kernel_rfl) (by kernel_rfl) (by kernel_rfl) (fun _ _ _ h=>h) (by kernel_rfl) (fun wz hz=>?_) ?_
 ·go_simp
 try simp only [Act.put,sA,sB,sC]
 refine takeG 10 13 (.pointer (some ⟨g,o+40,none⟩)) rfl rfl (by kernel_rfl) (by kernel_rfl) (by kernel_rfl) (fun _ _ _ h=>h) (by kernel_rfl) (fun wz hz=>?_) ?_
 ·go_simp
 try simp only [Act.put,sA,sB,sC]
 refine takeG 11 14 (.slice a N cap) rfl rfl (by kernel_rfl) (by kernel_rfl) (by kernel_rfl) (fun _ _ _ h=>h) (by kernel_rfl) (fun wz hz=>?_) ?_
 ·have y0:=hz.cell d40;go_simp
 try simp only [Act.put,sA,sB,sC]
 refine readyG [12] (by kernel_rfl) (by simp) (fun w3 hg3=>?_)
 refine AllG.call 12 15 107 #[.slice a N cap] rfl rfl (by kernel_rfl) (by go_simp) ((CK.out w3 (HD.out.trans hg3)).mono ?_) AllG.nil
 rintro e w4 ⟨k,u,rfl,hk,hf,hg4,hpl⟩
 refine ⟨u,rfl,hg4,?_⟩
 obtain ⟨au,rfl⟩:=hk.form
 have HK:Hid (At w4 k (.pointer au)∧k.flat=ks∧G w w4∧k.plain w4):=⟨hk,hf,(HD.out.trans hg3).trans hg4,hpl⟩
 clear hpl hk hf hg4 hg3 d40
 try simp only [Act.put,sA,sB,sC]
 refine takeG 13 16 (.agg (tc v m (.pointer au))) rfl rfl (by kernel_rfl) (by kernel_rfl) (by kernel_rfl) (fun _ _ _ h=>h) (by kernel_rfl) (fun wz hz=>?_) ?_
 ·exact exec_build103 _ rfl v m (.pointer au) rfl (by go_simp) _
 try simp only [Act.put,sA,sB,sC]
 refine readyG [14] (by kernel_rfl) (by simp) (fun w5 hg5=>?_)
 refine AllG.value 14 17 (.pointer (some ⟨w5.heap.size,0,none⟩)) (w5.alloc (.cells (tc v m (.pointer au)) 98)) rfl rfl (by kernel_rfl) (exec_box103 _ rfl _ rfl _) (G.alloc _ _) ?_ AllG.nil
 try simp only [Act.put,sA,sB,sC]
 have HL:Hid (Lies (w5.alloc (.cells (tc v m (.pointer au)) 98)) w5.heap.size 0 (tc v m (.pointer au))):=jh _ _ _
 have HTr:Hid (Tr (w5.alloc (.cells (tc v m (.pointer au)) 98)) w5.heap.size):=⟨_,World.alloc_heap_new _ _⟩
 have HW:Hid (G w4 (w5.alloc (.cells (tc v m (.pointer au)) 98))):=hg5.trans (G.alloc _ _)
 generalize w5.alloc (.cells (tc v m (.pointer au)) 98)=w6 at *
 generalize w5.heap.size=q at *
 refine takeG 15 2 (.pointer (some ⟨q,0,none⟩)) rfl rfl (by kernel_rfl) (by kernel_rfl) (by kernel_rfl) (fun _ _ _ h=>h) (by kernel_rfl) (fun wz hz=>?_) ?_
 ·rfl
 try simp only [Act.put,sA,sB,sC]
 refine doneG (by kernel_rfl) (fun w7 hg7=>?_)
 go_wp2_with fail
 go_ret
 have hg:=HW.out.trans hg7
 exact ⟨q,k,rfl,⟨_,hg7.lies HL.out,HK.out.1.grow hg⟩,HK.out.2.1,HK.out.2.2.1.trans hg,K.plain_grow hg HK.out.2.2.2,HTr.out.grow hg7⟩
theorem children_anyP:∀ (Z:Nat) (f:F),f.size<Z→ChildrenOkP f:=by
 intro Z
 induction Z with
 | zero=>intro f h;omega
 | succ Z ih=>
  intro f hZ v w hS hok
  obtain ⟨a,cap,rfl,hcap⟩:=hS.form
  obtain ⟨N,hN⟩:∃ N,f.len=N:=⟨_,rfl⟩
  have hN2:N≤9223372036854775807:=by have:=f.len_le_size;unfold F.okL at hok;omega
  by_cases h0:N=0
  ·have hf:f=.nil:=by
    cases f with
    | nil=>rfl
    | cons=>simp [F.len] at hN;omega
   rw [hN]
   subst h0
   go_enter Tryz.func107,Tryz.ntmps107
   go_wp2_with fail
   go_ret
   exact ⟨.nil,_,rfl,rfl,hf.symm,G.refl w,trivial⟩
  ·have hlt:N/2<N:=by omega
   obtain ⟨half,hh⟩:∃ half,N/2=half:=⟨_,rfl⟩
   rw [hh] at hlt
   obtain ⟨_,_,he,_,hr⟩:=id hS
   rcases hr with hr | ⟨g,o,ha,hr⟩
   ·subst hr;simp [F.len] at hN;omega
   obtain rfl:a=some ⟨g,o,none⟩:=by injection he with e1;rw [e1,ha]
   clear he ha
   obtain ⟨g',o',cap',nm,vv,m,ks,c,hv,hd,hNN,hc⟩:=hS.at (k:=half) (by omega)
   obtain ⟨rfl,rfl⟩:g'=g∧o'=o:=by injection hv with e1;injection e1 with e2;injection e2 with e3 e4;exact ⟨e3.symm,e4.symm⟩
   clear hv
   obtain ⟨kv,rfl,hSk⟩:=hNN
   have hsz:=F.split_size hd
   have hok':∀ x:F,x.size≤f.size→x.okL:=fun x hx=>by unfold F.okL at *;omega
   have n0:w.cell? ⟨g',o'+half*41,none⟩=some (.string nm):=hc 0 _ (nc_name ..)
   have hT:HasS w (.slice (some ⟨g',o',none⟩) half cap) (f.take half):=⟨_,_,by rw [F.take_len f half (by omega)],by rw [F.take_len f half (by omega)];omega,.inr ⟨g',o',rfl,hr.take⟩⟩
   obtain ⟨AA,hAA⟩:∃ AA,(if cap=half+1 then some (⟨g',o',none⟩:Addr) else some ⟨g',o'+(half+1)*41,none⟩)=AA:=⟨_,rfl⟩
   obtain ⟨N2,hN2'⟩:∃ N2,N-(half+1)=N2:=⟨_,rfl⟩
   obtain ⟨cap2,hcap2⟩:∃ c2,cap-(half+1)=c2:=⟨_,rfl⟩
   have hU:HasS w (.slice AA N2 cap2) (f.drop (half+1)):=by
    refine ⟨_,_,by rw [F.drop_len,hN,hN2'],by rw [F.drop_len];omega,?_⟩
    by_cases hce:cap=half+1
    ·left
     exact F.drop_all f _ (by omega)
    ·right
     rw [if_neg hce] at hAA
     exact ⟨_,_,hAA.symm,hr.drop⟩
   have C1:=hid (fun (W:World) (hW:G w W)=>ih (f.take half) (by omega) _ W (hT.below hW) (hok' _ (by omega)))
   have C2:=hid (fun (W:World) (hW:G w W)=>made_anyP g' (o'+half*41) nm vv m kv ks W (hW.lies hc) (hSk.below hW) (hok' _ (by omega)) (ih ks (by omega)))
   have C3:=hid (fun (W:World) (hW:G w W)=>ih (f.drop (half+1)) (by omega) _ W (hU.below hW) (hok' _ (by omega)))
   have HSZ:Hid ((f.take half).size+(f.drop (half+1)).size+ks.size+1≤9223372036854775807):=by show _≤_;unfold F.okL at hok;omega
   have HFF:Hid ((f.take half).app (.cons nm vv m ks (f.drop (half+1)))=f):=by show _=_;rw [← hd];exact F.jw f half
   generalize hg':g'=g at *
   generalize ho':o'=o at *
   rw [hN] at hcap
   obtain ⟨half1,hh1⟩:∃ h1,half+1=h1:=⟨_,rfl⟩
   have q1:(N:Int).tdiv 2=(half:Int):=by rw [← hh];exact Int.ofNat_tdiv N 2
   have q2:IntKind.i64.wrap ((half:Int)+1)=(half1:Int):=by rw [← hh1,IntKind.wrap_i64];omega
   have q3:(half:Int)<(N:Int):=by omega
   have q4:(half:Int)≤(cap:Int):=by omega
   have q5:(half1:Int)≤(N:Int):=by omega
   have q6:(N:Int)≤(cap:Int):=by omega
   have q7:¬ (N:Int)=0:=by omega
   have HAA:Hid (((if cap=half+1 then some (⟨g,o,none⟩:Addr) else some ⟨g,o+(half+1)*41,none⟩)=AA)∧N-(half+1)=N2∧cap-(half+1)=cap2∧half+1=half1):=⟨hAA,hN2',hcap2,hh1⟩
   rw [hN]
   clear hS hr hd hSk hc hT hU hAA hN2' hcap2 hh1 hN ih hsz hok' hh hok hZ
   go_enter Tryz.func107,Tryz.ntmps107
   go_upto_region 4 with fail
   refine jV ?_
   have d0:=(G.drew w).cell n0
   have HD:Hid (G w w.drew):=G.drew w
   generalize w.drew=w2 at *
   refine takeG 0 10 (.slice (some ⟨g,o,none⟩) N cap) rfl rfl (by kernel_rfl) (by kernel_rfl) (by kernel_rfl) (fun _ _ _ h=>h) (by kernel_rfl) (fun wz hz=>?_) ?_
   ·rfl
   try simp only [Act.put,sA,sB,sC]
   refine takeG 1 11 (.int .i64 (half:Int)) rfl rfl (by kernel_rfl) (by kernel_rfl) (by kernel_rfl) (fun _ _ _ h=>h) (by kernel_rfl) (fun wz hz=>?_) ?_
   ·rfl
   try simp only [Act.put,sA,sB,sC]
   refine takeG 2 12 (.slice (some ⟨g,o,none⟩) half cap) rfl rfl (by kernel_rfl) (by kernel_rfl) (by kernel_rfl) (fun _ _ _ h=>h) (by kernel_rfl) (fun wz hz=>?_) ?_
   ·go_simp
   try simp only [Act.put,sA,sB,sC]
   refine takeG 4 14 (.slice (some ⟨g,o,none⟩) N cap) rfl rfl (by kernel_rfl) (by kernel_rfl) (by kernel_rfl) (fun _ _ _ h=>h) (by kernel_rfl) (fun wz hz=>?_) ?_
   ·rfl
   try simp only [Act.put,sA,sB,sC]
   refine takeG 5 15 (.int .i64 (half:Int)) rfl rfl (by kernel_rfl) (by kernel_rfl) (by kernel_rfl) (fun _ _ _ h=>h) (by kernel_rfl) (fun wz hz=>?_) ?_
   ·rfl
   try simp only [Act.put,sA,sB,sC]
   refine takeG 6 16 (.pointer (some ⟨g,o+half*41,none⟩)) rfl rfl (by kernel_rfl) (by kernel_rfl) (by kernel_rfl) (fun _ _ _ h=>h) (by kernel_rfl) (fun wz hz=>?_) ?_
   ·go_simp
   try simp only [Act.put,sA,sB,sC]
   refine takeG 7 17 (.pointer (some ⟨g,o+half*41,none⟩)) rfl rfl (by kernel_rfl) (by kernel_rfl) (by kernel_rfl) (fun _ _ _ h=>h) (by kernel_rfl) (fun wz hz=>?_) ?_
   ·go_simp
   try simp only [Act.put,sA,sB,sC]
   refine takeG 8 18 (.string nm) rfl rfl (by kernel_rfl) (by kernel_rfl) (by kernel_rfl) (fun _ _ _ h=>h) (by kernel_rfl) (fun wz hz=>?_) ?_
   ·have y0:=hz.cell d0;go_simp
   try simp only [Act.put,sA,sB,sC]
   refine takeG 9 19 (.slice (some ⟨g,o,none⟩) N cap) rfl rfl (by kernel_rfl) (by kernel_rfl) (by kernel_rfl) (fun _ _ _ h=>h) (by kernel_rfl) (fun wz hz=>?_) ?_
   ·rfl
   try simp only [Act.put,sA,sB,sC]
   refine takeG 10 20 (.int .i64 (half:Int)) rfl rfl (by kernel_rfl) (by kernel_rfl) (by kernel_rfl) (fun _ _ _ h=>h) (by kernel_rfl) (fun wz hz=>?_) ?_
   ·rfl
   try simp only [Act.put,sA,sB,sC]
   refine takeG 11 21 (.pointer (some ⟨g,o+half*41,none⟩)) rfl rfl (by kernel_rfl) (by kernel_rfl) (by kernel_rfl) (fun _ _ _ h=>h) (by kernel_rfl) (fun wz hz=>?_) ?_
   ·go_simp
   try simp only [Act.put,sA,sB,sC]
   refine takeG 14 24 (.slice (some ⟨g,o,none⟩) N cap) rfl rfl (by kernel_rfl) (by kernel_rfl) (by kernel_rfl) (fun _ _ _ h=>h) (by kernel_rfl) (fun wz hz=>?_) ?_
   ·rfl
   try simp only [Act.put,sA,sB,sC]
   refine takeG 15 25 (.int .i64 (half:Int)) rfl rfl (by kernel_rfl) (by kernel_rfl) (by kernel_rfl) (fun _ _ _ h=>h) (by kernel_rfl) (fun wz hz=>?_) ?_
   ·rfl
   try simp only [Act.put,sA,sB,sC]
   refine takeG 16 26 (.int .i64 (half1:Int)) rfl rfl (by kernel_rfl) (by kernel_rfl) (by kernel_rfl) (fun _ _ _ h=>h) (by kernel_rfl) (fun wz hz=>?_) ?_
   ·go_simp
   try simp only [Act.put,sA,sB,sC]
   refine takeG 17 27 (.slice AA N2 cap2) rfl rfl (by kernel_rfl) (by kernel_rfl) (by kernel_rfl) (fun _ _ _ h=>h) (by kernel_rfl) (fun wz hz=>?_) ?_
   ·(go_simp;obtain ⟨e1,e2,e3,e4⟩:=HAA.out;subst e4;exact ⟨e1,e2,e3⟩)
   try simp only [Act.put,sA,sB,sC]
   refine readyG [3] (by kernel_rfl) (by simp) (fun w3 hg3=>?_)
   refine AllG.call 3 13 107 #[.slice (some ⟨g,o,none⟩) half cap] rfl rfl (by kernel_rfl) (by go_simp) ((C1.out w3 (HD.out.trans hg3)).mono ?_) AllG.nil
   rintro e w4 ⟨k1,u1,rfl,hk,hf,hg4,hpl⟩
   refine ⟨u1,rfl,hg4,?_⟩
   obtain ⟨a1,rfl⟩:=hk.form
   have HK1:Hid (At w4 k1 (.pointer a1)∧k1.flat=f.take half∧G w w4∧k1.plain w4):=⟨hk,hf,(HD.out.trans hg3).trans hg4,hpl⟩
   clear hpl hk hf hg4 hg3
   try simp only [Act.put,sA,sB,sC]
   refine readyG [12] (by kernel_rfl) (by simp) (fun w5 hg5=>?_)
   refine AllG.call 12 22 71 #[.pointer (some ⟨g,o+half*41,none⟩)] rfl rfl (by kernel_rfl) (by go_simp) ((C2.out w5 (HK1.out.2.2.1.trans hg5)).mono ?_) AllG.nil
   rintro e w6 ⟨p,kk,rfl,hk,hf,hg6,hpl,htr⟩
   refine ⟨.pointer (some ⟨p,0,none⟩),rfl,hg6,?_⟩
   have HK2:Hid (AtT w6 p vv m kk∧kk.flat=ks∧G w w6∧G w4 w6∧kk.plain w6∧Tr w6 p):=⟨hk,hf,(HK1.out.2.2.1.trans hg5).trans hg6,hg5.trans hg6,hpl,htr⟩
   clear hpl htr hk hf hg6 hg5
   try simp only [Act.put,sA,sB,sC]
   refine takeG 13 23 (.agg #[.string nm,.pointer (some ⟨p,0,none⟩)]) rfl rfl (by kernel_rfl) (by kernel_rfl) (by kernel_rfl) (fun _ _ _ h=>h) (by kernel_rfl) (fun wz hz=>?_) ?_
   ·go_simp
   try simp only [Act.put,sA,sB,sC]
   refine readyG [18] (by kernel_rfl) (by simp) (fun w7 hg7=>?_)
   refine AllG.call 18 28 107 #[.slice AA N2 cap2] rfl rfl (by kernel_rfl) (by go_simp) ((C3.out w7 (HK2.out.2.2.1.trans hg7)).mono ?_) AllG.nil
   rintro e w8 ⟨k2,u2,rfl,hk,hf,hg8,hpl⟩
   refine ⟨u2,rfl,hg8,?_⟩
   obtain ⟨a2,rfl⟩:=hk.form
   have HK3:Hid (At w8 k2 (.pointer a2)∧k2.flat=f.drop (half+1)∧G w w8∧G w6 w8∧k2.plain w8):=⟨hk,hf,(HK2.out.2.2.1.trans hg7).trans hg8,hg7.trans hg8,hpl⟩
   clear hpl hk hf hg8 hg7
   try simp only [Act.put,sA,sB,sC]
   refine readyG [19] (by kernel_rfl) (by simp) (fun w9 hg9=>?_)
   have CJ:=join_any k1 k2 kk (.pointer a1) (.pointer a2) nm p vv m w9 (HK1.out.1.grow ((HK2.out.2.2.2.1.trans HK3.out.2.2.2.1).trans hg9)) (HK3.out.1.grow hg9) (HK2.out.1.grow (HK3.out.2.2.2.1.trans hg9)) (by rw [HK1.out.2.1,HK2.out.2.1,HK3.out.2.1];exact HSZ.out)
   refine AllG.call 19 29 133 #[.pointer a1,.agg #[.string nm,.pointer (some ⟨p,0,none⟩)],.pointer a2] rfl rfl (by kernel_rfl) (by go_simp) (CJ.mono ?_) AllG.nil
   rintro e w10 ⟨q,rfl,hq,hg10⟩
   refine ⟨.pointer (some ⟨q,0,none⟩),rfl,hg10,?_⟩
   have HQ:Hid (At w10 (K.node q p nm vv m kk k1 k2) (.pointer (some ⟨q,0,none⟩))∧G w w10∧G w8 w10):=⟨hq,(HK3.out.2.2.1.trans hg9).trans hg10,hg9.trans hg10⟩
   clear hq hg10 hg9 CJ
   try simp only [Act.put,sA,sB,sC]
   refine takeG 20 2 (.pointer (some ⟨q,0,none⟩)) rfl rfl (by kernel_rfl) (by kernel_rfl) (by kernel_rfl) (fun _ _ _ h=>h) (by kernel_rfl) (fun wz hz=>?_) ?_
   ·rfl
   try simp only [Act.put,sA,sB,sC]
   refine doneG (by kernel_rfl) (fun w11 hg11=>?_)
   go_wp2_with fail
   go_ret
   have g8:=HQ.out.2.2.trans hg11
   have g6:=HK3.out.2.2.2.1.trans g8
   have g4:=HK2.out.2.2.2.1.trans g6
   refine ⟨_,_,rfl,HQ.out.1.grow hg11,?_,HQ.out.2.1.trans hg11,HK2.out.2.2.2.2.2.grow g6,K.plain_grow g6 HK2.out.2.2.2.2.1,K.plain_grow g4 HK1.out.2.2.2,K.plain_grow g8 HK3.out.2.2.2.2⟩
   rw [K.flat,HK1.out.2.1,HK2.out.2.1,HK3.out.2.1]
   exact HFF.out
def OfResP (w:World) (u:Value) (ce:Int) (v:Vd) (m:Md) (ks:F):Prop:=(ce≠0∧u=.pointer none)∨(ce=0∧∃ p k,u=.pointer (some ⟨p,0,none⟩)∧AtT w p v m k∧k.flat=ks∧k.plain w∧Tr w p)
theorem of_anyP (c:Array Value) (nm:ByteArray) (v:Vd) (m:Md) (ks:F) (w:World) (hN:HasN w c nm v m ks) (hw:ks.weight≤100000):
  Calls Tryz.prog 29 #[.agg c] w fun e w'=>∃ u,e=.returned (.tuple #[u,.int .i64 (checkE v m ks)])∧G w w'∧OfResP w' u (checkE v m ks) v m ks:=by
 have hB:G w (w.alloc (.cells c 30)):=G.alloc _ _
 have C1:=tcheck_any c nm v m ks (w.alloc (.cells c 30)) (hN.below hB) hw
 obtain ⟨kv,hc,hS⟩:=hN
 have hl:=jh w c 30
 have HL:Hid (Lies (w.alloc (.cells c 30)) w.heap.size 0 c∧c.size=41):=⟨hl,by rw [hc];exact jZ ..⟩
 have C2:=hid (fun (W:World) (hW:G (w.alloc (.cells c 30)) W)=>made_anyP w.heap.size 0 nm v m kv ks W (by have:=hW.lies hl;rw [hc] at this;exact this) ((hS.below hB).below hW) (F.okL_of_weight _ (by omega)) (children_anyP (ks.size+1) ks (Nat.lt_succ_self _)))
 have HG:Hid (G w (w.alloc (.cells c 30))):=hB
 generalize checkP v m ks=cp at *
 generalize checkE v m ks=ce at *
 clear hl hc hS hB hw
 go_enter Tryz.func29,Tryz.ntmps29
 go_upto_region 1 with fail
 generalize w.alloc (.cells c 30)=w1 at *
 generalize w.heap.size=H at *
 by_cases h0:ce=0
 ·subst h0
  go_wp2_with (first
   | (with_reducible refine jA (.agg c) ?_ ?_ ?_;exact jH _ rfl H 0 rfl c HL.out.2 HL.out.1;kernel_rfl)
   | (go_at_call 70;refine C1.mono ?_;rintro e w2 ⟨rfl,g2⟩;have CM:=C2.out w2 g2;have HG2:Hid (G w w2):=HG.out.trans g2;clear C1 C2 g2)
   | (go_at_call 71;refine CM.mono ?_;rintro e w3 ⟨p,k,rfl,h3⟩;have H3:=hid h3;clear h3 CM))
  go_ret2
  exact ⟨_,rfl,HG2.out.trans H3.out.2.2.1,.inr ⟨rfl,p,k,rfl,H3.out.1,H3.out.2.1,H3.out.2.2.2⟩⟩
 ·have h0':(ce != 0)=true:=by simpa using h0
  have H0:Hid (ce≠0):=h0
  clear h0
  go_wp2_with (first
   | (with_reducible refine jA (.agg c) ?_ ?_ ?_;exact jH _ rfl H 0 rfl c HL.out.2 HL.out.1;kernel_rfl)
   | (go_at_call 70;refine C1.mono ?_;rintro e w2 ⟨rfl,g2⟩;have HG2:Hid (G w w2):=HG.out.trans g2;clear C1 C2 g2))
  go_ret2
  exact ⟨_,rfl,HG2.out,.inl ⟨H0.out,rfl⟩⟩
def putT:T3→List ByteArray→T3→T3
 | _,[],s=>s
 | t,nm::L,s=>(t.1,t.2.1,t.2.2.put nm (putT ((t.2.2.get nm).getD s) L s).1 (putT ((t.2.2.get nm).getD s) L s).2.1 (putT ((t.2.2.get nm).getD s) L s).2.2)
def wayTo:T3→List ByteArray→Prop
 | _,[]=>True
 | t,nm::L=>L=[]∨∃ s,t.2.2.get nm=some s∧wayTo s L
theorem wayTo_of:∀ {t:T3} {L:List ByteArray} {x:T3},dn t L.dropLast=some x→wayTo t L
 | _,[],_,_=>trivial
 | t,[nm],_,_=>.inl rfl
 | t,nm::b::L,x,h=>by
  rw [List.dropLast_cons_of_ne_nil (by simp),dn] at h
  cases hg:t.2.2.get nm with
  | none=>rw [hg] at h;cases h
  | some s=>rw [hg] at h;exact .inr ⟨s,hg,wayTo_of h⟩
theorem F.put_get {nm:ByteArray} {v:Vd} {m:Md} {fk:F}:∀ {f:F},f.rises→(f.put nm v m fk).size+(match f.get nm with | none=>0 | some t=>t.2.2.size+1)=f.size+fk.size+1
 | .nil,_=>by simp [F.put,F.get,F.size]
 | .cons n v' m' k' r,⟨h1,_,h3⟩=>by
  have ih:=F.put_get (nm:=nm) (v:=v) (m:=m) (fk:=fk) h3
  rw [F.put,F.get]
  rcases lt_tri nm n with hq | hq | hq
  ·rw [if_pos (cmp3_eq.2 hq),if_pos hq];simp only [F.size];omega
  ·rw [if_neg (by rw [cmp3_lt hq];decide),if_pos (cmp3_lt hq),if_neg (lt_no hq).2,F.get_above (F.above_mono hq h1)];simp only [F.size];omega
  ·rw [if_neg (by rw [qC hq];decide),if_neg (by rw [qC hq];decide),if_neg (Ne.symm (lt_no hq).2)]
   simp only [F.size]
   omega
theorem putT_size:∀ {t:T3} {L:List ByteArray} {s:T3},t.2.2.rises→wayTo t L→(putT t L s).2.2.size≤t.2.2.size+s.2.2.size+L.length
 | t,[],s,_,_=>by simp [putT]
 | t,nm::L,s,hr,hw=>by
  rw [putT]
  have h:=F.put_get (nm:=nm) (v:=(putT ((t.2.2.get nm).getD s) L s).1) (m:=(putT ((t.2.2.get nm).getD s) L s).2.1) (fk:=(putT ((t.2.2.get nm).getD s) L s).2.2) hr
  simp only [List.length_cons]
  rcases hw with rfl | ⟨x,hx,hw⟩
  ·simp only [putT] at h ⊢
   simp only [List.length_nil]
   omega
  ·rw [hx] at h
   have ih:=putT_size (s:=s) (F.rises_get hr hx).1 hw
   simp only [hx,Option.getD_some] at h ⊢
   omega
def VarT (w:World) (g:Nat) (c:Array Value):Prop:=w.heap[g]?=some (.cells c 98 (0,0))
theorem VarT.lies {w:World} {g:Nat} {c:Array Value} (h:VarT w g c):Lies w g 0 c:=fun j u hj=>by
 have h':w.heap[g]?=some (.cells c 98 (0,0)):=h
 simp only [World.cell?,h',Nat.zero_add]
 exact hj
theorem VarT.lt {w:World} {g:Nat} {c:Array Value} (h:VarT w g c):g<w.heap.size:=(Array.getElem?_eq_some_iff.1 h).1
theorem VarT.grow {w w':World} {g:Nat} {c:Array Value} (h:VarT w g c) (hg:G w w'):VarT w' g c:=(Below.block hg g h.lt).trans h
def z103:Array Value:=tc Vd.zero Md.zero (.pointer none)
theorem run_zero103 (w:World):(zeroValue 98).run Tryz.prog w=.ok (.agg z103) w:=by
 have h:(Tryz.prog.info? 98).bind (·.zero)=some (.agg z103):=by kernel_rfl
 cases hq:Tryz.prog.info? 98 with
 | none=>rw [hq] at h;cases h
 | some i=>
  rw [hq] at h
  simp only [Option.bind_some] at h
  simp [zeroValue,typeInfo,hq,h]
theorem exec_alloc103 {o:Oper} {a:Act} (ho:o.op=.alloc 98) (w:World):(execOp a.eval o).run Tryz.prog w=.ok (.value (.pointer (some ⟨w.heap.size,0,none⟩))) (w.alloc (.cells z103 98)):=by
 unfold execOp
 simp only [ho,Instr.alloc,Sem.run_bind,run_zero103,Result.andThen_ok]
 simp [newVar,newRow,newObj,Value.cells]
 rfl
theorem size103:(Tryz.prog.info? 98).map (·.size)=some 40:=by kernel_rfl
theorem under103:Tryz.prog.underlying 98=some (.struct (Tryz.prog.fieldsOf 98)):=by kernel_rfl
theorem exec_load103 {o:Oper} {a:Act} (x:Operand) (ho:o.op=.load 98 x) (g:Nat) (hx:a.eval x=.pointer (some ⟨g,0,none⟩)) (c:Array Value) (hs:c.size=40) {w:World} (h:Lies w g 0 c):(execOp a.eval o).run Tryz.prog w=.ok (.value (.agg c)) w:=by
 unfold execOp
 simp only [ho,hx,Sem.run_bind,Sem.run_pure,Result.andThen_ok,load_lies (w:=w) (g:=g) (o:=0) 98 _ under103 rfl (by rw [size103,hs]) h]
theorem exec_store103 {o:Oper} {a:Act} (x y:Operand) (ho:o.op=.store 98 x y) (g:Nat) (c old:Array Value) (hx:a.eval x=.pointer (some ⟨g,0,none⟩)) (hy:a.eval y=.agg c) (w:World) (hg:VarT w g old)
  (hs:c.size=40) (hs':old.size=40) (h1:c.all (·.oneCell')=true):(execOp a.eval o).run Tryz.prog w=.ok .skip (w.setRow g c):=by
 unfold execOp
 simp only [ho,hx,hy,Instr.storeAt,Instr.sureAddr,Sem.run_bind,Sem.run_pure,Result.andThen_ok,run_storeVar_row (P:=Tryz.prog) w g 98 98 old c hg (by rw [size103,hs]) (by rw [hs,hs']) h1]
theorem tc_one (v:Vd) (m:Md) (a:Option Addr):(tc v m (.pointer a)).all (·.oneCell')=true:=by
 rw [Array.all_eq_true_iff_forall_mem]
 intro x hx
 simp only [tc,vx,mx,List.mem_toArray,List.mem_cons,List.mem_append,List.mem_map,List.not_mem_nil,or_false] at hx
 rcases hx with (rfl | rfl | rfl | ⟨b,_,rfl⟩) | (rfl | rfl | rfl | rfl) | rfl<;>rfl
theorem new_varT (w:World) (c:Array Value):G w ((w.alloc (.cells z103 98)).setRow w.heap.size c)∧VarT ((w.alloc (.cells z103 98)).setRow w.heap.size c) w.heap.size c:=by
 have h:=(But.setRow (K:=w.heap.size) ((But.refl _ w).alloc (.cells z103 98)) c)
 exact ⟨h.below (Nat.le_refl _) (Nat.le_refl _),setRow_heap _ _ z103 c 98 _ (World.alloc_heap_new w _)⟩
theorem VarT.setKids {w:World} {g:Nat} {v:Vd} {m:Md} {pk pk':Value} (h:VarT w g (tc v m pk)):VarT (w.setCell ⟨g,39,none⟩ pk') g (tc v m pk'):=by
 have h':w.heap[g]?=some (.cells (tc v m pk) 98 (0,0)):=h
 unfold VarT World.setCell
 simp only []
 rw [Array.getElem?_modify]
 simp only [h',if_true,Option.map_some]
 have e:(tc v m pk).setIfInBounds 39 pk'=tc v m pk':=by
  simp only [tc,List.setIfInBounds_toArray]
  rw [List.set_append_right _ _ (by simp [jQ]),jQ,List.set_append_right _ _ (by simp [ji])]
  simp [ji]
 simp [e]
theorem spot_none {w:World} {ad:Addr} {s:ByteArray} (h:w.cell? ad=some (.string s)):ad.spot=none:=by
 unfold World.cell? at h
 split at h
 ·split at h
  ·cases h
  ·rename_i hs;simpa using hs
 ·cases h
theorem hasT_rest {w:World} {ad:Addr} {ar:Option Addr} {cap n:Nat} {x:ByteArray} {L:List ByteArray} (h:HasT w (.slice (some ad) (n+1) cap) (x::L)) (hn:L.length=n) (har:(if cap=1 then some ad else some { block:=ad.block,off:=ad.off+1 })=ar):HasT w (.slice ar n (cap-1)) L:=by
 rcases h with ⟨h,_⟩ | ⟨a,cp,hv,hc,hcell⟩
 ·cases h
 ·injection hv with e1 e2 e3
  injection e1 with e1
  subst e1 e3
  simp only [List.length_cons] at hc
  by_cases h1:cap=1
  ·rw [if_pos h1] at har
   subst har
   have:L=[]:=List.length_eq_zero_iff.1 (by omega)
   subst this
   exact .inr ⟨ad,cap-1,by rw [← hn],by simp,fun i y hi=>by simp at hi⟩
  ·rw [if_neg h1] at har
   subst har
   have hsp:ad.spot=none:=by
    have:=hcell 0 x rfl
    rw [show ad.add 0=ad from rfl] at this
    exact spot_none this
   obtain ⟨b,o,sp⟩:=ad
   simp only at hsp
   subst hsp
   refine .inr ⟨⟨b,o+1,none⟩,cap-1,by rw [hn],by omega,fun i y hi=>?_⟩
   have:=hcell (i+1) y (by simpa using hi)
   rw [Addr.add_mid] at this ⊢
   rw [show o+1+i=o+(i+1) by omega]
   exact this
theorem Tr.setKids {w:World} {B b:Nat} {v:Vd} {m:Md} {pk pk':Value} (hV:VarT w B (tc v m pk)) (h:Tr w b):Tr (w.setCell ⟨B,39,none⟩ pk') b:=by
 by_cases e:b=B
 ·subst e
  exact ⟨_,VarT.setKids hV⟩
 ·obtain ⟨c,h⟩:=h
  exact ⟨c,(Below.heap_setCell _ _ _ b e).trans h⟩
theorem AtTF.old {P R:Nat→Prop} {w w':World} {p:Nat} {v:Vd} {m:Md} {f:F} (h:AtTF P R w p v m f):AtTF P (fun b=>R b∨Tr w' b) w p v m f:=h.monoR fun _=>Or.inl
theorem AtTF.growO {P R:Nat→Prop} {w w':World} {p:Nat} {v:Vd} {m:Md} {f:F} (h:AtTF P (fun b=>R b∨Tr w b) w p v m f) (hg:G w w'):AtTF P (fun b=>R b∨Tr w' b) w' p v m f:=(h.grow hg).monoR fun _ h=>h.imp_right fun h=>h.grow hg
theorem AtTF.growT {P:Nat→Prop} {w w':World} {p:Nat} {v:Vd} {m:Md} {f:F} (h:AtTF P (Tr w) w p v m f) (hg:G w w'):AtTF P (Tr w') w' p v m f:=(h.grow hg).monoR fun _ h=>h.grow hg
theorem AtTF.joinT {P:Nat→Prop} {w w':World} {p:Nat} {v:Vd} {m:Md} {f:F} (h:AtTF P (fun b=>Tr w b∨Tr w' b) w' p v m f) (hg:G w w'):AtTF P (Tr w') w' p v m f:=h.monoR fun _ h=>h.elim (fun h=>h.grow hg) id
def TWithOk (L:List ByteArray):Prop:=∀ (P R:Nat→Prop) (w:World) (au:Option Addr) (t s:T3) (ps:Nat) (an:Option Addr) (cn:Nat),(∀ b,w.heap.size≤b→P b)→(L≠[]→∃ p,au=some ⟨p,0,none⟩∧AtTF P R w p t.1 t.2.1 t.2.2∧t.2.2.rises∧t.2.2.size+s.2.2.size+L.length≤400000)→wayTo t L→AtTF P R w ps s.1 s.2.1 s.2.2→HasT w (.slice an L.length cn) L→L.length≤64→(∀ x∈L,x.size≤281474976710656)→
  Calls Tryz.prog 120 #[.pointer au,.slice an L.length cn,.pointer (some ⟨ps,0,none⟩)] w fun e w'=>∃ p',e=.returned (.pointer (some ⟨p',0,none⟩))∧AtTF P (fun b=>R b∨Tr w' b) w' p' (putT t L s).1 (putT t L s).2.1 (putT t L s).2.2∧G w w'
theorem twith_any:∀ L:List ByteArray,TWithOk L
 | []=>by
  intro P R w au t s ps an cn _ _ _ hs _ _ _
  have HS:=hid hs
  clear hs
  go_enter Tryz.func120,Tryz.ntmps120
  go_wp2
  go_ret
  exact ⟨ps,rfl,HS.out.old,G.refl _⟩
 | nm::L=>by
  have IH:=hid (twith_any L)
  intro P R w au t s ps an cn hP hu hw hs hn h64 hsz
  obtain ⟨p,rfl,ht,hr,hb⟩:=hu (by simp)
  obtain ⟨ak,hli,hak⟩:=ht.kids
  obtain ⟨u,hu2,hC⟩:=find_fix hak hr nm
  obtain ⟨a2,rfl⟩:=hu2.form
  obtain ⟨n,hnL⟩:∃ n,L.length=n:=⟨_,rfl⟩
  obtain ⟨ad,cp,hv,hx0⟩:=hn.at (k:=0) (s:=nm) rfl
  obtain rfl:an=some ad:=by injection hv
  have hlen:(nm::L).length=n+1:=by rw [List.length_cons,hnL]
  rw [hlen] at hn hv h64 hb ⊢
  have hcn:n+1≤cn:=by
   obtain ⟨ao,cp',hv2,hc2⟩:=hn.form
   injection hv2 with _ _ e3
   rw [hlen] at hc2
   omega
  obtain ⟨ar,har⟩:∃ ar,(if cn=1 then some ad else some { block:=ad.block,off:=ad.off+1 })=ar:=⟨_,rfl⟩
  have hrest:=hasT_rest hn hnL har
  have hI1:(1:Int)≤(n:Int)+1:=by omega
  have hkid:∃ x:T3,(t.2.2.get nm).getD s=x:=⟨_,rfl⟩
  obtain ⟨x,hxk⟩:=hkid
  have HX:Hid ((L≠[]→PtrTo P R w (.pointer a2) (some x))∧(L≠[]→x.2.2.rises)∧(wayTo x L)∧(L≠[]→x.2.2.size+1≤t.2.2.size)):=by
   rcases hw with rfl | ⟨y,hy,hw⟩
   ·exact ⟨fun h=>absurd rfl h,fun h=>absurd rfl h,trivial,fun h=>absurd rfl h⟩
   ·rw [hy] at hxk hu2
    simp only [Option.getD_some] at hxk
    subst hxk
    have h1:=F.rises_get hr hy
    exact ⟨fun _=>hu2,fun _=>h1.1,hw,fun _=>h1.2⟩
  have HK:=hid (putT_size (s:=s) hr hw)
  have HPT:Hid (putT t (nm::L) s=(t.1,t.2.1,t.2.2.put nm (putT x L s).1 (putT x L s).2.1 (putT x L s).2.2)):=by rw [← hxk];rfl
  have HT:=hid (⟨ht,hr,hs,hak,hnL,hsz,hli⟩:AtTF P R w p t.1 t.2.1 t.2.2∧t.2.2.rises∧AtTF P R w ps s.1 s.2.1 s.2.2∧AtF P R w (.pointer ak) t.2.2∧L.length=n∧(∀ x∈nm::L,x.size≤281474976710656)∧Lies w p 0 (tc t.1 t.2.1 (.pointer ak)))
  have HR:=hid hrest
  have HPP:=hid hP
  have HC:=hid hC
  have c39:=jG hli 39 _ (qK ..)
  have hx0':w.cell? ad=some (.string nm):=by
   have:=hx0
   rwa [show ad.add 0=ad from rfl] at this
  obtain ⟨N1,N2⟩:=new_varT w (tc t.1 t.2.1 (.pointer ak))
  have HV:=hid (⟨N1,N2⟩:_∧_)
  replace c39:=N1.cell c39
  replace hx0':=N1.cell hx0'
  clear hu ht hr hw hs hn hsz hli hak hu2 hC hv hx0 hlen hrest hxk N1 N2 hnL hP
  go_enter Tryz.func120,Tryz.ntmps120
  go_upto_region 4 with (first
   | ((with_reducible refine jA (.agg (tc t.1 t.2.1 (.pointer ak))) ?_ ?_ ?_);exact exec_load103 _ rfl p rfl _ (tc_size ..) HT.out.2.2.2.2.2.2;kernel_rfl)
   | ((with_reducible refine jJ (.pointer (some ⟨w.heap.size,0,none⟩)) (w.alloc (.cells z103 98)) ?_ ?_ ?_);exact exec_alloc103 rfl _;kernel_rfl)
   | ((with_reducible refine jP ((w.alloc (.cells z103 98)).setRow w.heap.size (tc t.1 t.2.1 (.pointer ak))) ?_ ?_ ?_);exact exec_store103 _ _ rfl w.heap.size _ z103 rfl rfl _ (World.alloc_heap_new w _) (tc_size ..) (tc_size ..) (tc_one ..);kernel_rfl))
  try simp only [Act.put,sA,sB,sC]
  generalize hB:w.heap.size=B at *
  have HB:=hid hB
  generalize (w.alloc (.cells z103 98)).setRow B (tc t.1 t.2.1 (.pointer ak))=w1 at *
  refine jV ?_
  replace c39:=(G.drew w1).cell c39
  replace hx0':=(G.drew w1).cell hx0'
  have HD:Hid (G w w1.drew∧VarT w1.drew B (tc t.1 t.2.1 (.pointer ak))):=⟨HV.out.1.trans (G.drew w1),HV.out.2.grow (G.drew w1)⟩
  generalize w1.drew=w2 at *
  clear HV hB
  refine takeG 0 16 (.pointer (some ⟨p,0,none⟩)) rfl rfl (by kernel_rfl) (by kernel_rfl) (by kernel_rfl) (fun _ _ _ h=>h) (by kernel_rfl) (fun wz hz=>?_) ?_
  ·rfl
  try simp only [Act.put,sA,sB,sC]
  refine takeG 1 17 (.pointer (some ⟨p,0,none⟩)) rfl rfl (by kernel_rfl) (by kernel_rfl) (by kernel_rfl) (fun _ _ _ h=>h) (by kernel_rfl) (fun wz hz=>?_) ?_
  ·go_simp
  try simp only [Act.put,sA,sB,sC]
  refine takeG 2 18 (.pointer (some ⟨p,39,none⟩)) rfl rfl (by kernel_rfl) (by kernel_rfl) (by kernel_rfl) (fun _ _ _ h=>h) (by kernel_rfl) (fun wz hz=>?_) ?_
  ·go_simp
  try simp only [Act.put,sA,sB,sC]
  refine takeG 3 19 (.pointer ak) rfl rfl (by kernel_rfl) (by kernel_rfl) (by kernel_rfl) (fun _ _ _ h=>h) (by kernel_rfl) (fun wz hz=>?_) ?_
  ·have y0:=hz.cell c39;go_simp
  try simp only [Act.put,sA,sB,sC]
  refine takeG 4 20 (.slice (some ad) (n+1) cn) rfl rfl (by kernel_rfl) (by kernel_rfl) (by kernel_rfl) (fun _ _ _ h=>h) (by kernel_rfl) (fun wz hz=>?_) ?_
  ·rfl
  try simp only [Act.put,sA,sB,sC]
  refine takeG 5 21 (.pointer (some ad)) rfl rfl (by kernel_rfl) (by kernel_rfl) (by kernel_rfl) (fun _ _ _ h=>h) (by kernel_rfl) (fun wz hz=>?_) ?_
  ·go_simp
  try simp only [Act.put,sA,sB,sC]
  refine takeG 6 22 (.string nm) rfl rfl (by kernel_rfl) (by kernel_rfl) (by kernel_rfl) (fun _ _ _ h=>h) (by kernel_rfl) (fun wz hz=>?_) ?_
  ·have y0:=hz.cell hx0';go_simp
  try simp only [Act.put,sA,sB,sC]
  refine callG 7 23 (.pointer a2) 63 #[.pointer ak,.string nm] rfl rfl (by kernel_rfl) (by kernel_rfl) (by kernel_rfl) (fun _ _ _ h=>h) (by kernel_rfl) (fun wz=>by go_simp) (fun wz hz=>?_) ?_
  ·exact Calls.grown (HC.out wz (HD.out.1.trans hz))
  try simp only [Act.put,sA,sB,sC]
  refine takeG 8 24 (.slice (some ad) (n+1) cn) rfl rfl (by kernel_rfl) (by kernel_rfl) (by kernel_rfl) (fun _ _ _ h=>h) (by kernel_rfl) (fun wz hz=>?_) ?_
  ·rfl
  try simp only [Act.put,sA,sB,sC]
  refine takeG 9 25 (.slice ar n (cn-1)) rfl rfl (by kernel_rfl) (by kernel_rfl) (by kernel_rfl) (fun _ _ _ h=>h) (by kernel_rfl) (fun wz hz=>?_) ?_
  ·go_simp
  try simp only [Act.put,sA,sB,sC]
  refine takeG 10 26 (.pointer (some ⟨ps,0,none⟩)) rfl rfl (by kernel_rfl) (by kernel_rfl) (by kernel_rfl) (fun _ _ _ h=>h) (by kernel_rfl) (fun wz hz=>?_) ?_
  ·rfl
  try simp only [Act.put,sA,sB,sC]
  refine readyG [11] (by kernel_rfl) (by simp) fun w5 hg5=>?_
  have hG5:=HD.out.1.trans hg5
  have hB5:B<w5.heap.size:=(HD.out.2.grow hg5).lt
  have I5:=IH.out (fun b=>P b∧b≠B) R w5 a2 x s ps ar (cn-1) (fun b hb=>⟨HPP.out b (by omega),by omega⟩) (fun h=>?_) HX.out.2.2.1 ((HT.out.2.2.1.lt.mono fun b hb=>⟨hb.1,by have:=hb.2;have:=HB.out;omega⟩).grow hG5) (by rw [HT.out.2.2.2.2.1];exact HR.out.below hG5) (by rw [HT.out.2.2.2.2.1];omega) (fun y hy=>HT.out.2.2.2.2.2.1 y (List.mem_cons_of_mem _ hy))
  case refine_1=>
   obtain ⟨p2,e2,h2⟩:=HX.out.1 h
   injection e2 with e2
   refine ⟨p2,e2,(h2.lt.mono fun b hb=>⟨hb.1,by have:=hb.2;have:=HB.out;omega⟩).grow hG5,HX.out.2.1 h,?_⟩
   have:=HX.out.2.2.2 h
   rw [HT.out.2.2.2.2.1]
   omega
  rw [HT.out.2.2.2.2.1] at I5
  refine AllG.call 11 27 120 #[.pointer a2,.slice ar n (cn-1),.pointer (some ⟨ps,0,none⟩)] rfl rfl (by kernel_rfl) (by go_simp) (I5.mono ?_) AllG.nil
  rintro e w6 ⟨p1,rfl,hp1,hg6⟩
  refine ⟨_,rfl,hg6,?_⟩
  try simp only [Act.put,sA,sB,sC]
  clear I5
  refine takeG 12 8 (.pointer (some ⟨p1,0,none⟩)) rfl rfl (by kernel_rfl) (by kernel_rfl) (by kernel_rfl) (fun _ _ _ h=>h) (by kernel_rfl) (fun wz hz=>?_) ?_
  ·rfl
  try simp only [Act.put,sA,sB,sC]
  refine doneG (by kernel_rfl) (fun w7 hg7=>?_)
  have hG27:=(hg5.trans hg6).trans hg7
  replace c39:=hG27.cell c39
  replace hx0':=hG27.cell hx0'
  have HE:Hid (G w w7∧VarT w7 B (tc t.1 t.2.1 (.pointer ak))∧AtTF (fun b=>P b∧b≠B) (fun b=>R b∨Tr w7 b) w7 p1 (putT x L s).1 (putT x L s).2.1 (putT x L s).2.2):=⟨HD.out.1.trans hG27,HD.out.2.grow hG27,hp1.growO hg7⟩
  clear hp1 hG27 hG5 hB5 hg5 hg6 hg7 HD
  go_upto_region 6 with fail
  refine wp_region_S 10 ?_
  replace c39:=(G.drew w7).cell c39
  replace hx0':=(G.drew w7).cell hx0'
  have HF:Hid (G w w7.drew∧VarT w7.drew B (tc t.1 t.2.1 (.pointer ak))∧AtTF (fun b=>P b∧b≠B) (fun b=>R b∨Tr w7.drew b) w7.drew p1 (putT x L s).1 (putT x L s).2.1 (putT x L s).2.2):=⟨HE.out.1.trans (G.drew w7),HE.out.2.1.grow (G.drew w7),HE.out.2.2.growO (G.drew w7)⟩
  generalize w7.drew=w8 at *
  clear HE
  refine takeS 0 30 (.pointer (some ⟨p,0,none⟩)) rfl rfl (by kernel_rfl) (by kernel_rfl) (by kernel_rfl) (by kernel_rfl) (fun _ _ _ h=>h) (by kernel_rfl) (fun wz hz=>?_) ?_
  ·rfl
  try simp only [Act.put,sA,sB,sC]
  refine takeS 1 31 (.pointer (some ⟨p,0,none⟩)) rfl rfl (by kernel_rfl) (by kernel_rfl) (by kernel_rfl) (by kernel_rfl) (fun _ _ _ h=>h) (by kernel_rfl) (fun wz hz=>?_) ?_
  ·go_simp
  try simp only [Act.put,sA,sB,sC]
  refine takeS 2 32 (.pointer (some ⟨p,39,none⟩)) rfl rfl (by kernel_rfl) (by kernel_rfl) (by kernel_rfl) (by kernel_rfl) (fun _ _ _ h=>h) (by kernel_rfl) (fun wz hz=>?_) ?_
  ·go_simp
  try simp only [Act.put,sA,sB,sC]
  refine takeS 3 33 (.pointer ak) rfl rfl (by kernel_rfl) (by kernel_rfl) (by kernel_rfl) (by kernel_rfl) (fun _ _ _ h=>h) (by kernel_rfl) (fun wz hz=>?_) ?_
  ·have y0:=hz.cell c39;go_simp
  try simp only [Act.put,sA,sB,sC]
  refine takeS 4 34 (.slice (some ad) (n+1) cn) rfl rfl (by kernel_rfl) (by kernel_rfl) (by kernel_rfl) (by kernel_rfl) (fun _ _ _ h=>h) (by kernel_rfl) (fun wz hz=>?_) ?_
  ·rfl
  try simp only [Act.put,sA,sB,sC]
  refine takeS 5 35 (.pointer (some ad)) rfl rfl (by kernel_rfl) (by kernel_rfl) (by kernel_rfl) (by kernel_rfl) (fun _ _ _ h=>h) (by kernel_rfl) (fun wz hz=>?_) ?_
  ·go_simp
  try simp only [Act.put,sA,sB,sC]
  refine takeS 6 36 (.string nm) rfl rfl (by kernel_rfl) (by kernel_rfl) (by kernel_rfl) (by kernel_rfl) (fun _ _ _ h=>h) (by kernel_rfl) (fun wz hz=>?_) ?_
  ·have y0:=hz.cell hx0';go_simp
  try simp only [Act.put,sA,sB,sC]
  refine takeS 7 37 (.pointer (some ⟨p1,0,none⟩)) rfl rfl (by kernel_rfl) (by kernel_rfl) (by kernel_rfl) (by kernel_rfl) (fun _ _ _ h=>h) (by kernel_rfl) (fun wz hz=>?_) ?_
  ·rfl
  try simp only [Act.put,sA,sB,sC]
  refine nextS 8 38 137 #[.pointer ak,.string nm,.pointer (some ⟨p1,0,none⟩)] rfl rfl (by decide) (by kernel_rfl) (by kernel_rfl) (fun wz=>by go_simp) (fun w9 hg9=>?_)
  have hG9:=HF.out.1.trans hg9
  have hB9:B<w9.heap.size:=(HF.out.2.1.grow hg9).lt
  refine (with_any (P:=fun b=>P b∧b≠B) (R:=fun b=>R b∨Tr w8 b) nm (putT x L s).1 (putT x L s).2.1 (putT x L s).2.2 (t.2.2.size+1) t.2.2 (Nat.lt_succ_self _) w9 ak p1 ((HT.out.2.2.2.1.lt.mono fun b hb=>⟨hb.1,by have:=hb.2;have:=HB.out;omega⟩).grow hG9 |>.monoR fun _=>Or.inl) (HF.out.2.2.grow hg9) HT.out.2.1 ?_ (HT.out.2.2.2.2.2.1 nm (by simp)) (fun b hb=>⟨HPP.out b (by omega),by omega⟩)).mono ?_
  ·by_cases hL:L=[]
   ·subst hL
    show t.2.2.size+s.2.2.size≤_
    omega
   ·have h1:=putT_size (s:=s) (HX.out.2.1 hL) HX.out.2.2.1
    have h2:=HX.out.2.2.2 hL
    have h3:=HT.out.2.2.2.2.1
    omega
  rintro e w10 ⟨q,rfl,hq,hg10⟩
  refine ⟨_,rfl,hg10,?_⟩
  try simp only [Act.put,sA,sB,sC]
  refine takeS 9 39 (.pointer (some ⟨B,39,none⟩)) rfl rfl (by kernel_rfl) (by kernel_rfl) (by kernel_rfl) (by kernel_rfl) (fun _ _ _ h=>h) (by kernel_rfl) (fun wz hz=>?_) ?_
  ·go_simp
  try simp only [Act.put,sA,sB,sC]
  refine lastS rfl rfl (by kernel_rfl) (by kernel_rfl) (by kernel_rfl) (fun w11 hg11=>?_)
  have hV:=((HF.out.2.1.grow hg9).grow hg10).grow hg11
  have hc:=jG hV.lies 39 _ (qK ..)
  have hfz:w11.frozen? ⟨B,39,none⟩=false:=by
   have h':w11.heap[B]?=some (.cells (tc t.1 t.2.1 (.pointer ak)) 98 (0,0)):=hV
   simp [World.frozen?,h']
  refine ⟨w11.setCell ⟨B,39,none⟩ (.pointer (some ⟨q,0,none⟩)),by go_simp,?_⟩
  have hG11:=(hG9.trans hg10).trans hg11
  have HQ:=hid (⟨hq.grow hg11,hV,hG11,(hg9.trans hg10).trans hg11⟩:AtF (fun b=>P b∧b≠B) (fun b=>R b∨Tr w8 b) w11 (.pointer (some ⟨q,0,none⟩)) (t.2.2.put nm (putT x L s).1 (putT x L s).2.1 (putT x L s).2.2)∧VarT w11 B (tc t.1 t.2.1 (.pointer ak))∧G w w11∧G w8 w11)
  clear hq hV hc hfz hG11 hg9 hg10 hg11 hG9 hB9
  go_wp2_with fail
  go_ret
  obtain ⟨hq,hV,hG11,hG8⟩:=HQ.out
  obtain ⟨k,hk,hkf,hka⟩:=hq.keepP (w':=w11.setCell ⟨B,39,none⟩ (.pointer (some ⟨q,0,none⟩))) fun b hb=>Below.heap_setCell _ _ _ b hb.2
  rw [HPT.out]
  refine ⟨B,rfl,⟨k,⟨_,(VarT.setKids hV (pk':=.pointer (some ⟨q,0,none⟩))).lies,hk⟩,hkf,K.all_monoR (fun _ h=>h.imp_right fun h=>Tr.setKids hV (h.grow hG8)) (K.all_mono (fun b hb=>hb.1) hka),HPP.out B (Nat.le_refl _),Or.inr ⟨_,VarT.setKids hV⟩⟩,?_⟩
  have hBw:=HB.out
  exact Below.setCell (p:=⟨B,39,none⟩) hG11 (by show w.heap.size≤B;omega) _
variable {P R:Nat→Prop}
theorem names_ok {s:ByteArray} (he:splitE (tl s) 64=0):∀ x∈cutN s,x.size≤255:=by
 unfold splitE at he
 split at he
 ·cases he
 split at he
 ·rename_i h
  intro x hx
  unfold cutN at hx
  obtain ⟨y,hy,rfl⟩:=List.mem_map.1 hx
  have:=List.all_eq_true.1 h y hy
  unfold nameB at this
  have:=(of_decide_eq_true this).2.1
  rw [← jg,qF]
  exact this
 ·cases he
theorem wayE_ok {t:T3} {s:ByteArray} (h:wayE t s=0):splitE (tl s) 64=0∧wayTo t (cutN s):=by
 unfold wayE at h
 split at h
 ·rename_i h1;exact absurd h h1
 ·rename_i h1
  refine ⟨by simpa using h1,?_⟩
  split at h
  ·rename_i h2;rw [h2];trivial
  ·split at h
   ·cases h
   ·rename_i x hx;exact wayTo_of hx
def putE (t s:T3) (q:ByteArray):Int:=if wayE t q≠0 then wayE t q else if 64<(cutN q).length+s.2.2.depth then 43 else 0
theorem depthF_any {p:Nat} {v:Vd} {m:Md} {f:F} {w:World} (h:AtTF P R w p v m f):Calls Tryz.prog 85 #[.pointer (some ⟨p,0,none⟩)] w fun e w'=>e=.returned (.int .i64 f.depth)∧w'=w:=by
 obtain ⟨k,h,rfl,_⟩:=h
 exact depth_any p v m k w h
theorem put_any (p ps:Nat) (t s:T3) (q:ByteArray) (w:World) (ht:AtTF P R w p t.1 t.2.1 t.2.2) (hs:AtTF P R w ps s.1 s.2.1 s.2.2) (hr:t.2.2.rises) (hq:q.size≤1048576) (hb:t.2.2.size+s.2.2.size≤300000) (hP:∀ b,w.heap.size≤b→P b):
  Calls Tryz.prog 122 #[.pointer (some ⟨p,0,none⟩),.string q,.pointer (some ⟨ps,0,none⟩)] w fun e w'=>∃ u,e=.returned (.tuple #[u,.int .i64 (putE t s q)])∧G w w'∧(putE t s q≠0→u=.pointer none)∧(putE t s q=0→∃ p',u=.pointer (some ⟨p',0,none⟩)∧AtTF P (fun b=>R b∨Tr w' b) w' p' (putT t (cutN q) s).1 (putT t (cutN q) s).2.1 (putT t (cutN q) s).2.2):=by
 have C1:=way_any p t q w ht hr hq
 have HT:=hid (⟨ht,hs,hr,hP⟩:AtTF P R w p t.1 t.2.1 t.2.2∧AtTF P R w ps s.1 s.2.1 s.2.2∧t.2.2.rises∧∀ b,w.heap.size≤b→P b)
 obtain ⟨E,hE⟩:∃ E,wayE t q=E:=⟨_,rfl⟩
 have HE:=hid hE
 rw [hE] at C1
 have ld:=F.depth_le_size s.2.2
 clear ht hs hr hE hP
 by_cases h0:E=0
 ·subst h0
  obtain ⟨D,hD⟩:∃ D,s.2.2.depth=D:=⟨_,rfl⟩
  have CD:∀ W,G w W→Calls Tryz.prog 85 #[.pointer (some ⟨ps,0,none⟩)] W fun e w'=>e=.returned (.int .i64 D)∧w'=W:=fun W hW=>by rw [← hD];exact depthF_any (HT.out.2.1.grow hW)
  obtain ⟨N,hN⟩:∃ N,(cutN q).length=N:=⟨_,rfl⟩
  have HN:=hid hN
  have HCD:=hid CD
  rw [hN] at C1
  rw [hD] at ld
  have hN64:N≤64:=by rw [← hN];exact names_few (wayE_ok HE.out).1
  have hsum:IntKind.i64.wrap ((N:Int)+(D:Int))=(N:Int)+(D:Int):=by rw [IntKind.wrap_i64];omega
  by_cases h1:64<N+D
  ·have hS:putE t s q=43:=by unfold putE;rw [if_neg (by rw [HE.out];simp),hN,hD,if_pos h1]
   rw [hS]
   have h1':(64:Int)<(N:Int)+(D:Int):=by omega
   clear hS hN hD CD
   go_enter Tryz.func122,Tryz.ntmps122
   go_wp2_with (first
    | (go_at_call 119;refine C1.mono ?_;rintro e w1 ⟨an,n,cn,rfl,hn,hg1⟩;obtain ⟨rfl,hn2,_⟩:=hn rfl;have HG1:=hid hg1;have CD:=HCD.out w1 hg1;clear hn2 hg1 hn)
    | (go_at_call 85;refine CD.mono ?_;rintro e w2 ⟨rfl,e2⟩;subst e2))
   go_ret2
   exact ⟨_,rfl,HG1.out,fun _=>rfl,fun h=>absurd h (by decide)⟩
  ·have hS:putE t s q=0:=by unfold putE;rw [if_neg (by rw [HE.out];simp),hN,hD,if_neg h1]
   rw [hS]
   have h1':¬ (64:Int)<(N:Int)+(D:Int):=by omega
   clear hS hN hD CD
   go_enter Tryz.func122,Tryz.ntmps122
   go_wp2_with (first
    | (go_at_call 119;refine C1.mono ?_;rintro e w1 ⟨an,n,cn,rfl,hn,hg1⟩;obtain ⟨rfl,hn2,hn3⟩:=hn rfl;have HG1:=hid hg1;have CD:=HCD.out w1 hg1;have HNN:=hid (⟨hn2,hn3⟩:_∧_);clear hn2 hg1 hn hn3)
    | (go_at_call 85;refine CD.mono ?_;rintro e w2 ⟨rfl,e2⟩;subst e2;have CT:=twith_any (cutN q) P R w2 (some ⟨p,0,none⟩) t s ps an cn (fun b hb=>HT.out.2.2.2 b (Nat.le_trans HG1.out.size hb)) (fun _=>⟨p,rfl,HT.out.1.grow HG1.out,HT.out.2.2.1,by rw [HN.out];omega⟩) (wayE_ok HE.out).2 (HT.out.2.1.grow HG1.out) (by rw [HN.out];exact HNN.out.1) (by rw [HN.out];exact hN64) (fun x hx=>Nat.le_trans (names_ok (wayE_ok HE.out).1 x hx) (by decide));rw [HN.out] at CT)
    | (go_at_call 120;refine CT.mono ?_;rintro e w3 ⟨p',rfl,hp',hg3⟩;have HQ:=hid (⟨hp',HG1.out.trans hg3⟩:_∧_);clear hp' hg3))
   go_ret2
   exact ⟨_,rfl,HQ.out.2,fun h=>absurd rfl h,fun _=>⟨p',rfl,HQ.out.1⟩⟩
 ·have hS:putE t s q=E:=by unfold putE;rw [if_pos (by rw [HE.out];exact h0),HE.out]
  rw [hS]
  have h1:(E != 0)=true:=by simpa using h0
  have H0:=hid h0
  clear hS h0
  go_enter Tryz.func122,Tryz.ntmps122
  go_wp2_with (go_at_call 119;refine C1.mono ?_;rintro e w1 ⟨an,n,cn,rfl,_,hg1⟩;have HG1:=hid hg1;clear hg1)
  go_ret2
  exact ⟨_,rfl,HG1.out,fun _=>rfl,fun h=>absurd h H0.out⟩
end Go.Proofs.YthfcanpkhjgomaaGreat
namespace Go.Proofs.YthfcanpkhjgomaaGreat
open Go.RowKit
def sameV (o:Bool) (v w:Vd):Bool:=decide ((if o=true∧w.mode=8 then { v with mode:=8 } else v)=w)
def sameF (o:Bool):F→F→Bool
 | .nil,.nil=>true
 | .cons n v _ k r,.cons n' v' _ k' r'=>decide (n=n')&&(sameV o v v'&&(sameF o k k'&&sameF o r r'))
 | _,_=>false
def sameT (o:Bool) (t u:T3):Bool:=sameV o t.1 u.1&&sameF o t.2.2 u.2.2
theorem F.get_ne {n nm:ByteArray} {v:Vd} {m:Md} {k r:F} (h:nm≠n):(F.cons n v m k r).get nm=r.get nm:=by rw [F.get,if_neg h]
theorem F.get_above2 {n nm:ByteArray}:∀ {f:F},f.above n→(f.get nm).isSome=true→lt n nm
 | .nil,_,h=>by cases h
 | .cons n' _ _ _ r,⟨h1,h2⟩,h=>by
  rw [F.get] at h
  split at h
  ·rename_i e;rw [e];exact h1
  ·exact F.get_above2 h2 h
theorem F.get_cons_eq {n:ByteArray} {v:Vd} {m:Md} {k r:F}:(F.cons n v m k r).get n=some (v,m,k):=by rw [F.get,if_pos rfl]
theorem F.ext_get:∀ {f g:F},f.rises→g.rises→(∀ n,f.get n=g.get n)→f=g
 | .nil,.nil,_,_,_=>rfl
 | .nil,.cons n v m k r,_,_,h=>by have:=h n;rw [F.get_cons_eq] at this;cases this
 | .cons n v m k r,.nil,_,_,h=>by have:=h n;rw [F.get_cons_eq] at this;cases this
 | .cons n v m k r,.cons n' v' m' k' r',hf,hg,h=>by
  have e:n=n':=by
   rcases lt_tri n n' with e | l | l
   ·exact e
   ·have h1:=h n
    rw [F.get_cons_eq,F.get_ne (lt_no l).2] at h1
    have:=F.get_above2 hg.1 (nm:=n) (by rw [← h1];rfl)
    exact absurd this (lt_no l).1
   ·have h1:=h n'
    rw [F.get_cons_eq,F.get_ne (lt_no l).2] at h1
    have:=F.get_above2 hf.1 (nm:=n') (by rw [h1];rfl)
    exact absurd this (lt_no l).1
  subst e
  have h1:=h n
  rw [F.get_cons_eq,F.get_cons_eq] at h1
  injection h1 with h1
  injection h1 with e1 h1
  injection h1 with e2 e3
  subst e1 e2 e3
  have h2:r=r':=F.ext_get hf.2.2 hg.2.2 fun x=>by
   by_cases hx:x=n
   ·subst hx
    rw [F.get_above hf.1,F.get_above hg.1]
   ·have:=h x
    rw [F.get_ne hx,F.get_ne hx] at this
    exact this
  rw [h2]
theorem F.put_above {a nm:ByteArray} {v:Vd} {m:Md} {fk:F} (h:lt a nm):∀ {f:F},f.above a→(f.put nm v m fk).above a
 | .nil,_=>⟨h,trivial⟩
 | .cons n v' m' k' r,⟨h1,h2⟩=>by
  rw [F.put]
  split
  ·exact ⟨h1,h2⟩
  ·split
   ·exact ⟨h,h1,h2⟩
   ·exact ⟨h1,F.put_above h h2⟩
theorem F.put_rises {nm:ByteArray} {v:Vd} {m:Md} {fk:F} (hk:fk.rises):∀ {f:F},f.rises→(f.put nm v m fk).rises
 | .nil,_=>⟨trivial,hk,trivial⟩
 | .cons n v' m' k' r,⟨h1,h2,h3⟩=>by
  rw [F.put]
  rcases lt_tri nm n with e | l | l
  ·rw [if_pos (cmp3_eq.2 e)]
   exact ⟨h1,hk,h3⟩
  ·rw [if_neg (by rw [cmp3_lt l];decide),if_pos (cmp3_lt l)]
   exact ⟨⟨l,F.above_mono l h1⟩,hk,h1,h2,h3⟩
  ·rw [if_neg (by rw [qC l];decide),if_neg (by rw [qC l];decide)]
   exact ⟨F.put_above l h1,h2,F.put_rises hk h3⟩
theorem F.get_put {nm x:ByteArray} {v:Vd} {m:Md} {fk:F}:∀ {f:F},f.rises→(f.put nm v m fk).get x=if x=nm then some (v,m,fk) else f.get x
 | .nil,_=>by simp only [F.put,F.get]
 | .cons n v' m' k' r,⟨h1,h2,h3⟩=>by
  rw [F.put]
  rcases lt_tri nm n with e | l | l
  ·rw [if_pos (cmp3_eq.2 e)]
   subst e
   by_cases hx:x=nm
   ·subst hx;rw [if_pos rfl,F.get_cons_eq]
   ·rw [if_neg hx,F.get_ne hx,F.get_ne hx]
  ·rw [if_neg (by rw [cmp3_lt l];decide),if_pos (cmp3_lt l)]
   by_cases hx:x=nm
   ·subst hx;rw [if_pos rfl,F.get_cons_eq]
   ·rw [if_neg hx,F.get_ne hx]
  ·rw [if_neg (by rw [qC l];decide),if_neg (by rw [qC l];decide)]
   by_cases hx:x=n
   ·subst hx
    rw [F.get_cons_eq,F.get_cons_eq,if_neg (lt_no l).2]
   ·rw [F.get_ne hx,F.get_ne hx,F.get_put h3]
def F.del:F→ByteArray→F
 | .nil,_=>.nil
 | .cons n v m k r,nm=>if nm=n then r else .cons n v m k (r.del nm)
theorem F.del_above {a nm:ByteArray}:∀ {f:F},f.above a→(f.del nm).above a
 | .nil,_=>trivial
 | .cons n v' m' k' r,⟨h1,h2⟩=>by
  rw [F.del]
  split
  ·exact h2
  ·exact ⟨h1,F.del_above h2⟩
theorem F.del_rises {nm:ByteArray}:∀ {f:F},f.rises→(f.del nm).rises
 | .nil,_=>trivial
 | .cons n v' m' k' r,⟨h1,h2,h3⟩=>by
  rw [F.del]
  split
  ·exact h3
  ·exact ⟨F.del_above h1,h2,F.del_rises h3⟩
theorem F.get_del {nm x:ByteArray}:∀ {f:F},f.rises→(f.del nm).get x=if x=nm then none else f.get x
 | .nil,_=>by simp [F.del,F.get]
 | .cons n v' m' k' r,⟨h1,h2,h3⟩=>by
  rw [F.del]
  by_cases e:nm=n
  ·rw [if_pos e]
   subst e
   by_cases hx:x=nm
   ·subst hx;rw [if_pos rfl,F.get_above h1]
   ·rw [if_neg hx,F.get_ne hx]
  ·rw [if_neg e]
   by_cases hx:x=n
   ·subst hx
    rw [F.get_cons_eq,F.get_cons_eq,if_neg (Ne.symm e)]
   ·rw [F.get_ne hx,F.get_ne hx,F.get_del h3]
theorem T3.ext' {t u:T3} (h1:t.1=u.1) (h2:t.2.1=u.2.1) (h3:t.2.2=u.2.2):t=u:=Prod.ext h1 (Prod.ext h2 h3)
theorem putT_rises:∀ {t:T3} {L:List ByteArray} {s:T3},t.2.2.rises→s.2.2.rises→(putT t L s).2.2.rises
 | t,[],s,_,hs=>hs
 | t,nm::L,s,ht,hs=>by
  rw [putT]
  refine F.put_rises ?_ ht
  refine putT_rises ?_ hs
  cases hg:t.2.2.get nm with
  | none=>exact hs
  | some y=>exact (F.rises_get ht hg).1
theorem putT_get {t:T3} {nm x:ByteArray} {L:List ByteArray} {s:T3} (ht:t.2.2.rises):(putT t (nm::L) s).2.2.get x=if x=nm then some (putT ((t.2.2.get nm).getD s) L s) else t.2.2.get x:=by
 rw [putT]
 exact F.get_put ht
def dropT:T3→List ByteArray→T3
 | t,[]=>t
 | t,[nm]=>(t.1,t.2.1,t.2.2.del nm)
 | t,nm::b::L=>match t.2.2.get nm with
  | none=>t
  | some y=>(t.1,t.2.1,t.2.2.put nm (dropT y (b::L)).1 (dropT y (b::L)).2.1 (dropT y (b::L)).2.2)
theorem dropT_rises:∀ {t:T3} {L:List ByteArray},t.2.2.rises→(dropT t L).2.2.rises
 | t,[],h=>h
 | t,[nm],h=>F.del_rises h
 | t,nm::b::L,h=>by
  rw [dropT]
  cases hg:t.2.2.get nm with
  | none=>exact h
  | some y=>exact F.put_rises (dropT_rises (F.rises_get h hg).1) h
theorem dropT_val:∀ {t:T3} {L:List ByteArray},(dropT t L).1=t.1∧(dropT t L).2.1=t.2.1
 | t,[]=>⟨rfl,rfl⟩
 | t,[nm]=>⟨rfl,rfl⟩
 | t,nm::b::L=>by
  rw [dropT]
  split<;>exact ⟨rfl,rfl⟩
theorem dropT_get {t y:T3} {nm b x:ByteArray} {L:List ByteArray} (ht:t.2.2.rises) (hy:t.2.2.get nm=some y):(dropT t (nm::b::L)).2.2.get x=if x=nm then some (dropT y (b::L)) else t.2.2.get x:=by
 rw [dropT,hy]
 exact F.get_put ht
theorem dropT_get1 {t:T3} {nm x:ByteArray} (ht:t.2.2.rises):(dropT t [nm]).2.2.get x=if x=nm then none else t.2.2.get x:=F.get_del ht
def val (t:T3) (L:List ByteArray):Option (Vd × Md):=(dn t L).map fun x=>(x.1,x.2.1)
theorem qO (t:T3):val t []=some (t.1,t.2.1):=rfl
theorem jY (t:T3) (n:ByteArray) (L:List ByteArray):val t (n::L)=(t.2.2.get n).bind fun s=>val s L:=by
 unfold val
 rw [dn]
 cases t.2.2.get n<;>rfl
theorem val_none {t:T3} {L:List ByteArray}:val t L=none↔dn t L=none:=by unfold val;simp
theorem val_app (t:T3) (L M:List ByteArray):val t (L++M)=(dn t L).bind fun s=>val s M:=by
 unfold val
 rw [dn_app]
 cases dn t L<;>rfl
theorem val_some {t s:T3} {L:List ByteArray} (h:dn t L=some s):val t L=some (s.1,s.2.1):=by unfold val;rw [h];rfl
theorem dn_some {t:T3} {L:List ByteArray} {x:Vd × Md} (h:val t L=some x):∃ s,dn t L=some s∧x=(s.1,s.2.1):=by
 unfold val at h
 cases e:dn t L with
 | none=>rw [e] at h;cases h
 | some s=>rw [e] at h;exact ⟨s,rfl,(Option.some.inj h).symm⟩
theorem val_putT:∀ {t:T3} {L:List ByteArray} {s:T3},t.2.2.rises→s.2.2.rises→wayTo t L→(∀ n N,val s (n::N)=val t (L++n::N))→∀ M,val (putT t L s) M=if M=L then some (s.1,s.2.1) else val t M
 | t,[],s,_,_,_,h,M=>by
  rw [putT]
  cases M with
  | nil=>rw [if_pos rfl,qO]
  | cons n N=>rw [if_neg (by simp),h];rfl
 | t,nm::L,s,ht,hs,hw,h,M=>by
  cases M with
  | nil=>rw [if_neg (by simp)];rfl
  | cons x N=>
   rw [jY,jY,putT_get ht]
   by_cases hx:x=nm
   ·subst hx
    rw [if_pos rfl,Option.bind_some]
    cases e:t.2.2.get x with
    | some y=>
     rw [Option.getD_some,Option.bind_some]
     have hy:y.2.2.rises:=(F.rises_get ht e).1
     have hw2:wayTo y L:=by
      rcases hw with rfl | ⟨s',q1,q2⟩
      ·trivial
      ·rw [e] at q1;cases q1;exact q2
     rw [val_putT hy hs hw2 (fun n N=>by rw [h,List.cons_append,jY,e];rfl) N]
     by_cases hN:N=L
     ·rw [if_pos hN,if_pos (by rw [hN])]
     ·rw [if_neg hN,if_neg (by intro q;injection q;contradiction)]
    | none=>
     obtain rfl:L=[]:=by
      rcases hw with rfl | ⟨s',q1,_⟩
      ·rfl
      ·rw [e] at q1;cases q1
     rw [Option.getD_none,putT]
     cases N with
     | nil=>rw [if_pos rfl,qO]
     | cons n N=>rw [if_neg (by simp),h,List.cons_append,jY,e];rfl
   ·rw [if_neg hx,if_neg (by intro q;injection q;contradiction)]
theorem F.nil_of_depth:∀ {f:F},f.depth=0→f=.nil
 | .nil,_=>rfl
 | .cons _ _ _ k r,h=>by simp [F.depth] at h
theorem val_dropT:∀ {t:T3} {L:List ByteArray} {s:T3},L≠[]→t.2.2.rises→dn t L=some s→s.2.2=.nil→∀ M,val (dropT t L) M=if M=L then none else val t M
 | t,[nm],s,_,ht,hd,hk,M=>by
  cases M with
  | nil=>rw [if_neg (by simp),qO,qO,dropT]
  | cons x N=>
   rw [jY,jY,dropT_get1 ht]
   rw [dn] at hd
   by_cases hx:x=nm
   ·subst hx
    rw [if_pos rfl,Option.bind_none]
    cases N with
    | nil=>rw [if_pos rfl]
    | cons n N=>
     rw [if_neg (by simp)]
     cases e:t.2.2.get x with
     | none=>rfl
     | some y=>
      rw [e,Option.bind_some,dn] at hd
      cases hd
      rw [Option.bind_some,jY,hk,F.get]
      rfl
   ·rw [if_neg hx,if_neg (by intro q;injection q;contradiction)]
 | t,nm::b::L,s,_,ht,hd,hk,M=>by
  rw [dn] at hd
  cases e:t.2.2.get nm with
  | none=>rw [e] at hd;cases hd
  | some y=>
   rw [e,Option.bind_some] at hd
   cases M with
   | nil=>rw [if_neg (by simp),qO,qO,dropT_val.1,dropT_val.2]
   | cons x N=>
    rw [jY,jY,dropT_get ht e]
    by_cases hx:x=nm
    ·subst hx
     rw [if_pos rfl,Option.bind_some,e,Option.bind_some,val_dropT (by simp) (F.rises_get ht e).1 hd hk N]
     by_cases hN:N=b::L
     ·rw [if_pos hN,if_pos (by rw [hN])]
     ·rw [if_neg hN,if_neg (by intro q;injection q;contradiction)]
    ·rw [if_neg hx,if_neg (by intro q;injection q;contradiction)]
theorem F.ext_val:∀ (Z:Nat) {f g:F},f.size<Z→f.rises→g.rises→(∀ n N,(f.get n).bind (fun s=>val s N)=(g.get n).bind fun s=>val s N)→f=g:=by
 intro Z
 induction Z with
 | zero=>intro f g h;omega
 | succ Z ih=>
  intro f g hZ hf hg h
  refine F.ext_get hf hg fun n=>?_
  cases ef:f.get n with
  | none=>
   cases eg:g.get n with
   | none=>rfl
   | some y=>have:=h n [];rw [ef,eg] at this;cases this
  | some x=>
   cases eg:g.get n with
   | none=>have:=h n [];rw [ef,eg] at this;cases this
   | some y=>
    have h0:=h n []
    rw [ef,eg] at h0
    injection h0 with h0
    injection h0 with h1 h2
    have hx:=F.rises_get hf ef
    have hy:=F.rises_get hg eg
    have h3:x.2.2=y.2.2:=ih (by omega) hx.1 hy.1 fun m M=>by
     have:=h n (m::M)
     rw [ef,eg] at this
     simpa only [Option.bind_some,jY] using this
    rw [T3.ext' h1 h2 h3]
theorem T3.ext_val {t u:T3} (ht:t.2.2.rises) (hu:u.2.2.rises) (h:∀ M,val t M=val u M):t=u:=by
 have h0:=h []
 injection h0 with h0
 injection h0 with h1 h2
 exact T3.ext' h1 h2 (F.ext_val _ (Nat.lt_succ_self _) ht hu fun n N=>by have:=h (n::N);rwa [jY,jY] at this)
end Go.Proofs.YthfcanpkhjgomaaGreat
