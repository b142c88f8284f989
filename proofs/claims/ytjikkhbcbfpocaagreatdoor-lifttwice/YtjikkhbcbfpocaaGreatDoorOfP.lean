import Derived.Test.YtjikkhbcbfpocaaGreatDoorEachQ
set_option maxRecDepth 100000
set_option maxHeartbeats 1000000
namespace Go.Proofs.YtjikkhbcbfpocaaGreatDoor
open Go.RowKit
def Tr (w:World) (p:Nat):Prop:=∃ c,w.heap[p]?=some (.cells c 83 (0,0))
theorem Tr.grow {w w':World} {p:Nat} (h:Tr w p) (hg:G w w'):Tr w' p:=by
 obtain ⟨c,h⟩:=h
 exact ⟨c,(hg.block p (gS h)).trans h⟩
def K.plain (w:World):K→Prop
 | .nil=>True
 | .node _ p _ _ _ kids ah be=>Tr w p∧K.plain w kids∧K.plain w ah∧K.plain w be
theorem K.plain_grow {w w':World} (hg:G w w'):∀ {k:K},k.plain w→k.plain w'
 | .nil,_=>trivial
 | .node _ _ _ _ _ _ _ _,⟨h1,h2,h3,h4⟩=>⟨h1.grow hg,K.plain_grow hg h2,K.plain_grow hg h3,K.plain_grow hg h4⟩
def cX (f:F):Prop:=∀ (v:Value) (w:World),HasS w v f→f.okL→Calls Tryz.prog 79 #[v] w fun e w'=>∃ k u,e=.returned u∧At w' k u∧k.flat=f∧G w w'∧k.plain w'
theorem gZ (g o:Nat) (nm:ByteArray) (v:Vd) (m:Md) (kv:Value) (ks:F) (w:World) (hl:Lies w g o (nc nm v m kv)) (hS:HasS w kv ks) (hok:ks.okL) (ih:cX ks):
  Calls Tryz.prog 51 #[.pointer (some ⟨g,o,none⟩)] w fun e w'=>∃ p k,e=.returned (.pointer (some ⟨p,0,none⟩))∧AtT w' p v m k∧k.flat=ks∧G w w'∧k.plain w'∧Tr w' p:=by
 obtain ⟨a,cap,rfl,_⟩:=hS.form
 have CK:=hid (fun (W:World) (hW:G w W)=>ih _ W (hS.below hW) hok)
 have c40:=yl hl
 have HL0:Hid (Lies w g (o+1) (vx v).toArray∧Lies w g (o+36) (mx m).toArray):=⟨bQ hl,zo hl⟩
 clear hl hS ih
 obtain ⟨N,hN⟩:∃ N,ks.len=N:=⟨_,rfl⟩
 rw [hN] at CK c40
 clear hN
 go_enter Tryz.func51,Tryz.ntmps51
 go_upto_region 1 with fail
 refine qO ?_
 have d40:=(G.drew w).cell c40
 have L:Hid (Lies w.drew g (o+1) (vx v).toArray∧Lies w.drew g (o+36) (mx m).toArray):=⟨(G.drew w).lies HL0.o.1,(G.drew w).lies HL0.o.2⟩
 have HD:Hid (G w w.drew):=G.drew w
 generalize w.drew=w2 at *
 refine fG 0 3 (.pointer (some ⟨g,o,none⟩)) ?_
 refine gG 1 4 (.pointer (some ⟨g,o,none⟩)) ?_
 refine gG 2 5 (.pointer (some ⟨g,o+1,none⟩)) ?_
 refine qx 3 6 (.agg (vx v).toArray) (fun wz hz=>?_) ?_
 ·exact jJ _ rfl g (o+1) rfl _ (by simp [je]) (hz.lies L.o.1)
 refine fG 4 7 (.pointer (some ⟨g,o,none⟩)) ?_
 refine gG 5 8 (.pointer (some ⟨g,o,none⟩)) ?_
 refine gG 6 9 (.pointer (some ⟨g,o+36,none⟩)) ?_
 refine qx 7 10 (.agg (mx m).toArray) (fun wz hz=>?_) ?_
 ·exact jZ _ rfl g (o+36) rfl _ (by simp [qh]) (hz.lies L.o.2)
 refine fG 8 11 (.pointer (some ⟨g,o,none⟩)) ?_
 refine gG 9 12 (.pointer (some ⟨g,o,none⟩)) ?_
 refine gG 10 13 (.pointer (some ⟨g,o+40,none⟩)) ?_
 refine qx 11 14 (.slice a N cap) (fun wz hz=>?_) ?_
 ·have y0:=hz.cell d40;go_simp
 refine xo [12] (by kernel_rfl) (by simp) (fun w3 hg3=>?_)
 refine AllG.call 12 15 79 #[.slice a N cap] rfl rfl (by kernel_rfl) (by go_simp) ((CK.o w3 (HD.o.trans hg3)).mono ?_) AllG.nil
 rintro e w4 ⟨k,u,rfl,hk,hf,hg4,hpl⟩
 refine ⟨u,rfl,hg4,?_⟩
 obtain ⟨au,rfl⟩:=hk.form
 have HK:Hid (At w4 k (.pointer au)∧k.flat=ks∧G w w4∧k.plain w4):=⟨hk,hf,(HD.o.trans hg3).trans hg4,hpl⟩
 clear hpl hk hf hg4 hg3 d40
 try simp only [Act.put,sA,sB,sC]
 refine qx 13 16 (.agg (tc v m (.pointer au))) (fun wz hz=>?_) ?_
 ·exact eF _ rfl v m (.pointer au) rfl (by go_simp) _
 refine xo [14] (by kernel_rfl) (by simp) (fun w5 hg5=>?_)
 refine AllG.value 14 17 (.pointer (some ⟨w5.heap.size,0,none⟩)) (w5.alloc (.cells (tc v m (.pointer au)) 83)) rfl rfl (by kernel_rfl) (iq _ rfl _ rfl _) (G.alloc _ _) ?_ AllG.nil
 try simp only [Act.put,sA,sB,sC]
 have HL:Hid (Lies (w5.alloc (.cells (tc v m (.pointer au)) 83)) w5.heap.size 0 (tc v m (.pointer au))):=jW _ _ _
 have HTr:Hid (Tr (w5.alloc (.cells (tc v m (.pointer au)) 83)) w5.heap.size):=⟨_,World.alloc_heap_new _ _⟩
 have HW:Hid (G w4 (w5.alloc (.cells (tc v m (.pointer au)) 83))):=hg5.trans (G.alloc _ _)
 generalize w5.alloc (.cells (tc v m (.pointer au)) 83)=w6 at *
 generalize w5.heap.size=q at *
 refine fG 15 2 (.pointer (some ⟨q,0,none⟩)) ?_
 refine bL (by kernel_rfl) (fun w7 hg7=>?_)
 go_wp2_with fail
 go_ret
 have hg:=HW.o.trans hg7
 exact ⟨q,k,rfl,⟨_,hg7.lies HL.o,HK.o.1.grow hg⟩,HK.o.2.1,HK.o.2.2.1.trans hg,K.plain_grow hg HK.o.2.2.2,HTr.o.grow hg7⟩
theorem es:∀ (Z:Nat) (f:F),f.size<Z→cX f:=by
 intro Z
 induction Z with
 | zero=>intro f h;omega
 | succ Z ih=>
  intro f hZ v w hS hok
  obtain ⟨a,cap,rfl,hcap⟩:=hS.form
  obtain ⟨N,hN⟩:∃ N,f.len=N:=⟨_,rfl⟩
  have hN2:N≤9223372036854775807:=by have:=f.len_le_size;unfold F.okL at hok;omega
  by_cases h0:N=0
  ·have hf:f=.nil:=by
    cases f with
    | nil=>rfl
    | cons=>simp [F.len] at hN;omega
   rw [hN]
   subst h0
   go_enter Tryz.func79,Tryz.ntmps79
   go_wp2_with fail
   go_ret
   exact ⟨.nil,_,rfl,rfl,hf.symm,G.refl w,trivial⟩
  ·have hlt:N/2<N:=by omega
   obtain ⟨half,hh⟩:∃ half,N/2=half:=⟨_,rfl⟩
   rw [hh] at hlt
   obtain ⟨_,_,he,_,hr⟩:=id hS
   rcases hr with hr | ⟨g,o,ha,hr⟩
   ·subst hr;simp [F.len] at hN;omega
   obtain rfl:a=some ⟨g,o,none⟩:=by injection he with e1;rw [e1,ha]
   clear he ha
   obtain ⟨g',o',cap',nm,vv,m,ks,c,hv,hd,hNN,hc⟩:=hS.at (k:=half) (by omega)
   obtain ⟨rfl,rfl⟩:g'=g∧o'=o:=by injection hv with e1;injection e1 with e2;injection e2 with e3 e4;exact ⟨e3.symm,e4.symm⟩
   clear hv
   obtain ⟨kv,rfl,hSk⟩:=hNN
   have hsz:=F.split_size hd
   have hok':∀ x:F,x.size≤f.size→x.okL:=fun x hx=>by unfold F.okL at *;omega
   have n0:w.cell? ⟨g',o'+half*41,none⟩=some (.string nm):=hc 0 _ (kY ..)
   have hT:HasS w (.slice (some ⟨g',o',none⟩) half cap) (f.take half):=⟨_,_,by rw [F.bP f half (by omega)],by rw [F.bP f half (by omega)];omega,.inr ⟨g',o',rfl,hr.take⟩⟩
   obtain ⟨AA,hAA⟩:∃ AA,(if cap=half+1 then some (⟨g',o',none⟩:Addr) else some ⟨g',o'+(half+1)*41,none⟩)=AA:=⟨_,rfl⟩
   obtain ⟨N2,hN2'⟩:∃ N2,N-(half+1)=N2:=⟨_,rfl⟩
   obtain ⟨cap2,hcap2⟩:∃ c2,cap-(half+1)=c2:=⟨_,rfl⟩
   have hU:HasS w (.slice AA N2 cap2) (f.drop (half+1)):=by
    refine ⟨_,_,by rw [F.xg,hN,hN2'],by rw [F.xg];omega,?_⟩
    by_cases hce:cap=half+1
    ·left
     exact F.zn f _ (by omega)
    ·right
     rw [if_neg hce] at hAA
     exact ⟨_,_,hAA.symm,hr.drop⟩
   have C1:=hid (fun (W:World) (hW:G w W)=>ih (f.take half) (by omega) _ W (hT.below hW) (hok' _ (by omega)))
   have C2:=hid (fun (W:World) (hW:G w W)=>gZ g' (o'+half*41) nm vv m kv ks W (hW.lies hc) (hSk.below hW) (hok' _ (by omega)) (ih ks (by omega)))
   have C3:=hid (fun (W:World) (hW:G w W)=>ih (f.drop (half+1)) (by omega) _ W (hU.below hW) (hok' _ (by omega)))
   have HSZ:Hid ((f.take half).size+(f.drop (half+1)).size+ks.size+1≤9223372036854775807):=by show _≤_;unfold F.okL at hok;omega
   have HFF:Hid ((f.take half).app (.cons nm vv m ks (f.drop (half+1)))=f):=by show _=_;rw [← hd];exact F.yv f half
   generalize hg':g'=g at *
   generalize ho':o'=o at *
   rw [hN] at hcap
   obtain ⟨half1,hh1⟩:∃ h1,half+1=h1:=⟨_,rfl⟩
   have q1:(N:Int).tdiv 2=(half:Int):=by rw [← hh];exact Int.ofNat_tdiv N 2
   have q2:IntKind.i64.wrap ((half:Int)+1)=(half1:Int):=by rw [← hh1,IntKind.wrap_i64];omega
   have q3:(half:Int)<(N:Int):=by omega
   have q4:(half:Int)≤(cap:Int):=by omega
   have q5:(half1:Int)≤(N:Int):=by omega
   have q6:(N:Int)≤(cap:Int):=by omega
   have q7:¬ (N:Int)=0:=by omega
   have HAA:Hid (((if cap=half+1 then some (⟨g,o,none⟩:Addr) else some ⟨g,o+(half+1)*41,none⟩)=AA)∧N-(half+1)=N2∧cap-(half+1)=cap2∧half+1=half1):=⟨hAA,hN2',hcap2,hh1⟩
   rw [hN]
   clear hS hr hd hSk hc hT hU hAA hN2' hcap2 hh1 hN ih hsz hok' hh hok hZ
   go_enter Tryz.func79,Tryz.ntmps79
   go_upto_region 4 with fail
   refine qO ?_
   have d0:=(G.drew w).cell n0
   have HD:Hid (G w w.drew):=G.drew w
   generalize w.drew=w2 at *
   refine fG 0 10 (.slice (some ⟨g,o,none⟩) N cap) ?_
   refine fG 1 11 (.int .i64 (half:Int)) ?_
   refine gG 2 12 (.slice (some ⟨g,o,none⟩) half cap) ?_
   refine fG 4 14 (.slice (some ⟨g,o,none⟩) N cap) ?_
   refine fG 5 15 (.int .i64 (half:Int)) ?_
   refine gG 6 16 (.pointer (some ⟨g,o+half*41,none⟩)) ?_
   refine gG 7 17 (.pointer (some ⟨g,o+half*41,none⟩)) ?_
   refine qx 8 18 (.string nm) (fun wz hz=>?_) ?_
   ·have y0:=hz.cell d0;go_simp
   refine fG 9 19 (.slice (some ⟨g,o,none⟩) N cap) ?_
   refine fG 10 20 (.int .i64 (half:Int)) ?_
   refine gG 11 21 (.pointer (some ⟨g,o+half*41,none⟩)) ?_
   refine fG 14 24 (.slice (some ⟨g,o,none⟩) N cap) ?_
   refine fG 15 25 (.int .i64 (half:Int)) ?_
   refine gG 16 26 (.int .i64 (half1:Int)) ?_
   refine qx 17 27 (.slice AA N2 cap2) (fun wz hz=>?_) ?_
   ·(go_simp;obtain ⟨e1,e2,e3,e4⟩:=HAA.o;subst e4;exact ⟨e1,e2,e3⟩)
   refine xo [3] (by kernel_rfl) (by simp) (fun w3 hg3=>?_)
   refine AllG.call 3 13 79 #[.slice (some ⟨g,o,none⟩) half cap] rfl rfl (by kernel_rfl) (by go_simp) ((C1.o w3 (HD.o.trans hg3)).mono ?_) AllG.nil
   rintro e w4 ⟨k1,u1,rfl,hk,hf,hg4,hpl⟩
   refine ⟨u1,rfl,hg4,?_⟩
   obtain ⟨a1,rfl⟩:=hk.form
   have HK1:Hid (At w4 k1 (.pointer a1)∧k1.flat=f.take half∧G w w4∧k1.plain w4):=⟨hk,hf,(HD.o.trans hg3).trans hg4,hpl⟩
   clear hpl hk hf hg4 hg3
   try simp only [Act.put,sA,sB,sC]
   refine xo [12] (by kernel_rfl) (by simp) (fun w5 hg5=>?_)
   refine AllG.call 12 22 51 #[.pointer (some ⟨g,o+half*41,none⟩)] rfl rfl (by kernel_rfl) (by go_simp) ((C2.o w5 (HK1.o.2.2.1.trans hg5)).mono ?_) AllG.nil
   rintro e w6 ⟨p,kk,rfl,hk,hf,hg6,hpl,htr⟩
   refine ⟨.pointer (some ⟨p,0,none⟩),rfl,hg6,?_⟩
   have HK2:Hid (AtT w6 p vv m kk∧kk.flat=ks∧G w w6∧G w4 w6∧kk.plain w6∧Tr w6 p):=⟨hk,hf,(HK1.o.2.2.1.trans hg5).trans hg6,hg5.trans hg6,hpl,htr⟩
   clear hpl htr hk hf hg6 hg5
   try simp only [Act.put,sA,sB,sC]
   refine gG 13 23 (.agg #[.string nm,.pointer (some ⟨p,0,none⟩)]) ?_
   refine xo [18] (by kernel_rfl) (by simp) (fun w7 hg7=>?_)
   refine AllG.call 18 28 79 #[.slice AA N2 cap2] rfl rfl (by kernel_rfl) (by go_simp) ((C3.o w7 (HK2.o.2.2.1.trans hg7)).mono ?_) AllG.nil
   rintro e w8 ⟨k2,u2,rfl,hk,hf,hg8,hpl⟩
   refine ⟨u2,rfl,hg8,?_⟩
   obtain ⟨a2,rfl⟩:=hk.form
   have HK3:Hid (At w8 k2 (.pointer a2)∧k2.flat=f.drop (half+1)∧G w w8∧G w6 w8∧k2.plain w8):=⟨hk,hf,(HK2.o.2.2.1.trans hg7).trans hg8,hg7.trans hg8,hpl⟩
   clear hpl hk hf hg8 hg7
   try simp only [Act.put,sA,sB,sC]
   refine xo [19] (by kernel_rfl) (by simp) (fun w9 hg9=>?_)
   have CJ:=sy k1 k2 kk (.pointer a1) (.pointer a2) nm p vv m w9 (HK1.o.1.grow ((HK2.o.2.2.2.1.trans HK3.o.2.2.2.1).trans hg9)) (HK3.o.1.grow hg9) (HK2.o.1.grow (HK3.o.2.2.2.1.trans hg9)) (by rw [HK1.o.2.1,HK2.o.2.1,HK3.o.2.1];exact HSZ.o)
   refine AllG.call 19 29 115 #[.pointer a1,.agg #[.string nm,.pointer (some ⟨p,0,none⟩)],.pointer a2] rfl rfl (by kernel_rfl) (by go_simp) (CJ.mono ?_) AllG.nil
   rintro e w10 ⟨q,rfl,hq,hg10⟩
   refine ⟨.pointer (some ⟨q,0,none⟩),rfl,hg10,?_⟩
   have HQ:Hid (At w10 (K.node q p nm vv m kk k1 k2) (.pointer (some ⟨q,0,none⟩))∧G w w10∧G w8 w10):=⟨hq,(HK3.o.2.2.1.trans hg9).trans hg10,hg9.trans hg10⟩
   clear hq hg10 hg9 CJ
   try simp only [Act.put,sA,sB,sC]
   refine fG 20 2 (.pointer (some ⟨q,0,none⟩)) ?_
   refine bL (by kernel_rfl) (fun w11 hg11=>?_)
   go_wp2_with fail
   go_ret
   have g8:=HQ.o.2.2.trans hg11
   have g6:=HK3.o.2.2.2.1.trans g8
   have g4:=HK2.o.2.2.2.1.trans g6
   refine ⟨_,_,rfl,HQ.o.1.grow hg11,?_,HQ.o.2.1.trans hg11,HK2.o.2.2.2.2.2.grow g6,K.plain_grow g6 HK2.o.2.2.2.2.1,K.plain_grow g4 HK1.o.2.2.2,K.plain_grow g8 HK3.o.2.2.2.2⟩
   rw [K.flat,HK1.o.2.1,HK2.o.2.1,HK3.o.2.1]
   exact HFF.o
def OfResP (w:World) (u:Value) (ce:Int) (v:Vd) (m:Md) (ks:F):Prop:=(ce≠0∧u=.pointer none)∨(ce=0∧∃ p k,u=.pointer (some ⟨p,0,none⟩)∧AtT w p v m k∧k.flat=ks∧k.plain w∧Tr w p)
theorem cY (c:Array Value) (nm:ByteArray) (v:Vd) (m:Md) (ks:F) (w:World) (hN:HasN w c nm v m ks) (hw:ks.weight≤100000):
  Calls Tryz.prog 29 #[.agg c] w fun e w'=>∃ u,e=.returned (.tuple #[u,.int .i64 (qL v m ks)])∧G w w'∧OfResP w' u (qL v m ks) v m ks:=by
 have hB:G w (w.alloc (.cells c 30)):=G.alloc _ _
 have C1:=nX c nm v m ks (w.alloc (.cells c 30)) (hN.below hB) hw
 obtain ⟨kv,hc,hS⟩:=hN
 have hl:=jW w c 30
 have HL:Hid (Lies (w.alloc (.cells c 30)) w.heap.size 0 c∧c.size=41):=⟨hl,by rw [hc];exact jO ..⟩
 have C2:=hid (fun (W:World) (hW:G (w.alloc (.cells c 30)) W)=>gZ w.heap.size 0 nm v m kv ks W (by have:=hW.lies hl;rw [hc] at this;exact this) ((hS.below hB).below hW) (F.okL_of_weight _ (by omega)) (es (ks.size+1) ks (Nat.lt_succ_self _)))
 have HG:Hid (G w (w.alloc (.cells c 30))):=hB
 generalize mU v m ks=cp at *
 generalize qL v m ks=ce at *
 clear hl hc hS hB hw
 go_enter Tryz.func29,Tryz.ntmps29
 go_upto_region 1 with fail
 generalize w.alloc (.cells c 30)=w1 at *
 generalize w.heap.size=H at *
 by_cases h0:ce=0
 ·subst h0
  go_wp2_with (first
   | (with_reducible refine jA (.agg c) ?_ ?_;exact jK _ rfl H 0 rfl c HL.o.2 HL.o.1)
   | (go_at_call 50;refine C1.mono ?_;rintro e w2 ⟨rfl,g2⟩;have CM:=C2.o w2 g2;have HG2:Hid (G w w2):=HG.o.trans g2;clear C1 C2 g2)
   | (go_at_call 51;refine CM.mono ?_;rintro e w3 ⟨p,k,rfl,h3⟩;have H3:=hid h3;clear h3 CM))
  go_ret2
  exact ⟨_,rfl,HG2.o.trans H3.o.2.2.1,.inr ⟨rfl,p,k,rfl,H3.o.1,H3.o.2.1,H3.o.2.2.2⟩⟩
 ·have h0':(ce !=0)=true:=by simpa using h0
  have H0:Hid (ce≠0):=h0
  clear h0
  go_wp2_with (first
   | (with_reducible refine jA (.agg c) ?_ ?_;exact jK _ rfl H 0 rfl c HL.o.2 HL.o.1)
   | (go_at_call 50;refine C1.mono ?_;rintro e w2 ⟨rfl,g2⟩;have HG2:Hid (G w w2):=HG.o.trans g2;clear C1 C2 g2))
  go_ret2
  exact ⟨_,rfl,HG2.o,.inl ⟨H0.o,rfl⟩⟩
end Go.Proofs.YtjikkhbcbfpocaaGreatDoor
