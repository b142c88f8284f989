import Derived.Test.YtjikkhbcbfpocaaGreatDoorBuild
set_option maxRecDepth 100000
set_option maxHeartbeats 1000000
namespace Go.Proofs.YtjikkhbcbfpocaaGreatDoor
open Go.RowKit
theorem cD (p:Nat) (v:Vd) (m:Md) (k:K) (w:World) (h:AtT w p v m k) (hs:k.flat.size+1≤9223372036854775807):Calls Tryz.prog 18 #[.pointer (some ⟨p,0,none⟩)] w fun e w'=>e=.returned (.int .i64 ((1+k.flat.size:Nat):Int))∧w'=w:=by
 obtain ⟨pk,h1,h2⟩:=h
 have c39:=jB h1 39 _ (zi ..)
 have C1:=am k pk w h2
 obtain ⟨a,rfl⟩:=h2.form
 have C2:=fL 1 k.flat.size w (by omega)
 generalize hr:((1+k.flat.size:Nat):Int)=r at *
 clear hr h1 h2
 generalize k.flat.size=n at *
 go_enter Tryz.func18,Tryz.ntmps18
 go_wp2_with (first
  | (go_at_call 44;refine C1.mono ?_;rintro e w1 ⟨rfl,e1⟩;subst e1)
  | (go_at_call 43;refine C2.mono ?_;rintro e w1 ⟨rfl,e1⟩;subst e1))
 go_ret
 exact ⟨rfl,rfl⟩
theorem pM (p:Nat) (v:Vd) (m:Md) (k:K) (w:World) (h:AtT w p v m k):Calls Tryz.prog 151 #[.pointer (some ⟨p,0,none⟩)] w fun e w'=>e=.returned (.int .i64 k.flat.depth)∧w'=w:=by
 obtain ⟨pk,h1,h2⟩:=h
 have c39:=jB h1 39 _ (zi ..)
 have C1:=ap k pk w h2
 obtain ⟨a,rfl⟩:=h2.form
 clear h1 h2
 generalize k.flat.depth=n at *
 go_enter Tryz.func151,Tryz.ntmps151
 go_wp2_with (go_at_call 150;refine C1.mono ?_;rintro e w1 ⟨rfl,e1⟩;subst e1)
 go_ret
 exact ⟨rfl,rfl⟩
theorem Calls.grown {f:FuncId} {args:Array Value} {w:World} {v:Value} (h:Calls Tryz.prog f args w fun e w'=>e=.returned v∧w'=w):Calls Tryz.prog f args w fun e w'=>e=.returned v∧G w w':=
 h.mono fun e w' h=>⟨h.1,by rw [h.2];exact G.refl w⟩
theorem sy (ka kb kk:K) (ua ub:Value) (nm:ByteArray) (p:Nat) (v:Vd) (m:Md) (w:World) (ha:At w ka ua) (hb:At w kb ub) (hk:AtT w p v m kk) (hs:ka.flat.size+kb.flat.size+kk.flat.size+1≤9223372036854775807):
  Calls Tryz.prog 115 #[ua,.agg #[.string nm,.pointer (some ⟨p,0,none⟩)],ub] w fun e w'=>∃ q,e=.returned (.pointer (some ⟨q,0,none⟩))∧At w' (K.node q p nm v m kk ka kb) (.pointer (some ⟨q,0,none⟩))∧G w w':=by
 obtain ⟨aa,rfl⟩:=ha.form
 obtain ⟨ab,rfl⟩:=hb.form
 have l1:=F.len_le_size ka.flat
 have l2:=F.len_le_size kb.flat
 have l3:=F.depth_le_size ka.flat
 have l4:=F.depth_le_size kb.flat
 have l5:=F.depth_le_size kk.flat
 have HF:Hid ((K.node 0 p nm v m kk ka kb).flat.len=ka.flat.len+1+kb.flat.len∧(K.node 0 p nm v m kk ka kb).flat.size=(1+kk.flat.size)+(ka.flat.size+kb.flat.size)∧(K.node 0 p nm v m kk ka kb).flat.depth=max (max ka.flat.depth (kk.flat.depth+1)) kb.flat.depth):=by
  refine ⟨?_,?_,?_⟩
  ·rw [K.flat,F.aV,F.len];omega
  ·rw [K.flat,F.app_size,F.size];omega
  ·rw [K.flat,F.app_depth,F.depth];omega
 have HQ:Hid (∀ q,(K.node q p nm v m kk ka kb).flat=(K.node 0 p nm v m kk ka kb).flat):=fun q=>rfl
 have C1:=hid (fun (W:World) (hW:G w W)=>Calls.grown (dC ka (.pointer aa) W (ha.grow hW)))
 have C2:=hid (fun (W:World) (hW:G w W)=>Calls.grown (dC kb (.pointer ab) W (hb.grow hW)))
 have C3:=hid (fun (W:World) (hW:G w W)=>Calls.grown (am ka (.pointer aa) W (ha.grow hW)))
 have C4:=hid (fun (W:World) (hW:G w W)=>Calls.grown (am kb (.pointer ab) W (hb.grow hW)))
 have C5:=hid (fun (W:World) (hW:G w W)=>Calls.grown (ap ka (.pointer aa) W (ha.grow hW)))
 have C6:=hid (fun (W:World) (hW:G w W)=>Calls.grown (ap kb (.pointer ab) W (hb.grow hW)))
 have C7:=hid (fun (W:World) (hW:G w W)=>Calls.grown (cD p v m kk W (hk.grow hW) (by omega)))
 have C8:=hid (fun (W:World) (hW:G w W)=>Calls.grown (pM p v m kk W (hk.grow hW)))
 have C9:=hid (fun (W:World)=>Calls.grown (fL ka.flat.size kb.flat.size W (by omega)))
 have C10:=hid (fun (W:World)=>Calls.grown (fL (1+kk.flat.size) (ka.flat.size+kb.flat.size) W (by omega)))
 have HA:Hid (At w ka (.pointer aa)∧At w kb (.pointer ab)∧AtT w p v m kk):=⟨ha,hb,hk⟩
 clear ha hb hk
 generalize (K.node 0 p nm v m kk ka kb).flat=FF at *
 generalize hna:ka.flat.len=na at *
 generalize hnb:kb.flat.len=nb at *
 generalize hsa:ka.flat.size=sa at *
 generalize hsb:kb.flat.size=sb at *
 generalize hda:ka.flat.depth=da at *
 generalize hdb:kb.flat.depth=db at *
 generalize hsk:kk.flat.size=sk at *
 generalize hdk:kk.flat.depth=dk at *
 clear hna hnb hsa hsb hda hdb hsk hdk
 have e1:IntKind.i64.wrap ((na:Int)+1)=((na+1:Nat):Int):=by rw [IntKind.wrap_i64];omega
 have e2:IntKind.i64.wrap (((na+1:Nat):Int)+(nb:Int))=((na+1+nb:Nat):Int):=by rw [IntKind.wrap_i64];omega
 have e3:IntKind.i64.wrap ((dk:Int)+1)=((dk+1:Nat):Int):=by rw [IntKind.wrap_i64];omega
 generalize hN1:na+1=N1 at *
 generalize hN2:N1+nb=N2 at *
 generalize hD1:dk+1=D1 at *
 generalize hS0:sa+sb=S0 at *
 generalize hS1:1+sk=S1 at *
 generalize hS2:S1+S0=S2 at *
 generalize hM:max (max da D1) db=M at *
 have HM:Hid (max (max da D1) db=M):=hM
 clear hM hS2 hS1 hS0 hD1 hN2 hN1 hs l1 l2 l3 l4 l5
 have hb0:=jW w #[.string nm,.pointer (some ⟨p,0,none⟩)] 85
 have b0:=jB hb0 0 (.string nm) rfl
 have b1:=jB hb0 1 (.pointer (some ⟨p,0,none⟩)) rfl
 have HG:Hid (G w (w.alloc (.cells #[.string nm,.pointer (some ⟨p,0,none⟩)] 85))):=G.alloc w _
 go_enter Tryz.func115,Tryz.ntmps115
 go_upto_region 1 with fail
 clear hb0
 generalize hH:w.heap.size=H at *
 generalize (w.alloc (.cells #[.string nm,.pointer (some ⟨p,0,none⟩)] 85))=w1 at *
 have z0:=(G.drew w1).cell b0
 have z1:=(G.drew w1).cell b1
 have HD:Hid (G w w1.drew):=HG.o.trans (G.drew w1)
 refine qO ?_
 generalize w1.drew=w2 at *
 refine qx 0 7 (.agg #[.string nm,.pointer (some ⟨p,0,none⟩)]) (fun wz hz=>?_) ?_
 ·have y0:=hz.cell z0;have y1:=hz.cell z1;go_simp
 refine fG 1 8 (.pointer aa) ?_
 refine fG 2 9 (.pointer ab) ?_
 refine fG 3 10 (.pointer aa) ?_
 refine cA 4 11 (.int .i64 na) 149 #[.pointer aa] (fun wz=>?_) (fun wz hz=>?_) ?_
 ·go_simp
 ·exact C1.o wz (HD.o.trans hz)
 refine gG 5 12 (.int .i64 (N1:Int)) ?_
 refine fG 6 13 (.pointer ab) ?_
 refine cA 7 14 (.int .i64 nb) 149 #[.pointer ab] (fun wz=>?_) (fun wz hz=>?_) ?_
 ·go_simp
 ·exact C2.o wz (HD.o.trans hz)
 refine gG 8 15 (.int .i64 (N2:Int)) ?_
 refine gG 9 16 (.pointer (some ⟨H,1,none⟩)) ?_
 refine qx 10 17 (.pointer (some ⟨p,0,none⟩)) (fun wz hz=>?_) ?_
 ·have y0:=hz.cell z1;go_simp
 refine cA 11 18 (.int .i64 (S1:Int)) 18 #[.pointer (some ⟨p,0,none⟩)] (fun wz=>?_) (fun wz hz=>?_) ?_
 ·go_simp
 ·exact C7.o wz (HD.o.trans hz)
 refine fG 12 19 (.pointer aa) ?_
 refine cA 13 20 (.int .i64 sa) 44 #[.pointer aa] (fun wz=>?_) (fun wz hz=>?_) ?_
 ·go_simp
 ·exact C3.o wz (HD.o.trans hz)
 refine fG 14 21 (.pointer ab) ?_
 refine cA 15 22 (.int .i64 sb) 44 #[.pointer ab] (fun wz=>?_) (fun wz hz=>?_) ?_
 ·go_simp
 ·exact C4.o wz (HD.o.trans hz)
 refine cA 16 23 (.int .i64 (S0:Int)) 43 #[.int .i64 sa,.int .i64 sb] (fun wz=>?_) (fun wz hz=>?_) ?_
 ·go_simp
 ·exact C9.o wz
 refine cA 17 24 (.int .i64 (S2:Int)) 43 #[.int .i64 (S1:Int),.int .i64 (S0:Int)] (fun wz=>?_) (fun wz hz=>?_) ?_
 ·go_simp
 ·exact C10.o wz
 refine fG 18 25 (.pointer aa) ?_
 refine cA 19 26 (.int .i64 da) 150 #[.pointer aa] (fun wz=>?_) (fun wz hz=>?_) ?_
 ·go_simp
 ·exact C5.o wz (HD.o.trans hz)
 refine gG 20 27 (.pointer (some ⟨H,1,none⟩)) ?_
 refine qx 21 28 (.pointer (some ⟨p,0,none⟩)) (fun wz hz=>?_) ?_
 ·have y0:=hz.cell z1;go_simp
 refine cA 22 29 (.int .i64 dk) 151 #[.pointer (some ⟨p,0,none⟩)] (fun wz=>?_) (fun wz hz=>?_) ?_
 ·go_simp
 ·exact C8.o wz (HD.o.trans hz)
 refine gG 23 30 (.int .i64 (D1:Int)) ?_
 refine fG 24 31 (.pointer ab) ?_
 refine cA 25 32 (.int .i64 db) 150 #[.pointer ab] (fun wz=>?_) (fun wz hz=>?_) ?_
 ·go_simp
 ·exact C6.o wz (HD.o.trans hz)
 refine qx 26 33 (.int .i64 (M:Int)) (fun wz hz=>?_) ?_
 ·(go_simp;rw [← HM.o];split<;>split<;>omega)
 refine qx 27 34 (.agg (kc nm p (.pointer aa) (.pointer ab) N2 S2 M)) (fun wz hz=>?_) ?_
 ·(go_simp;rfl)
 refine xo [28] (by kernel_rfl) (by simp) (fun w3 hg3=>?_)
 refine AllG.value 28 35 (.pointer (some ⟨w3.heap.size,0,none⟩)) (w3.alloc (.cells (kc nm p (.pointer aa) (.pointer ab) N2 S2 M) 87)) rfl rfl (by kernel_rfl) (by go_simp) (G.alloc _ _) ?_ AllG.nil
 try simp only [Act.put,sA,sB,sC]
 have HW:Hid (G w (w3.alloc (.cells (kc nm p (.pointer aa) (.pointer ab) N2 S2 M) 87))):=(HD.o.trans hg3).trans (G.alloc _ _)
 have HL:Hid (Lies (w3.alloc (.cells (kc nm p (.pointer aa) (.pointer ab) N2 S2 M) 87)) w3.heap.size 0 (kc nm p (.pointer aa) (.pointer ab) N2 S2 M)):=jW _ _ _
 generalize w3.alloc (.cells (kc nm p (.pointer aa) (.pointer ab) N2 S2 M) 87)=w4 at *
 generalize w3.heap.size=q at *
 refine fG 29 6 (.pointer (some ⟨q,0,none⟩)) ?_
 refine bL (by kernel_rfl) (fun w5 hg5=>?_)
 clear z0 z1 b0 b1
 go_wp2_with fail
 go_ret
 have hg:=HW.o.trans hg5
 obtain ⟨hpk,hk1,hk2⟩:=HA.o.2.2.grow hg
 refine ⟨q,rfl,⟨rfl,hpk,.pointer aa,.pointer ab,⟨?_,hk1⟩,hk2,HA.o.1.grow hg,HA.o.2.1.grow hg⟩,hg⟩
 rw [HQ.o q,HF.o.1,HF.o.2.1,HF.o.2.2]
 exact hg5.lies HL.o
theorem iq {o:Oper} {a:Act} (x:Operand) (ho:o.op=.box 83 x) (c:Array Value) (hx:a.eval x=.agg c) (w:World):(execOp a.eval o).run Tryz.prog w=.ok (.value (.pointer (some ⟨w.heap.size,0,none⟩))) (w.alloc (.cells c 83)):=by
 unfold execOp
 simp [ho,hx,Instr.box,newVar,newRow,newObj,Value.cells]
 rfl
theorem HasR.take {w:World}:∀ {f:F} {k g o:Nat},HasR w f g o→HasR w (f.take k) g o
 | f,0,_,_,_=>by rw [F.take_zero];trivial
 | .nil,_+1,_,_,_=>trivial
 | .cons _ _ _ _ r,k+1,_,_,h=>⟨h.1,HasR.take (f:=r) (k:=k) h.2⟩
theorem F.split_size {f:F} {k:Nat} {nm:ByteArray} {v:Vd} {m:Md} {ks r:F} (h:f.drop k=.cons nm v m ks r):(f.take k).size+r.size+ks.size+1=f.size:=by
 have h1:=congrArg F.size (F.yv f k)
 rw [F.app_size,h,F.size] at h1
 omega
end Go.Proofs.YtjikkhbcbfpocaaGreatDoor
