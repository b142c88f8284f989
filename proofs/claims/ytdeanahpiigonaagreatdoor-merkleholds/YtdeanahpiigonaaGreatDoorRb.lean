import Derived.Test.YtdeanahpiigonaaGreatDoorHW1
set_option maxRecDepth 100000
set_option maxHeartbeats 8000000
namespace Go.Proofs.YtdeanahpiigonaaGreatDoor
open Go.RowKit Hm
attribute [local go_sem] Oper.semAt_some
theorem EdI.oth {bt:Int} {lo M:Nat} {l:List Int} {s:Wi.St} {W:World} {b1 b2 b3 c:Nat} {X:Array Value} {w w':World} (h:EdI bt lo M l s W b1 b2 b3 X w) (hk:Kp (fun b=>b=c) w w') (hc:b1<c∧b2<c∧b3<c):EdI bt lo M l s W b1 b2 b3 X w':=
 ⟨qF h.rf fun b hb=>hk.block b (by have:=qi h.rf;omega) (by have:=h.lo;omega),(hk.block b1 (ga h.v1).1 (by omega)).trans h.v1,(hk.block b2 (ga h.v2).1 (by omega)).trans h.v2,(hk.block b3 (ga h.v3).1 (by omega)).trans h.v3,h.kp.trans hk fun b hb e=>by have:=h.lo;omega,h.lo⟩
theorem build24k (k:Int) (w:World):(Instr.build 24 #[(0,.int .i64 k)]).run Tryz.prog w=.ok (.agg (vx (mkV k 0 0 j7)).toArray) w:=by
 refine yG 24 (vx vz) _ jR fd wP _ _ ?_
 show Instr.fill _ (vx vz).toArray [(0,.int .i64 k)]=_
 rw [qv _ _ 0 0 1 _ [.int .i64 k] _ rfl rfl rfl (by decide),Instr.fill,jh jC]
 rfl
theorem a00 (k m z m2:Int) (s:List Nat) (hs:s.length=32):(vx (mkV k m z s)).toArray.setIfInBounds 1 (.int .i64 m2)=(vx (mkV k m2 z s)).toArray:=by
 rw [List.setIfInBounds_toArray,jh hs,jh hs];rfl
theorem mI (k m z z2:Int) (s:List Nat) (hs:s.length=32):(vx (mkV k m z s)).toArray.setIfInBounds 2 (.int .i64 z2)=(vx (mkV k m z2 s)).toArray:=by
 rw [List.setIfInBounds_toArray,jh hs,jh hs];rfl
theorem mJ (k m z:Int) (s s2:List Nat) (hs:s.length=32) (hs2:s2.length=32):over (vx (mkV k m z s)) 3 (s2.map Su.vb)=vx (mkV k m z s2):=by
 rw [jh hs,jh hs2]
 have:=aQ [.int .i64 k,.int .i64 m,.int .i64 z] (s.map Su.vb) (s2.map Su.vb) [] 3 rfl (by simp [hs,hs2])
 rw [List.append_nil,List.append_nil] at this
 exact this
theorem eY (bt:Int) (lo M:Nat) (l:List Int) (s:Wi.St) (w:World) (hr:Wi.RfS w lo M l s) (hB:Wire.Bytes l) (v:Vd) (na:Option Addr) (N nc n:Nat) (hn:n<N) (hk:v.kind=0) (RES:Option (List Nat × Wi.St)) (hR:RES=dO l s):
  Calls Tryz.prog 20 #[.agg #[.int .i64 bt],.pointer (some ⟨M,0,none⟩),.int .u8 4,.slice na N nc,.int .i64 (n:Int),.agg (vx v).toArray] w fun e w'=>GpP lo M l w RES e w':=by
 have hz32:(hA j7).size=32:=jG jC
 have hMw:=qi hr
 have HI:=hid hr
 obtain ⟨X,hX⟩:∃ X:Array Value,X=(vx v).toArray:=⟨_,rfl⟩
 have x0:X[0]?=some (.int .i64 v.kind):=by rw [hX];rfl
 have x1:X[1]?=some (.int .i64 v.mode):=by rw [hX];rfl
 have HX:Hid (X=(vx v).toArray∧X.size=35):=⟨hX,by rw [hX];exact jx v⟩
 rw [← hX]
 clear hr hX
 have CE:Hid (∀ W s',Wi.RfS W lo M l s'→Calls Tryz.prog 52 #[.pointer (some ⟨M,0,none⟩)] W fun e w'=>e=.returned (.tuple #[])∧Wi.RfS w' lo M l (Wi.endS l s')∧Kp (fun b=>b=M) W w'):=fun W s' h=>(Wi.zi lo M l s' W h).mono fun e w' q=>⟨q.1,q.2.1,yC q.2.2⟩
 unfold dO at hR
 simp only at hR
 have C17:Hid (∀ W,Wi.RfS W lo M l s→Calls Tryz.prog 17 #[.pointer (some ⟨M,0,none⟩)] W fun e w'=>e=.returned (.int .u8 (Wi.byteS l s).1)∧Wi.RfS w' lo M l (Wi.byteS l s).2∧Kp (fun b=>b=M) W w'):=fun W h=>(Wi.bX lo M l s W h).mono fun e w' q=>⟨q.1,q.2.1,yC q.2.2⟩
 have hrng:=dG hB s
 generalize Wi.byteS l s=A at *
 obtain ⟨kb,s1⟩:=A
 simp only at C17 hrng hR
 have hk0:=hrng.1
 have hk1:=hrng.2
 clear hrng
 obtain ⟨X1,hX1⟩:∃ X1:Array Value,X1=(vx (mkV kb 0 0 j7)).toArray:=⟨_,rfl⟩
 have HX1:Hid (X1=(vx (mkV kb 0 0 j7)).toArray∧X1.size=35∧X1.all (·.oneCell')=true∧(∀ W,(Instr.build 24 #[(0,.int .i64 kb)]).run Tryz.prog W=.ok (.agg X1) W)∧X1[0]?=some (.int .i64 kb)):=by subst hX1;exact ⟨rfl,jx _,eH _,build24k kb,by rw [jh jC];rfl⟩
 clear hX1
 have HR:=hid hR
 clear hR
 have hzs:(vx vz).toArray.size=35:=jx vz
 go_enter Tryz.func20,Tryz.ntmps20
 go_upto_region 2 with (first
  | ((with_reducible refine jt 6 27 (.tmp 0) (#[.int .i64 bt]:Array Value) ?_ ?_ ?_ ?_ ?_);rfl;rfl;kernel_rfl;rfl;intro w1 b1 H1)
  | ((with_reducible refine jt 11 24 (.tmp 5) X ?_ ?_ ?_ ?_ ?_);rfl;rfl;kernel_rfl;rfl;intro w2 b2 H2)
  | ((with_reducible refine jT 19 (.agg (hA j7)) w2 ?_ ?_ ?_ ?_);rfl;kernel_rfl;exact xI 22 rfl (hA j7) (yS _))
  | ((with_reducible refine qC 14 22 (hA j7) ?_ ?_ ?_ ?_ ?_);rfl;rfl;kernel_rfl;exact jv;intro w3 b3 H3)
  | ((with_reducible refine qj 22 (.tmp 14) (.tmp 19) b3 (hA j7) (hA j7) ?_ ?_ ?_ ?_ ?_ ?_ ?_ ?_ ?_ ?_);rfl;rfl;kernel_rfl;rfl;rfl;exact H3.o.2.2.1;exact (by rw [jK,hz32]);exact rfl;exact (jn _);intro w4 H4))
 have HE:Hid (EdI bt lo M l s w b1 b2 b3 X w4):=by
  obtain ⟨p1,p2,p3,p4⟩:=H1.o
  obtain ⟨q1,q2,q3,q4⟩:=H2.o
  obtain ⟨t1,t2,t3,t4⟩:=H3.o
  obtain ⟨u1,u2,u3⟩:=H4.o
  have g3:G w w3:=(G.trans (G.trans p2 q2) t2)
  exact ⟨qF (z8 HI.o g3) fun b hb=>u1.block b (by omega) (by omega),(u1.block b1 (by omega) (by omega)).trans ((t2.block b1 (by omega)).trans ((q2.block b1 (by omega)).trans p3)),(u1.block b2 (by omega) (by omega)).trans ((t2.block b2 (by omega)).trans q3),u2,(Kp.of g3).trans u1 fun b hb e=>by omega,by omega⟩
 clear H1 H2 H3 H4 HI
 have hzk:w4.cell? ⟨b2,0,none⟩=some (.int .i64 v.kind):=by rw [j9 HE.o.v2];exact x0
 rw [hk] at hzk
 have hnI:(n:Int)<N:=by omega
 go_upto_region 14 with (first
  | (go_at_call 17;refine (C17.o w4 HE.o.rf).mono ?_;rintro e w5 ⟨rfl,q1,q2⟩;have H5:=hid (HE.o.rd q1 q2);clear q1 q2)
  | ((with_reducible refine jT 77 (.agg X1) w5 ?_ ?_ ?_ ?_);rfl;kernel_rfl;exact eE 24 0 (.tmp 76) rfl (.int .i64 kb) rfl X1 (HX1.o.2.2.2.1 _))
  | ((with_reducible refine qC 18 24 (vx vz).toArray ?_ ?_ ?_ ?_ ?_);rfl;rfl;kernel_rfl;exact fd;intro w6 b18 H6)
  | ((with_reducible refine qj 24 (.tmp 18) (.tmp 77) b18 X1 (vx vz).toArray ?_ ?_ ?_ ?_ ?_ ?_ ?_ ?_ ?_ ?_);rfl;rfl;kernel_rfl;rfl;rfl;exact H6.o.2.2.1;exact (by rw [qU,HX1.o.2.1]);exact (by rw [hzs,HX1.o.2.1]);exact HX1.o.2.2.1;intro w7 H7))
 have HB:Hid (EdI bt lo M l s1 w b1 b2 b3 X w7∧w7.heap[b18]?=some (.cells X1 24 (0,0))∧b1<b18∧b2<b18∧b3<b18):=by
  obtain ⟨q1,q2,q3,q4⟩:=H6.o
  obtain ⟨t1,t2,t3⟩:=H7.o
  have f1:=(ga H5.o.v1).1
  have f2:=(ga H5.o.v2).1
  have f3:=(ga H5.o.v3).1
  exact ⟨(H5.o.up q2).oth t1 (by omega),t2,by omega,by omega,by omega⟩
 have hzb:w7.cell? ⟨b18,0,none⟩=some (.int .i64 kb):=by rw [j9 HB.o.2.1];exact HX1.o.2.2.2.2
 clear H6 H7 H5 HE
 by_cases h23:kb≠2∧kb≠3
 ·have hRS:RES=none:=by rw [HR.o,if_pos h23]
  have h2:(kb !=2)=true:=by rw [bne_iff_ne];exact h23.1
  have h3:(kb !=3)=true:=by rw [bne_iff_ne];exact h23.2
  clear h23
  go_wp2_with fail
  go_ret2
  exact ⟨HB.o.1.kp,_,s1,HB.o.1.rf,.inl ⟨(by first | exact hRS | rfl),rfl⟩⟩
 ·by_cases hk2:kb=2
  ·subst hk2
   have C8:Hid (∀ W,Wi.RfS W lo M l s1→Calls Tryz.prog 18 #[.pointer (some ⟨M,0,none⟩),.int .u64 8] W fun e w'=>e=.returned (.int .u64 ((Wi.uintS l s1 8).1:Nat))∧Wi.RfS w' lo M l (Wi.uintS l s1 8).2∧Kp (fun b=>b=M) W w'):=fun W h=>refU h hB 8 8 rfl
   have l1:=kK l s1 8
   have hRS:=HR.o
   rw [if_neg (by omega),if_pos rfl] at hRS
   generalize Wi.uintS l s1 8=A at *
   obtain ⟨md,sA⟩:=A
   simp only at C8 l1 hRS
   have CZ:Hid (∀ W,Wi.RfS W lo M l sA→Calls Tryz.prog 18 #[.pointer (some ⟨M,0,none⟩),.int .u64 1099511627775] W fun e w'=>e=.returned (.int .u64 ((Wi.uintS l sA 1099511627775).1:Nat))∧Wi.RfS w' lo M l (Wi.uintS l sA 1099511627775).2∧Kp (fun b=>b=M) W w'):=fun W h=>refU h hB 1099511627775 1099511627775 rfl
   have l2:=kK l sA 1099511627775
   generalize Wi.uintS l sA 1099511627775=A at *
   obtain ⟨sz,sB⟩:=A
   simp only at CZ l2 hRS
   have C50:Hid (∀ W,Wi.RfS W lo M l sB→Calls Tryz.prog 50 #[.pointer (some ⟨M,0,none⟩)] W fun e w'=>e=.returned (.agg (hA (h32 (Wi.rawB l sB 32))))∧Wi.RfS w' lo M l (Wi.rawS l sB 32)∧Kp (fun b=>b=M) W w'):=fun W h=>yi lo M l sB W h hB
   have hhs:(h32 (Wi.rawB l sB 32)).length=32∧Su.Bytes (h32 (Wi.rawB l sB 32)):=⟨qO _,kL (qW hB _)⟩
   generalize h32 (Wi.rawB l sB 32)=hh at *
   generalize Wi.rawS l sB 32=sC at *
   have HHs:Hid ((hA hh).size=32∧(hA hh).all (·.oneCell')=true):=⟨jG hhs.1,jn _⟩
   have hVe:mkV 2 (md:Int) (sz:Int) hh=⟨2,(md:Int),sz,hh,hhs.1⟩:=jh hhs.1
   have hvo:VdOk (mkV 2 (md:Int) (sz:Int) hh):=by
    rw [jh hhs.1]
    exact ⟨⟨by simp,by simp;omega⟩,⟨by simp,by simp;omega⟩,hhs.2⟩
   have hkd:(mkV 2 (md:Int) (sz:Int) hh).kind=2:=by rw [jh hhs.1]
   have hok:=hid (ap hvo (.inl hkd))
   have C51:Hid (∀ W,Calls Tryz.prog 51 #[.agg (vx (mkV 2 (md:Int) (sz:Int) hh)).toArray] W fun e w'=>∃ u,e=.returned u∧Su.Owns w' W.heap.size u (ownT (mkV 2 (md:Int) (sz:Int) hh) 0 j7)∧G W w'):=fun W=>by
    have:=yv (mkV 2 (md:Int) (sz:Int) hh) W hvo.1 hvo.2.1
    rw [xR _ (.inl hkd)] at this
    exact this
   have C15:Hid (∀ W,Calls Tryz.prog 15 #[.agg (vx (mkV 2 (md:Int) (sz:Int) hh)).toArray] W fun e w'=>e=.returned (.bool (valB (mkV 2 (md:Int) (sz:Int) hh)))∧G W w'):=fun W=>xB _ W
   have e3:=mJ 2 (md:Int) (sz:Int) j7 hh jC hhs.1
   have e2:=mI 2 (md:Int) 0 (sz:Int) j7 jC
   have e1:=a00 2 0 0 (md:Int) j7 jC
   have hRS:RES=if valB (mkV 2 (md:Int) (sz:Int) hh)=true then some (ownT (mkV 2 (md:Int) (sz:Int) hh) 0 j7,Wi.endS l sC) else none:=hRS
   generalize ownT (mkV 2 (md:Int) (sz:Int) hh) 0 j7=T at *
   generalize valB (mkV 2 (md:Int) (sz:Int) hh)=vb at *
   obtain ⟨Y3,hY3⟩:∃ Y:List Value,vx (mkV 2 (md:Int) (sz:Int) hh)=Y:=⟨_,rfl⟩
   obtain ⟨Y2,hY2⟩:∃ Y:List Value,vx (mkV 2 (md:Int) (sz:Int) j7)=Y:=⟨_,rfl⟩
   obtain ⟨Y1,hY1⟩:∃ Y:List Value,vx (mkV 2 (md:Int) 0 j7)=Y:=⟨_,rfl⟩
   have hY3s:Y3.length=35:=by rw [← hY3];exact jq _
   have hY2s:Y2.length=35:=by rw [← hY2];exact jq _
   have hY1s:Y1.length=35:=by rw [← hY1];exact jq _
   have hY1c:Y1.toArray[2]?=some (.int .i64 0):=by rw [← hY1,jh jC];rfl
   rw [hY3] at C51 C15 e3
   rw [hY2] at e2 e3
   rw [hY1] at e2
   have HX1e:=HX1.o.1
   rw [hY1] at e1
   have HE2:=hid e2
   have HE3:=hid e3
   have HRS:=hid hRS
   have HS:=hid (⟨hY1s,hY2s,hY3s,hY1c⟩:_∧_∧_∧_)
   clear hY1 hY2 hY3 hVe hvo hkd hRS e2 e3 hY1s hY2s hY3s hY1c
   have HE1:Hid (X1.setIfInBounds 1 (.int .i64 (md:Int))=Y1.toArray):=by rw [HX1e];exact e1
   have hzc1:X1[1]?=some (.int .i64 0):=by rw [HX1e,jh jC];rfl
   clear e1 HX1e
   go_upto_region 21 with (first
    | (go_at_call 18;refine (CZ.o w10 H10.o.1.rf).mono ?_;rintro e w11 ⟨rfl,q1,q2⟩;have H11:Hid (EdI bt lo M l sB w b1 b2 b3 X w11∧w11.heap[b18]?=some (.cells Y1.toArray 24 (0,0))):=⟨H10.o.1.rd q1 q2,(q2.block b18 (ga H10.o.2).1 (by have:=H10.o.1.lo;have:=HB.o.2.2;omega)).trans H10.o.2⟩;clear q1 q2)
    | (go_at_call 18;refine (C8.o w7 HB.o.1.rf).mono ?_;rintro e w8 ⟨rfl,q1,q2⟩;have H8:Hid (EdI bt lo M l sA w b1 b2 b3 X w8∧w8.heap[b18]?=some (.cells X1 24 (0,0))):=⟨HB.o.1.rd q1 q2,(q2.block b18 (ga HB.o.2.1).1 (by have:=HB.o.1.lo;have:=HB.o.2.2;omega)).trans HB.o.2.1⟩;clear q1 q2)
    | ((with_reducible refine xP 3 (.tmp 92) (.tmp 91) b18 1 (.int .i64 (md:Int)) 24 X1 ?_ ?_ ?_ ?_ ?_ ?_);rfl;rfl;kernel_rfl;(have hc9:=(show w8.cell? ⟨b18,1,none⟩=some (.int .i64 0) by rw [j9 H8.o.2];exact hzc1);have hf9:=(show w8.frozen? ⟨b18,1,none⟩=false by simp [World.frozen?,H8.o.2]);unfold execOp;simp [hc9,hf9,go_sem]);exact H8.o.2;intro w10 H10;have H10':=H10;clear H10;have H10:Hid (EdI bt lo M l sA w b1 b2 b3 X w10∧w10.heap[b18]?=some (.cells Y1.toArray 24 (0,0))):=⟨H8.o.1.oth H10'.o.1 HB.o.2.2,(by rw [H10'.o.2.1,HE1.o])⟩)
    | ((with_reducible refine xP 3 (.tmp 96) (.tmp 95) b18 2 (.int .i64 (sz:Int)) 24 Y1.toArray ?_ ?_ ?_ ?_ ?_ ?_);rfl;rfl;kernel_rfl;(have hc9:=(show w11.cell? ⟨b18,2,none⟩=some (.int .i64 0) by rw [j9 H11.o.2];exact HS.o.2.2.2);have hf9:=(show w11.frozen? ⟨b18,2,none⟩=false by simp [World.frozen?,H11.o.2]);unfold execOp;simp [hc9,hf9,go_sem]);exact H11.o.2;intro w12 H12;have H12':=H12;clear H12;have H12:Hid (EdI bt lo M l sB w b1 b2 b3 X w12∧w12.heap[b18]?=some (.cells Y2.toArray 24 (0,0))):=⟨H11.o.1.oth H12'.o.1 HB.o.2.2,(by rw [H12'.o.2.1,HE2.o])⟩)
    | (go_at_call 50;refine (C50.o w12 H12.o.1.rf).mono ?_;rintro e w13 ⟨rfl,q1,q2⟩;have H13:Hid (EdI bt lo M l sC w b1 b2 b3 X w13∧w13.heap[b18]?=some (.cells Y2.toArray 24 (0,0))):=⟨H12.o.1.rd q1 q2,(q2.block b18 (ga H12.o.2).1 (by have:=H12.o.1.lo;have:=HB.o.2.2;omega)).trans H12.o.2⟩;clear q1 q2)
    | ((with_reducible refine aN 22 (.tmp 99) (.tmp 98) b18 3 (hA hh) 24 Y2 ?_ ?_ ?_ ?_ ?_ ?_ ?_ ?_ ?_ ?_);rfl;rfl;kernel_rfl;rfl;rfl;exact H13.o.2;exact (by rw [HHs.o.1];have:=HS.o.2.1;omega);exact (by rw [jK,HHs.o.1]);exact HHs.o.2;intro w14 H14;have H14':=H14;clear H14;have H14:Hid (EdI bt lo M l sC w b1 b2 b3 X w14∧w14.heap[b18]?=some (.cells Y3.toArray 24 (0,0))):=⟨H13.o.1.oth H14'.o.1 HB.o.2.2,(by rw [H14'.o.2.1,← HE3.o];simp [hA])⟩)
    | (go_at_call 52;refine (CE.o w14 _ H14.o.1.rf).mono ?_;rintro e w15 ⟨rfl,q1,q2⟩;have H15:Hid (EdI bt lo M l (Wi.endS l sC) w b1 b2 b3 X w15∧w15.heap[b18]?=some (.cells Y3.toArray 24 (0,0))):=⟨H14.o.1.rd q1 q2,(q2.block b18 (ga H14.o.2).1 (by have:=H14.o.1.lo;have:=HB.o.2.2;omega)).trans H14.o.2⟩;clear q1 q2))
   refine uB b18 Y3.toArray w15.heap.size (fun _ W=>G w15 W) (fun r' W=>G w15 W∧Su.Owns W 0 (r' 1) T) (fun r' W=>G w15 W∧Su.Owns W 0 (r' 1) T∧r' 2=.bool vb) (fun W=>G w15 W) _ w15 rfl rfl (by simp [HS.o.2.2.1]) (hb0:=fun _ _ q=>q) (hb1:=fun _ _ q=>q.1) (hb2:=fun _ _ q=>q.1) (hk0:=fun _ _ q=>q.trans (G.alloc _ _)) (hk1:=?zk1) (hk2:=?zk2) (hlo:=fun _ q=>q.size) (hc1:=?zc1) (hc2:=?zc2) (hsz:=?zsz) (hl0:=fun W q=>Lies.of_heap ((q.block b18 (ga H15.o.2).1).trans H15.o.2)) (hl3:=fun W q=>Lies.of_heap ((q.block b18 (ga H15.o.2).1).trans H15.o.2)) (hst0:=fun _=>G.drew _) (hQ:=?zq)
   case zk1=>exact fun r' W q=>⟨q.1.trans (G.alloc _ _),by rw [qr _ _ (by decide)];exact zO q.2 (K2.of_g (G.alloc _ _))⟩
   case zk2=>exact fun r' W q=>⟨q.1.trans (G.alloc _ _),by rw [qr _ _ (by decide)];exact zO q.2.1 (K2.of_g (G.alloc _ _)),by rw [qr _ _ (by decide)];exact q.2.2⟩
   case zsz=>
    rintro r' W (q | q)
    ·obtain ⟨ua,uc,hue⟩:=jo q.2
     rw [hue];rfl
    ·obtain ⟨ua,uc,hue⟩:=jo q.2.1
     rw [hue];rfl
   case zc1=>
    intro r' W q
    refine (C51.o W).mono ?_
    rintro e W2 ⟨u,rfl,q1,q2⟩
    exact ⟨u,rfl,⟨q.trans q2,by rw [jA];exact q1.mono (Nat.zero_le _)⟩,q2⟩
   case zc2=>
    rintro r' W ⟨q,q1⟩
    refine (C15.o W).mono ?_
    rintro e W2 ⟨rfl,q2⟩
    exact ⟨_,rfl,⟨q.trans q2,by rw [qr _ _ (by decide)];exact zO q1 (K2.of_g q2),by rw [jA]⟩,q2⟩
   case zq=>
    rintro r' w16 b ⟨q0,q1,q2⟩ e1 e2 e3
    rw [mG,q2,e1]
    have HL:=hid (H15.o.1.up q0)
    have HTX:Hid (Tx w16 w.heap.size (.slice (some ⟨b,0,none⟩) 1 1) T 100):=by
     obtain ⟨ua,uc,hue⟩:=jo q1
     have hce:(r' 1).cells=#[r' 1]:=by rw [hue];rfl
     rw [hce] at e2
     refine ⟨[],r' 1,⟨⟨by simp [fl],.inr ⟨b,1,#[r' 1],rfl,Nat.le_trans H15.o.1.kp.size e3,e2,Nat.le_refl _,by decide,rfl,by simp [fl]⟩⟩,by intro x hx;simp at hx;subst hx;rfl⟩,by intro x hx;simp at hx;subst hx;exact mE q1,q1,by simp⟩
    generalize r' 1=u1
    clear q0 q1 q2 e1 e2 e3
    go_simp
    go_wp2_with fail
    go_ret2
    have hRS:=HRS.o
    cases vb with
    | true=>exact ⟨HL.o.kp,_,Wi.endS l sC,HL.o.rf,.inr ⟨T,by rw [hRS,if_pos rfl],rfl,HTX.o,hok.o⟩⟩
    | false=>exact ⟨HL.o.kp,_,Wi.endS l sC,HL.o.rf,.inl ⟨by rw [hRS,if_neg (by simp)],rfl⟩⟩
  ·have hk3:kb=3:=by omega
   subst hk3
   have hRS:=HR.o
   rw [if_neg (by omega),if_neg (show ¬ ((3:Int)=2) by decide)] at hRS
   simp only at hRS
   have CZ:Hid (∀ W,Wi.RfS W lo M l s1→Calls Tryz.prog 18 #[.pointer (some ⟨M,0,none⟩),.int .u64 1099511627775] W fun e w'=>e=.returned (.int .u64 ((Wi.uintS l s1 1099511627775).1:Nat))∧Wi.RfS w' lo M l (Wi.uintS l s1 1099511627775).2∧Kp (fun b=>b=M) W w'):=fun W h=>refU h hB 1099511627775 1099511627775 rfl
   have l2:=kK l s1 1099511627775
   generalize Wi.uintS l s1 1099511627775=A at *
   obtain ⟨sz,sB⟩:=A
   simp only at CZ l2 hRS
   have C50:Hid (∀ W,Wi.RfS W lo M l sB→Calls Tryz.prog 50 #[.pointer (some ⟨M,0,none⟩)] W fun e w'=>e=.returned (.agg (hA (h32 (Wi.rawB l sB 32))))∧Wi.RfS w' lo M l (Wi.rawS l sB 32)∧Kp (fun b=>b=M) W w'):=fun W h=>yi lo M l sB W h hB
   have hhs:(h32 (Wi.rawB l sB 32)).length=32∧Su.Bytes (h32 (Wi.rawB l sB 32)):=⟨qO _,kL (qW hB _)⟩
   generalize h32 (Wi.rawB l sB 32)=hh at *
   generalize Wi.rawS l sB 32=sC at *
   have HHs:Hid ((hA hh).size=32∧(hA hh).all (·.oneCell')=true):=⟨jG hhs.1,jn _⟩
   have hVe:mkV 3 ((0:Nat):Int) (sz:Int) hh=⟨3,0,sz,hh,hhs.1⟩:=jh hhs.1
   have hvo:VdOk (mkV 3 0 (sz:Int) hh):=by
    rw [jh hhs.1]
    exact ⟨⟨by simp,by simp⟩,⟨by simp,by simp;omega⟩,hhs.2⟩
   have hkd:(mkV 3 0 (sz:Int) hh).kind=3:=by rw [jh hhs.1]
   have hok:=hid (ap hvo (.inr hkd))
   have C51:Hid (∀ W,Calls Tryz.prog 51 #[.agg (vx (mkV 3 0 (sz:Int) hh)).toArray] W fun e w'=>∃ u,e=.returned u∧Su.Owns w' W.heap.size u (ownT (mkV 3 0 (sz:Int) hh) 0 j7)∧G W w'):=fun W=>by
    have:=yv (mkV 3 0 (sz:Int) hh) W hvo.1 hvo.2.1
    rw [xR _ (.inr hkd)] at this
    exact this
   have C15:Hid (∀ W,Calls Tryz.prog 15 #[.agg (vx (mkV 3 0 (sz:Int) hh)).toArray] W fun e w'=>e=.returned (.bool (valB (mkV 3 0 (sz:Int) hh)))∧G W w'):=fun W=>xB _ W
   have e3:=mJ 3 0 (sz:Int) j7 hh jC hhs.1
   have e2:=mI 3 0 0 (sz:Int) j7 jC
   have hRS:RES=if valB (mkV 3 0 (sz:Int) hh)=true then some (ownT (mkV 3 0 (sz:Int) hh) 0 j7,Wi.endS l sC) else none:=hRS
   generalize ownT (mkV 3 0 (sz:Int) hh) 0 j7=T at *
   generalize valB (mkV 3 0 (sz:Int) hh)=vb at *
   obtain ⟨Y3,hY3⟩:∃ Y:List Value,vx (mkV 3 0 (sz:Int) hh)=Y:=⟨_,rfl⟩
   obtain ⟨Y2,hY2⟩:∃ Y:List Value,vx (mkV 3 0 (sz:Int) j7)=Y:=⟨_,rfl⟩
   obtain ⟨Y1,hY1⟩:∃ Y:List Value,vx (mkV 3 0 0 j7)=Y:=⟨_,rfl⟩
   have hY3s:Y3.length=35:=by rw [← hY3];exact jq _
   have hY2s:Y2.length=35:=by rw [← hY2];exact jq _
   have hY1s:Y1.length=35:=by rw [← hY1];exact jq _
   have hY1c:Y1.toArray[2]?=some (.int .i64 0):=by rw [← hY1,jh jC];rfl
   rw [hY3] at C51 C15 e3
   rw [hY2] at e2 e3
   rw [hY1] at e2
   have HX1e:=HX1.o.1
   rw [hY1] at HX1e
   have HE2:=hid e2
   have HE3:=hid e3
   have HRS:=hid hRS
   have HS:=hid (⟨hY1s,hY2s,hY3s,hY1c⟩:_∧_∧_∧_)
   clear hY1 hY2 hY3 hVe hvo hkd hRS e2 e3 hY1s hY2s hY3s hY1c
   subst HX1e
   go_upto_region 21 with (first
    | (go_at_call 18;refine (CZ.o w7 HB.o.1.rf).mono ?_;rintro e w11 ⟨rfl,q1,q2⟩;have H11:Hid (EdI bt lo M l sB w b1 b2 b3 X w11∧w11.heap[b18]?=some (.cells Y1.toArray 24 (0,0))):=⟨HB.o.1.rd q1 q2,(q2.block b18 (ga HB.o.2.1).1 (by have:=HB.o.1.lo;have:=HB.o.2.2;omega)).trans HB.o.2.1⟩;clear q1 q2)
    | ((with_reducible refine xP 3 (.tmp 96) (.tmp 95) b18 2 (.int .i64 (sz:Int)) 24 Y1.toArray ?_ ?_ ?_ ?_ ?_ ?_);rfl;rfl;kernel_rfl;(have hc9:=(show w11.cell? ⟨b18,2,none⟩=some (.int .i64 0) by rw [j9 H11.o.2];exact HS.o.2.2.2);have hf9:=(show w11.frozen? ⟨b18,2,none⟩=false by simp [World.frozen?,H11.o.2]);unfold execOp;simp [hc9,hf9,go_sem]);exact H11.o.2;intro w12 H12;have H12':=H12;clear H12;have H12:Hid (EdI bt lo M l sB w b1 b2 b3 X w12∧w12.heap[b18]?=some (.cells Y2.toArray 24 (0,0))):=⟨H11.o.1.oth H12'.o.1 HB.o.2.2,(by rw [H12'.o.2.1,HE2.o])⟩)
    | (go_at_call 50;refine (C50.o w12 H12.o.1.rf).mono ?_;rintro e w13 ⟨rfl,q1,q2⟩;have H13:Hid (EdI bt lo M l sC w b1 b2 b3 X w13∧w13.heap[b18]?=some (.cells Y2.toArray 24 (0,0))):=⟨H12.o.1.rd q1 q2,(q2.block b18 (ga H12.o.2).1 (by have:=H12.o.1.lo;have:=HB.o.2.2;omega)).trans H12.o.2⟩;clear q1 q2)
    | ((with_reducible refine aN 22 (.tmp 99) (.tmp 98) b18 3 (hA hh) 24 Y2 ?_ ?_ ?_ ?_ ?_ ?_ ?_ ?_ ?_ ?_);rfl;rfl;kernel_rfl;rfl;rfl;exact H13.o.2;exact (by rw [HHs.o.1];have:=HS.o.2.1;omega);exact (by rw [jK,HHs.o.1]);exact HHs.o.2;intro w14 H14;have H14':=H14;clear H14;have H14:Hid (EdI bt lo M l sC w b1 b2 b3 X w14∧w14.heap[b18]?=some (.cells Y3.toArray 24 (0,0))):=⟨H13.o.1.oth H14'.o.1 HB.o.2.2,(by rw [H14'.o.2.1,← HE3.o];simp [hA])⟩)
    | (go_at_call 52;refine (CE.o w14 _ H14.o.1.rf).mono ?_;rintro e w15 ⟨rfl,q1,q2⟩;have H15:Hid (EdI bt lo M l (Wi.endS l sC) w b1 b2 b3 X w15∧w15.heap[b18]?=some (.cells Y3.toArray 24 (0,0))):=⟨H14.o.1.rd q1 q2,(q2.block b18 (ga H14.o.2).1 (by have:=H14.o.1.lo;have:=HB.o.2.2;omega)).trans H14.o.2⟩;clear q1 q2))
   refine uB b18 Y3.toArray w15.heap.size (fun _ W=>G w15 W) (fun r' W=>G w15 W∧Su.Owns W 0 (r' 1) T) (fun r' W=>G w15 W∧Su.Owns W 0 (r' 1) T∧r' 2=.bool vb) (fun W=>G w15 W) _ w15 rfl rfl (by simp [HS.o.2.2.1]) (hb0:=fun _ _ q=>q) (hb1:=fun _ _ q=>q.1) (hb2:=fun _ _ q=>q.1) (hk0:=fun _ _ q=>q.trans (G.alloc _ _)) (hk1:=?yk1) (hk2:=?yk2) (hlo:=fun _ q=>q.size) (hc1:=?yc1) (hc2:=?yc2) (hsz:=?ysz) (hl0:=fun W q=>Lies.of_heap ((q.block b18 (ga H15.o.2).1).trans H15.o.2)) (hl3:=fun W q=>Lies.of_heap ((q.block b18 (ga H15.o.2).1).trans H15.o.2)) (hst0:=fun _=>G.drew _) (hQ:=?yq)
   case yk1=>exact fun r' W q=>⟨q.1.trans (G.alloc _ _),by rw [qr _ _ (by decide)];exact zO q.2 (K2.of_g (G.alloc _ _))⟩
   case yk2=>exact fun r' W q=>⟨q.1.trans (G.alloc _ _),by rw [qr _ _ (by decide)];exact zO q.2.1 (K2.of_g (G.alloc _ _)),by rw [qr _ _ (by decide)];exact q.2.2⟩
   case ysz=>
    rintro r' W (q | q)
    ·obtain ⟨ua,uc,hue⟩:=jo q.2
     rw [hue];rfl
    ·obtain ⟨ua,uc,hue⟩:=jo q.2.1
     rw [hue];rfl
   case yc1=>
    intro r' W q
    refine (C51.o W).mono ?_
    rintro e W2 ⟨u,rfl,q1,q2⟩
    exact ⟨u,rfl,⟨q.trans q2,by rw [jA];exact q1.mono (Nat.zero_le _)⟩,q2⟩
   case yc2=>
    rintro r' W ⟨q,q1⟩
    refine (C15.o W).mono ?_
    rintro e W2 ⟨rfl,q2⟩
    exact ⟨_,rfl,⟨q.trans q2,by rw [qr _ _ (by decide)];exact zO q1 (K2.of_g q2),by rw [jA]⟩,q2⟩
   case yq=>
    rintro r' w16 b ⟨q0,q1,q2⟩ e1 e2 e3
    rw [mG,q2,e1]
    have HL:=hid (H15.o.1.up q0)
    have HTX:Hid (Tx w16 w.heap.size (.slice (some ⟨b,0,none⟩) 1 1) T 100):=by
     obtain ⟨ua,uc,hue⟩:=jo q1
     have hce:(r' 1).cells=#[r' 1]:=by rw [hue];rfl
     rw [hce] at e2
     refine ⟨[],r' 1,⟨⟨by simp [fl],.inr ⟨b,1,#[r' 1],rfl,Nat.le_trans H15.o.1.kp.size e3,e2,Nat.le_refl _,by decide,rfl,by simp [fl]⟩⟩,by intro x hx;simp at hx;subst hx;rfl⟩,by intro x hx;simp at hx;subst hx;exact mE q1,q1,by simp⟩
    generalize r' 1=u1
    clear q0 q1 q2 e1 e2 e3
    go_simp
    go_wp2_with fail
    go_ret2
    have hRS:=HRS.o
    cases vb with
    | true=>exact ⟨HL.o.kp,_,Wi.endS l sC,HL.o.rf,.inr ⟨T,by rw [hRS,if_pos rfl],rfl,HTX.o,hok.o⟩⟩
    | false=>exact ⟨HL.o.kp,_,Wi.endS l sC,HL.o.rf,.inl ⟨by rw [hRS,if_neg (by simp)],rfl⟩⟩
theorem GpP.base {lo M:Nat} {l:List Int} {w W:World} {R:Option (List Nat × Wi.St)} {e:Ending} {w':World} (h:GpP lo M l W R e w') (hk:Kp (fun b=>b=M) w W):GpP lo M l w R e w':=by
 obtain ⟨h1,v,s',h2,h3⟩:=h
 refine ⟨hk.trans h1 fun _ _ e=>e,v,s',h2,?_⟩
 rcases h3 with h3 | ⟨T,a,b,c,d⟩
 ·exact .inl h3
 ·exact .inr ⟨T,a,b,c.mono hk.size,d⟩
theorem GpP.tup {lo M:Nat} {l:List Int} {w:World} {R:Option (List Nat × Wi.St)} {u:Value} {w':World} (h:GpP lo M l w R (.returned u) w'):∃ a b,u=.tuple #[a,.bool b]∧∃ x n c,a=.slice x n c∨a=a:=by
 obtain ⟨h1,v,s',h2,h3⟩:=h
 rcases h3 with ⟨_,h3⟩ | ⟨T,a,b,c,d⟩
 ·injection h3 with h3
  exact ⟨_,_,h3,none,0,0,.inr rfl⟩
 ·injection b with b
  exact ⟨_,_,b,none,0,0,.inr rfl⟩
theorem mK (bt:Int) (lo M:Nat) (l:List Int) (s:Wi.St) (w:World) (hr:Wi.RfS w lo M l s) (hB:Wire.Bytes l) (v:Vd) (na:Option Addr) (N nc n:Nat) (hn:n<N) (hk:v.kind=0) (nm:ByteArray) (g:Nat) (hna:na=some ⟨g,0,none⟩) (hnm:w.cell? ⟨g,n,none⟩=some (.string nm)) (hnM:g≠M) (RES:Option (List Nat × Wi.St)) (hR:RES=gapR (sumS bt) l nm s):
  Calls Tryz.prog 20 #[.agg #[.int .i64 bt],.pointer (some ⟨M,0,none⟩),.int .u8 3,.slice na N nc,.int .i64 (n:Int),.agg (vx v).toArray] w fun e w'=>GpP lo M l w RES e w':=by
 subst hna
 have hz32:(hA j7).size=32:=jG jC
 have hMw:=qi hr
 have HI:=hid hr
 obtain ⟨X,hX⟩:∃ X:Array Value,X=(vx v).toArray:=⟨_,rfl⟩
 have x0:X[0]?=some (.int .i64 v.kind):=by rw [hX];rfl
 have x1:X[1]?=some (.int .i64 v.mode):=by rw [hX];rfl
 have HX:Hid (X=(vx v).toArray∧X.size=35):=⟨hX,by rw [hX];exact jx v⟩
 rw [← hX]
 clear hr hX
 have CG:Hid (∀ W,Wi.RfS W lo M l s→Calls Tryz.prog 53 #[.agg #[.int .i64 bt],.pointer (some ⟨M,0,none⟩),.string nm] W fun e w'=>GpP lo M l W RES e w'):=fun W h=>by rw [hR];exact mS bt lo M l s W h hB nm
 clear hR
 go_enter Tryz.func20,Tryz.ntmps20
 go_upto_region 2 with (first
  | ((with_reducible refine jt 6 27 (.tmp 0) (#[.int .i64 bt]:Array Value) ?_ ?_ ?_ ?_ ?_);rfl;rfl;kernel_rfl;rfl;intro w1 b1 H1)
  | ((with_reducible refine jt 11 24 (.tmp 5) X ?_ ?_ ?_ ?_ ?_);rfl;rfl;kernel_rfl;rfl;intro w2 b2 H2)
  | ((with_reducible refine jT 19 (.agg (hA j7)) w2 ?_ ?_ ?_ ?_);rfl;kernel_rfl;exact xI 22 rfl (hA j7) (yS _))
  | ((with_reducible refine qC 14 22 (hA j7) ?_ ?_ ?_ ?_ ?_);rfl;rfl;kernel_rfl;exact jv;intro w3 b3 H3)
  | ((with_reducible refine qj 22 (.tmp 14) (.tmp 19) b3 (hA j7) (hA j7) ?_ ?_ ?_ ?_ ?_ ?_ ?_ ?_ ?_ ?_);rfl;rfl;kernel_rfl;rfl;rfl;exact H3.o.2.2.1;exact (by rw [jK,hz32]);exact rfl;exact (jn _);intro w4 H4))
 have HE:Hid (EdI bt lo M l s w b1 b2 b3 X w4):=by
  obtain ⟨p1,p2,p3,p4⟩:=H1.o
  obtain ⟨q1,q2,q3,q4⟩:=H2.o
  obtain ⟨t1,t2,t3,t4⟩:=H3.o
  obtain ⟨u1,u2,u3⟩:=H4.o
  have g3:G w w3:=(G.trans (G.trans p2 q2) t2)
  exact ⟨qF (z8 HI.o g3) fun b hb=>u1.block b (by omega) (by omega),(u1.block b1 (by omega) (by omega)).trans ((t2.block b1 (by omega)).trans ((q2.block b1 (by omega)).trans p3)),(u1.block b2 (by omega) (by omega)).trans ((t2.block b2 (by omega)).trans q3),u2,(Kp.of g3).trans u1 fun b hb e=>by omega,by omega⟩
 clear H1 H2 H3 H4 HI
 have hzk:w4.cell? ⟨b2,0,none⟩=some (.int .i64 v.kind):=by rw [j9 HE.o.v2];exact x0
 rw [hk] at hzk
 have hnI:(n:Int)<N:=by omega
 have hnm4:w4.cell? ⟨g,n,none⟩=some (.string nm):=by
  have hg:=World.block_lt_of_cell? w _ hnm
  have hb:=HE.o.kp.block g hg hnM
  simp only [World.cell?] at hnm ⊢
  rw [hb]
  exact hnm
 go_upto_region 23 with fail
 refine rege23 M b1 g N nc n nm bt (fun _ W=>G w4 W) (fun r' W=>GpP lo M l w RES (.returned (r' 1)) W) (fun W=>G w4 W) _ w4 rfl rfl rfl rfl rfl (by omega) (hT:=?t) (hb0:=fun _ _ q=>q) (hc1:=?c1) (hl0:=fun W q=>Lies.of_heap ((q.block b1 (ga HE.o.v1).1).trans HE.o.v1)) (hl5:=fun W q=>q.cell hnm4) (hst0:=fun _=>G.drew _) (hQ:=?q)
 case t=>
  intro r' W q
  obtain ⟨a,b,e,_⟩:=q.tup
  exact ⟨a,.bool b,e⟩
 case c1=>
  intro r' W q
  refine (CG.o W (HE.o.up q).rf).mono ?_
  intro e W2 h
  have h:=h.base (HE.o.up q).kp
  have:∃ u,e=.returned u:=by
   obtain ⟨_,v,s',_,h3⟩:=h
   rcases h3 with ⟨_,h3⟩ | ⟨T,_,h3,_⟩
   ·exact ⟨_,h3⟩
   ·exact ⟨_,h3⟩
  obtain ⟨u,rfl⟩:=this
  exact ⟨u,rfl,by rw [jA];exact h⟩
 case q=>
  intro r' w5 q
  obtain ⟨a,b,e,_⟩:=q.tup
  rw [folde23]
  rw [e] at q ⊢
  simp only [tup0,tup1]
  have HQ:=hid q
  clear q e
  go_simp
  go_wp2_with fail
  go_ret2
  exact HQ.o
theorem i4 (bt:Int) (lo M:Nat) (l:List Int) (s:Wi.St) (w:World) (hr:Wi.RfS w lo M l s) (_:Wire.Bytes l) (v:Vd) (na:Option Addr) (N nc n:Nat) (kind:Int) (h2:¬ (kind=2∧n=N∧v.kind≠0)) (h4:¬ (kind=4∧n<N∧v.kind=0)) (h3:¬ (kind=3∧n<N∧v.kind=0)) (RES:Option (List Nat × Wi.St)) (hR:RES=none):
  Calls Tryz.prog 20 #[.agg #[.int .i64 bt],.pointer (some ⟨M,0,none⟩),.int .u8 kind,.slice na N nc,.int .i64 (n:Int),.agg (vx v).toArray] w fun e w'=>GpP lo M l w RES e w':=by
 have hz32:(hA j7).size=32:=jG jC
 have hMw:=qi hr
 have HI:=hid hr
 obtain ⟨X,hX⟩:∃ X:Array Value,X=(vx v).toArray:=⟨_,rfl⟩
 have x0:X[0]?=some (.int .i64 v.kind):=by rw [hX];rfl
 have x1:X[1]?=some (.int .i64 v.mode):=by rw [hX];rfl
 have HX:Hid (X=(vx v).toArray∧X.size=35):=⟨hX,by rw [hX];exact jx v⟩
 rw [← hX]
 clear hr hX
 have HR:=hid hR
 clear hR
 go_enter Tryz.func20,Tryz.ntmps20
 go_upto_region 2 with (first
  | ((with_reducible refine jt 6 27 (.tmp 0) (#[.int .i64 bt]:Array Value) ?_ ?_ ?_ ?_ ?_);rfl;rfl;kernel_rfl;rfl;intro w1 b1 H1)
  | ((with_reducible refine jt 11 24 (.tmp 5) X ?_ ?_ ?_ ?_ ?_);rfl;rfl;kernel_rfl;rfl;intro w2 b2 H2)
  | ((with_reducible refine jT 19 (.agg (hA j7)) w2 ?_ ?_ ?_ ?_);rfl;kernel_rfl;exact xI 22 rfl (hA j7) (yS _))
  | ((with_reducible refine qC 14 22 (hA j7) ?_ ?_ ?_ ?_ ?_);rfl;rfl;kernel_rfl;exact jv;intro w3 b3 H3)
  | ((with_reducible refine qj 22 (.tmp 14) (.tmp 19) b3 (hA j7) (hA j7) ?_ ?_ ?_ ?_ ?_ ?_ ?_ ?_ ?_ ?_);rfl;rfl;kernel_rfl;rfl;rfl;exact H3.o.2.2.1;exact (by rw [jK,hz32]);exact rfl;exact (jn _);intro w4 H4))
 have HE:Hid (EdI bt lo M l s w b1 b2 b3 X w4):=by
  obtain ⟨p1,p2,p3,p4⟩:=H1.o
  obtain ⟨q1,q2,q3,q4⟩:=H2.o
  obtain ⟨t1,t2,t3,t4⟩:=H3.o
  obtain ⟨u1,u2,u3⟩:=H4.o
  have g3:G w w3:=(G.trans (G.trans p2 q2) t2)
  exact ⟨qF (z8 HI.o g3) fun b hb=>u1.block b (by omega) (by omega),(u1.block b1 (by omega) (by omega)).trans ((t2.block b1 (by omega)).trans ((q2.block b1 (by omega)).trans p3)),(u1.block b2 (by omega) (by omega)).trans ((t2.block b2 (by omega)).trans q3),u2,(Kp.of g3).trans u1 fun b hb e=>by omega,by omega⟩
 clear H1 H2 H3 H4 HI
 have hzk:w4.cell? ⟨b2,0,none⟩=some (.int .i64 v.kind):=by rw [j9 HE.o.v2];exact x0
 obtain ⟨kd,hkd⟩:∃ k,v.kind=k:=⟨_,rfl⟩
 rw [hkd] at hzk h2 h4 h3
 have HF:Hid (∀ x,GpP lo M l w RES (.returned (.tuple #[x,.bool false])) w4):=fun x=>⟨HE.o.kp,x,s,HE.o.rf,.inl ⟨HR.o,rfl⟩⟩
 clear hkd HE
 by_cases k2:kind=2
 ·subst k2
  by_cases hnN:n=N
  ·have hk0:kd=0:=Classical.byContradiction fun h=>h2 ⟨rfl,hnN,h⟩
   subst hk0 hnN
   clear h2 h3 h4
   go_wp2_with fail
   go_ret2
   exact HF.o _
  ·clear h2 h3 h4
   have hnI:¬ ((n:Int)=N):=by omega
   go_wp2_with fail
   go_ret2
   exact HF.o _
 ·have k2b:(kind==2)=false:=by simpa using k2
  by_cases k4:kind=4
  ·subst k4
   by_cases hnN:n<N
   ·have hk0:(kd==0)=false:=by rw [beq_eq_false_iff_ne];exact fun h=>h4 ⟨rfl,hnN,h⟩
    have hnI:(n:Int)<N:=by omega
    clear h2 h3 h4
    go_wp2_with fail
    go_ret2
    exact HF.o _
   ·have hnI:¬ (n:Int)<N:=by omega
    clear h2 h3 h4
    go_wp2_with fail
    go_ret2
    exact HF.o _
  ·have k4b:(kind==4)=false:=by simpa using k4
   by_cases k3:kind=3
   ·subst k3
    by_cases hnN:n<N
    ·have hk0:(kd==0)=false:=by rw [beq_eq_false_iff_ne];exact fun h=>h3 ⟨rfl,hnN,h⟩
     have hnI:(n:Int)<N:=by omega
     clear h2 h3 h4
     go_wp2_with fail
     go_ret2
     exact HF.o _
    ·have hnI:¬ (n:Int)<N:=by omega
     clear h2 h3 h4
     go_wp2_with fail
     go_ret2
     exact HF.o _
   ·have k3b:(kind==3)=false:=by simpa using k3
    clear h2 h3 h4
    go_wp2_with fail
    go_ret2
    exact HF.o _
theorem eZ (bt:Int) (lo M:Nat) (l:List Int) (s:Wi.St) (w:World) (hr:Wi.RfS w lo M l s) (hB:Wire.Bytes l) (v:Vd) (na:Option Addr) (nc n:Nat) (names:List ByteArray) (hnm:∀ i s,names[i]?=some s→∃ g,na=some ⟨g,0,none⟩∧g≠M∧w.cell? ⟨g,i,none⟩=some (.string s)) (hv:v.kind≠0→VdOk v) (hvB:valB v=true) (kind:Int):
  Calls Tryz.prog 20 #[.agg #[.int .i64 bt],.pointer (some ⟨M,0,none⟩),.int .u8 kind,.slice na names.length nc,.int .i64 (n:Int),.agg (vx v).toArray] w fun e w'=>GpP lo M l w (xL (sumS bt) l names v n kind s) e w':=by
 unfold xL
 split
 ·rename_i h
  obtain ⟨rfl,h1,h2⟩:=h
  have hk:v.kind=1∨v.kind=2∨v.kind=3:=by
   rw [xm v h2] at hvB
   unfold jV at hvB
   by_cases a:v.kind=1
   ·exact .inl a
   ·by_cases b:v.kind=2
    ·exact .inr (.inl b)
    ·by_cases c:v.kind=3
     ·exact .inr (.inr c)
     ·rw [if_neg a,if_neg b,if_neg c] at hvB
      cases hvB
  rcases hk with hk | hk
  ·exact mH bt lo M l s w hr hB v na names.length nc n h1 (hv h2) hk _ rfl
  ·refine eX bt lo M l s w hr hB v na names.length nc n h1 (hv h2) hk _ ?_
   unfold bn
   rw [if_neg (by omega)]
 ·rename_i c2
  split
  ·rename_i h
   obtain ⟨rfl,h1,h2⟩:=h
   exact eY bt lo M l s w hr hB v na names.length nc n h1 h2 _ rfl
  ·rename_i c4
   split
   ·rename_i h
    obtain ⟨rfl,h1,h2⟩:=h
    obtain ⟨g,e1,e2,e3⟩:=hnm n _ (gl h1)
    refine mK bt lo M l s w hr hB v na names.length nc n h1 h2 _ g e1 e3 e2 _ ?_
    rw [List.getD_eq_getElem?_getD,gl h1]
    rfl
   ·rename_i c3
    exact i4 bt lo M l s w hr hB v na names.length nc n kind c2 c4 c3 _ rfl
theorem ek64:Ek 64 72 4:=⟨Tryz.underlying64,by decide,by decide,.agg #[.int .i64 0,.int .i64 0,.int .i64 0,.slice none 0 0],48,by rfl,by decide,by kernel_rfl⟩
def z72:Array Value:=#[.int .i64 0,.int .i64 0,.int .i64 0,.slice none 0 0]
theorem vy:(Tryz.prog.info? 72).bind (·.zero)=some (.agg z72):=by kernel_rfl
theorem pi:(Tryz.prog.info? 72).map (·.size)=some 4:=by kernel_rfl
theorem one4 (a b c:Int) (p:Option Addr) (n k:Nat):(#[.int .i64 a,.int .i64 b,.int .i64 c,.slice p n k]:Array Value).all (·.oneCell')=true:=by simp [Value.oneCell']
def LvAt (w:World) (lo:Nat) (c:Array Value) (q:Sq):Prop:=∃ a n k,c=#[.int .i64 (q.mode:Int),.int .i64 (q.sp.count:Int),.int .i64 (q.sp.place:Int),.slice a n k]∧OwL 22 32 w lo (.slice a n k) (q.sp.sib.map hA)∧SpOk q.sp∧q.mode≤8
theorem LvAt.size {w:World} {lo:Nat} {c:Array Value} {q:Sq} (h:LvAt w lo c q):c.size=4:=by obtain ⟨a,n,k,rfl,_⟩:=h;rfl
theorem LvAt.one {w:World} {lo:Nat} {c:Array Value} {q:Sq} (h:LvAt w lo c q):c.all (·.oneCell')=true:=by obtain ⟨a,n,k,rfl,_⟩:=h;exact one4 _ _ _ _ _ _
theorem LvAt.keep {w w':World} {lo:Nat} {c:Array Value} {q:Sq} (h:LvAt w lo c q) (hk:∀ (b:Nat) (cs:Array Value),w.heap[b]?=some (Obj.cells cs 22 (0,0))→w'.heap[b]?=w.heap[b]?):LvAt w' lo c q:=by
 obtain ⟨a,n,k,h1,h2,h3⟩:=h
 exact ⟨a,n,k,h1,h2.block fun b hb=>by obtain ⟨cs,q⟩:=OwL.ty h2 hb;exact hk b cs q,h3⟩
theorem LvAt.mono {w:World} {lo lo':Nat} {c:Array Value} {q:Sq} (h:LvAt w lo c q) (hl:lo'≤lo):LvAt w lo' c q:=by
 obtain ⟨a,n,k,h1,h2,h3⟩:=h
 exact ⟨a,n,k,h1,h2.mono hl,h3⟩
def LvL (w:World) (lo:Nat) (v:Value) (L:List Sq):Prop:=∃ cs,OwL 72 4 w lo v cs∧All2 (LvAt w lo) cs L
theorem LvL.nil (w:World) (lo:Nat):LvL w lo (.slice none 0 0) []:=⟨[],OwL.nil _ _ _ _,trivial⟩
theorem LvL.form {w:World} {lo:Nat} {v:Value} {L:List Sq} (h:LvL w lo v L):∃ a c,v=.slice a L.length c:=by
 obtain ⟨cs,h1,h2⟩:=h
 obtain ⟨p,c,e⟩:=h1.form
 exact ⟨p,c,by rw [e,h2.len]⟩
theorem LvL.keep {w w':World} {lo:Nat} {v:Value} {L:List Sq} (h:LvL w lo v L) (hk:∀ (b:Nat) (cs:Array Value) (Ty:TypeId),w.heap[b]?=some (.cells cs Ty (0,0))→Ty=22∨(Ty=72∧v.ownBlock=some b)→w'.heap[b]?=w.heap[b]?):LvL w' lo v L:=by
 obtain ⟨cs,h1,h2⟩:=h
 exact ⟨cs,h1.block fun b hb=>by obtain ⟨c,q⟩:=OwL.ty h1 hb;exact hk b c _ q (.inr ⟨rfl,hb⟩),h2.mono fun a b q=>q.keep fun b cs q=>hk b cs _ q (.inl rfl)⟩
theorem LvL.lt {w:World} {lo:Nat} {v:Value} {L:List Sq} (h:LvL w lo v L):∀ b,v.ownBlock=some b→lo≤b∧b<w.heap.size:=by
 obtain ⟨cs,h1,h2⟩:=h
 exact h1.lt
theorem LvL.app {w:World} {lo:Nat} {v:Value} {L:List Sq} (h:LvL w lo v L) (ty:TypeId) {Z:Array Value} {q:Sq} (hZ:LvAt w lo Z q) (hb:lo≤w.heap.size) (hl:L.length≤1000) (B:Nat) (hB:w.heap.size=B):
  ∃ v' w',(Builtin.append_ #[64,64] ty #[v,.slice (some ⟨B,0,none⟩) 1 1]).run Tryz.prog (w.alloc (.cells Z 72))=.ok v' w'∧LvL w' lo v' (L++[q])∧(∀ (b:Nat) (cs:Array Value) (T:TypeId),w.heap[b]?=some (Obj.cells cs T (0,0))→T≠72→w'.heap[b]?=w.heap[b]?)∧Kp (fun b=>lo≤b) w w':=by
 obtain ⟨cs,q1,q2⟩:=h
 obtain ⟨v',w',a1,a2,a3,a4⟩:=zy ek64 ty Z hZ.size hZ.one q1 hb (by rw [q2.len];omega) B hB
 have hne:∀ (b:Nat) (cs:Array Value) (T:TypeId),w.heap[b]?=some (Obj.cells cs T (0,0))→T≠72→w'.heap[b]?=w.heap[b]?:=fun b cs T q qT=>a3.block b (ga q).1 fun e=>by
  obtain ⟨cs',q'⟩:=OwL.ty q1 e.symm
  rw [q] at q'
  cases q'
  exact qT rfl
 exact ⟨v',w',a1,⟨cs++[Z],a2,(q2.mono fun a b q=>q.keep fun b cs q'=>hne b cs 22 q' (by decide)).snoc (hZ.keep fun b cs q'=>hne b cs 22 q' (by decide))⟩,hne,(Kp.grown a3).mono fun b _ e=>(q1.lt b e).1⟩
theorem LvL.at {w:World} {lo:Nat} {v:Value} {L:List Sq} (h:LvL w lo v L) {i:Nat} {q:Sq} (hi:L[i]?=some q):∃ g c Z,v=.slice (some ⟨g,0,none⟩) L.length c∧Hm.Lies w g (i*4) Z∧LvAt w lo Z q:=by
 obtain ⟨cs,h1,h2⟩:=h
 obtain ⟨Z,e1,e2⟩:=h2.at hi
 obtain ⟨_,⟨_,e⟩ | ⟨g',cp,cur,rfl,_⟩⟩:=h1.own
 ·rw [h2.len] at e
  have:=(List.getElem?_eq_some_iff.1 hi).1
  omega
 ·rcases h1.has with ⟨e,_⟩ | ⟨g,o,cap,e,hc,hl⟩
  ·cases e
  ·injection e with e1' e2'
   injection e1' with e1'
   injection e1' with e1' e3'
   subst e1' e3'
   refine ⟨g',cp,Z,by rw [h2.len],?_,e2⟩
   have:=hl i Z e1
   simpa using this
structure RkI (bt:Int) (lo M:Nat) (l:List Int) (s:Wi.St) (W:World) (b4 b6:Nat) (X:Array Value) (na:Option Addr) (names:List ByteArray) (v:Value) (L:List Sq) (w:World):Prop where
 rf:Wi.RfS w lo M l s
 v4:w.heap[b4]?=some (.cells #[.int .i64 bt] 27 (0,0))
 v6:w.heap[b6]?=some (.cells X 24 (0,0))
 nm:∀ i s,names[i]?=some s→∃ g,na=some ⟨g,0,none⟩∧g<M∧W.heap.size≤g∧(∃ c,w.heap[g]?=some (.cells c 9 (0,0)))∧w.cell? ⟨g,i,none⟩=some (.string s)
 lv:LvL w W.heap.size v L
 g:G W w
 lo:W.heap.size≤M∧b4<M∧b6<M∧W.heap.size≤b4∧W.heap.size≤b6
theorem qH {w w':World} {b i:Nat} {x:Value} (h:w.cell? ⟨b,i,none⟩=some x) (hb:w'.heap[b]?=w.heap[b]?):w'.cell? ⟨b,i,none⟩=some x:=by
 simp only [World.cell?] at h ⊢
 rw [hb]
 exact h
theorem RkI.up {bt:Int} {lo M:Nat} {l:List Int} {s:Wi.St} {W:World} {b4 b6:Nat} {X:Array Value} {na:Option Addr} {names:List ByteArray} {v:Value} {L:List Sq} {w w':World} (h:RkI bt lo M l s W b4 b6 X na names v L w) (hg:G w w'):RkI bt lo M l s W b4 b6 X na names v L w':=
 ⟨z8 h.rf hg,(hg.block b4 (ga h.v4).1).trans h.v4,(hg.block b6 (ga h.v6).1).trans h.v6,fun i s hi=>by obtain ⟨g,e1,e2,e3,⟨c,e4⟩,e5⟩:=h.nm i s hi;exact ⟨g,e1,e2,e3,⟨c,(hg.block g (ga e4).1).trans e4⟩,hg.cell e5⟩,h.lv.keep fun b cs T q _=>hg.block b (ga q).1,h.g.trans hg,h.lo⟩
theorem RkI.rd {bt:Int} {lo M:Nat} {l:List Int} {s s':Wi.St} {W:World} {b4 b6:Nat} {X:Array Value} {na:Option Addr} {names:List ByteArray} {v:Value} {L:List Sq} {w w':World} (h:RkI bt lo M l s W b4 b6 X na names v L w) (hr:Wi.RfS w' lo M l s') (hk:Kp (fun b=>b=M) w w'):RkI bt lo M l s' W b4 b6 X na names v L w':=by
 obtain ⟨c67,h67⟩:=an h.rf
 exact ⟨hr,(hk.block b4 (ga h.v4).1 (by have:=h.lo;omega)).trans h.v4,(hk.block b6 (ga h.v6).1 (by have:=h.lo;omega)).trans h.v6,fun i s hi=>by obtain ⟨g,e1,e2,e3,⟨c,e4⟩,e5⟩:=h.nm i s hi;have hb:=hk.block g (ga e4).1 (by omega);exact ⟨g,e1,e2,e3,⟨c,hb.trans e4⟩,qH e5 hb⟩,h.lv.keep fun b cs T q hT=>hk.block b (ga q).1 fun e=>by (rw [e,h67] at q;injection q with q;injection q with _ q;rcases hT with hT | hT;rw [hT] at q;exact absurd q (by decide);rw [hT.1] at q;exact absurd q (by decide)),((Kp.of (S:=fun b=>W.heap.size≤b) h.g).trans hk fun b _ e=>by rw [e];exact h.lo.1).below (Nat.le_refl _) fun b e=>e,h.lo⟩
theorem RkI.var {bt:Int} {lo M:Nat} {l:List Int} {s:Wi.St} {W:World} {b4 b6 c:Nat} {X:Array Value} {na:Option Addr} {names:List ByteArray} {v:Value} {L:List Sq} {w w':World} (h:RkI bt lo M l s W b4 b6 X na names v L w) (hk:Kp (fun b=>b=c) w w') (hc:M<c) {Z:Array Value} (hZ:w.heap[c]?=some (.cells Z 72 (0,0))) (hv:v.ownBlock≠some c):RkI bt lo M l s W b4 b6 X na names v L w':=
 ⟨qF h.rf fun b hb=>hk.block b (by have:=qi h.rf;omega) (by omega),(hk.block b4 (ga h.v4).1 (by have:=h.lo;omega)).trans h.v4,(hk.block b6 (ga h.v6).1 (by have:=h.lo;omega)).trans h.v6,fun i s hi=>by obtain ⟨g,e1,e2,e3,⟨c',e4⟩,e5⟩:=h.nm i s hi;have hb:=hk.block g (ga e4).1 (by omega);exact ⟨g,e1,e2,e3,⟨c',hb.trans e4⟩,qH e5 hb⟩,h.lv.keep fun b cs T q hT=>hk.block b (ga q).1 fun e=>by (rw [e] at q hT;rcases hT with hT | hT;(rw [hZ] at q;injection q with q;injection q with _ q;rw [hT] at q;exact absurd q (by decide));exact hv hT.2),((Kp.of (S:=fun b=>W.heap.size≤b) h.g).trans hk fun b _ e=>by rw [e];have:=h.lo;omega).below (Nat.le_refl _) fun b e=>e,h.lo⟩
theorem RkI.app {bt:Int} {lo M:Nat} {l:List Int} {s:Wi.St} {W:World} {b4 b6:Nat} {X:Array Value} {na:Option Addr} {names:List ByteArray} {v:Value} {L:List Sq} {w:World} (h:RkI bt lo M l s W b4 b6 X na names v L w) (ty:TypeId) {Z:Array Value} {q:Sq} (hZ:LvAt w W.heap.size Z q) (hl:L.length≤1000) (B:Nat) (hB:w.heap.size=B):
  ∃ v' w',(Builtin.append_ #[64,64] ty #[v,.slice (some ⟨B,0,none⟩) 1 1]).run Tryz.prog (w.alloc (.cells Z 72))=.ok v' w'∧RkI bt lo M l s W b4 b6 X na names v' (L++[q]) w':=by
 obtain ⟨v',w',a1,a2,a3,a4⟩:=h.lv.app ty hZ h.g.size hl B hB
 obtain ⟨xr,hh,ho,hkk,hll,hpp,hnn⟩:=h.rf
 refine ⟨v',w',a1,⟨xr,(a3 M _ _ hh (by decide)).trans hh,ho.block fun b hb=>?_,hkk,hll,hpp,hnn⟩,(a3 b4 _ _ h.v4 (by decide)).trans h.v4,(a3 b6 _ _ h.v6 (by decide)).trans h.v6,fun i s hi=>?_,a2,((Kp.of (S:=fun b=>W.heap.size≤b) h.g).trans a4 fun b _ e=>e).below (Nat.le_refl _) fun b e=>e,h.lo⟩
 ·obtain ⟨_,⟨rfl,_⟩ | ⟨g,cp,cur,rfl,_,rh,_⟩⟩:=ho
  ·cases hb
  ·have:g=b:=by simpa [Value.ownBlock] using hb
   subst this
   exact a3 g _ _ rh (by decide)
 ·obtain ⟨g,e1,e2,e3,⟨c,e4⟩,e5⟩:=h.nm i s hi
  have hb:=a3 g c 9 e4 (by decide)
  exact ⟨g,e1,e2,e3,⟨c,hb.trans e4⟩,qH e5 hb⟩
end Go.Proofs.YtdeanahpiigonaaGreatDoor
