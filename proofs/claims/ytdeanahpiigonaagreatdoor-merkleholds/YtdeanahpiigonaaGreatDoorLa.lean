import Derived.Deep.CutBlock
import Derived.Test.YtdeanahpiigonaaGreatDoorCb
set_option maxRecDepth 100000
set_option maxHeartbeats 64000000
namespace Go.Proofs.YtdeanahpiigonaaGreatDoor
open Go.RowKit Hm
attribute [local go_sem] Oper.semAt_some
theorem build72 (a b:Int) (w:World):(Instr.build 72 #[(0,.int .i64 a),(1,.int .i64 b)]).run Tryz.prog w=.ok (.agg #[.int .i64 a,.int .i64 b,.int .i64 0,.slice none 0 0]) w:=by kernel_rfl
theorem nZ {p:ByteArray} (h:Pa.splitE (Pa.tl p) 64=0) {i:Nat} {s:ByteArray} (hs:(qX p)[i]?=some s):s.size≤255:=by
 unfold qX at hs
 rw [List.getElem?_map] at hs
 cases hq:(Pa.splitL (Pa.tl p) 64)[i]? with
 | none=>rw [hq] at hs;cases hs
 | some x=>
  rw [hq] at hs
  have hm:=List.mem_of_getElem? hq
  unfold Pa.splitL at hm
  rw [if_pos h] at hm
  unfold Pa.splitE at h
  split at h
  ·cases h
  ·split at h
   ·rename_i ha
    have:=List.all_eq_true.1 ha x hm
    unfold Pa.nameB at this
    simp at this
    simp at hs
    subst hs
    have e:(ofB x).size=x.length:=by simp [ofB,ByteArray.size]
    omega
   ·cases h
theorem nd {bt:Int} {lo M:Nat} {l:List Int} {s:Wi.St} {W:World} {b4 b6:Nat} {X:Array Value} {na:Option Addr} {names:List ByteArray} {v:Value} {L:List Sq} {w w':World} (h:RkI bt lo M l s W b4 b6 X na names v L w) (hk:K25 w w') (hp:Kp (fun b=>W.heap.size≤b) w w'):RkI bt lo M l s W b4 b6 X na names v L w':=by
 obtain ⟨xr,hh,ho,hkk,hll,hpp,hnn⟩:=h.rf
 refine ⟨⟨xr,(hk M _ _ hh (by decide)).trans hh,ho.block fun b hb=>?_,hkk,hll,hpp,hnn⟩,(hk b4 _ _ h.v4 (by decide)).trans h.v4,(hk b6 _ _ h.v6 (by decide)).trans h.v6,fun i s hi=>?_,h.lv.keep fun b cs T q hT=>hk b cs T q (by rcases hT with hT | hT;rw [hT];decide;rw [hT.1];decide),((Kp.of (S:=fun b=>W.heap.size≤b) h.g).trans hp fun b _ e=>e).below (Nat.le_refl _) fun b e=>e,h.lo⟩
 ·obtain ⟨_,⟨rfl,_⟩ | ⟨g,cp,cur,rfl,_,rh,_⟩⟩:=ho
  ·cases hb
  ·have:g=b:=by simpa [Value.ownBlock] using hb
   subst this
   exact hk g _ _ rh (by decide)
 ·obtain ⟨g,e1,e2,e3,⟨c,e4⟩,e5⟩:=h.nm i s hi
  have hb:=hk g c 9 e4 (by decide)
  exact ⟨g,e1,e2,e3,⟨c,hb.trans e4⟩,qH e5 hb⟩
theorem bC (bt:Int) (p:ByteArray) (v:Vd) (pv:Value) (l:List Int) (w:World) (hp:Wi.Has w pv l) (hB:Wire.Bytes l) (hl:l.length≤100000) (hps:p.size≤1048576) (hvs:Su.Bytes v.sum):
  Calls Tryz.prog 6 #[.agg #[.int .i64 bt],.string p,.agg (vx v).toArray,pv] w fun e w'=>RkP w (refO (sumS bt) p v l) e w':=by
 obtain ⟨X,hX⟩:∃ X:Array Value,X=(vx v).toArray:=⟨_,rfl⟩
 have HX:Hid (X=(vx v).toArray∧X.size=35):=⟨hX,by rw [hX];exact jx v⟩
 have CS:Hid (∀ W,Calls Tryz.prog 14 #[.string p,.int .i64 64] W fun e w'=>(∃ v L,e=.returned (.tuple #[v,.int .i64 (Pa.splitE (Pa.tl p) 64)])∧Pa.OwnsT w' W.heap.size v L∧L.map Pa.tl=Pa.splitL (Pa.tl p) 64)∧Below W.heap.size W w'):=fun W=>Pa.refSplit_any p 64 W hps
 have CR:Hid (∀ W,Calls Tryz.prog 15 #[.agg X] W fun e w'=>e=.returned (.bool (valB v))∧G W w'):=fun W=>by rw [hX];exact xB v W
 rw [← hX]
 have CO:Hid (∀ W u T,Su.Has W u T→Su.Bytes T→T.length≤100000→Calls Tryz.prog 7 #[.agg #[.int .i64 bt],u] W fun e W'=>e=.returned (.agg (hA (sumS bt T)))∧G W W'):=fun W u T h1 h2 h3=>bp bt u T W h1 h2 h3
 have CP:Hid (∀ (W:World) (lo0:Nat) (ub:Value) (t:List Nat) (count place:Nat) (sv:Value) (sib:List (List Nat)),Su.Owns W lo0 ub t→Su.Bytes t→t.length≤100000→count≤1048576→place<count→HsL 32 W sv (sib.map hA)→(∀ y∈sib,y.length=32∧Su.Bytes y)→sib.length=hgt count place→Calls Tryz.prog 21 #[.agg #[.int .i64 bt],ub,.int .i64 (count:Int),.int .i64 (place:Int),sv] W fun e w'=>∃ v T,e=.returned v∧Tx w' W.heap.size v T 22∧G W w'∧sumS bt T=yQ (sumS bt) (sumS bt t) count place sib.reverse∧Su.Bytes T∧T.length≤100000):=fun W lo0 ub t count place sv sib h1 h2 h3 h4 h5 h6 h7 h8=>gD bt ub t W lo0 h1 h2 h3 count place h4 h5 sv sib h6 h7 h8
 have C20v:valB v=true→Hid (∀ (W:World) (lo M:Nat) (names:List ByteArray) (na:Option Addr) (nc:Nat) (s':Wi.St) (n:Nat) (kd:Int),Wi.RfS W lo M l s'→(∀ i s,names[i]?=some s→∃ g,na=some ⟨g,0,none⟩∧g≠M∧W.cell? ⟨g,i,none⟩=some (.string s))→Calls Tryz.prog 20 #[.agg #[.int .i64 bt],.pointer (some ⟨M,0,none⟩),.int .u8 kd,.slice na names.length nc,.int .i64 (n:Int),.agg X] W fun e w'=>GpP lo M l W (xL (sumS bt) l names v n kd s') e w'):=fun hv W lo M names na nc s' n kd h1 h2=>by rw [hX];exact eZ bt lo M l s' W h1 hB v na nc n names h2 (a2d hvs hv) hv kd
 have hS:=zN bt
 clear hX
 obtain ⟨RT,hRT⟩:∃ RT,refO (sumS bt) p v l=RT:=⟨_,rfl⟩
 rw [hRT]
 unfold refO at hRT
 generalize sumS bt=S at *
 have HRT0:=hid hRT
 obtain ⟨se,hse⟩:∃ se,Pa.splitE (Pa.tl p) 64=se:=⟨_,rfl⟩
 rw [hse] at CS HRT0
 obtain ⟨pa,pc,hpe,_⟩:=hp.form
 subst hpe
 have HP:=hid hp
 clear hp hRT
 go_enter Tryz.func6,Tryz.ntmps6
 go_upto_region 2 with (first
  | ((with_reducible refine jt 4 27 (.tmp 0) (#[.int .i64 bt]:Array Value) ?_ ?_ ?_ ?_ ?_);rfl;rfl;kernel_rfl;rfl;intro w1 b1 H1)
  | ((with_reducible refine jt 6 24 (.tmp 2) X ?_ ?_ ?_ ?_ ?_);rfl;rfl;kernel_rfl;rfl;intro w2 b2 H2)
  | (go_at_call 14;go_loud (refine (CS.o w2).mono ?_;rintro e w3 ⟨⟨vn,names,rfl,q1,q2⟩,q3⟩;obtain ⟨na,nc,hne⟩:=Hm.row_form q1;subst hne;have HN3:Hid (Pa.OwnsT w3 w2.heap.size (.slice na names.length nc) names∧names.map Pa.tl=Pa.splitL (Pa.tl p) 64):=⟨q1,q2⟩;have H3:Hid (G w w3∧w3.heap[b1]?=some (.cells #[.int .i64 bt] 27 (0,0))∧w3.heap[b2]?=some (.cells X 24 (0,0))∧w.heap.size≤b1∧b1<b2∧b2<w3.heap.size∧w.heap.size≤w2.heap.size):=(by obtain ⟨p1,p2,p3,p4⟩:=H1.o;obtain ⟨t1,t2,t3,t4⟩:=H2.o;have s3:=q3.size;exact ⟨G.trans (G.trans p2 t2) q3,(q3.block b1 (by omega)).trans ((t2.block b1 (by omega)).trans p3),(q3.block b2 (by omega)).trans t3,by omega,by omega,by omega,by omega⟩);clear q1 q2 q3)))
 have HVN:Hid (names=qX p):=lW HN3.o.2
 by_cases hse0:se≠0
 ·have hRT:RT=none:=by rw [← HRT0.o,if_pos (.inr (.inr hse0))]
  have hsb:(se !=0)=true:=by simpa using hse0
  go_wp2_with fail
  go_ret2
  exact ⟨H3.o.1,_,.inl ⟨(by first | exact hRT | rfl),rfl⟩⟩
 ·have hsb:(se !=0)=false:=by simpa using hse0
  by_cases hvf:valB v=false
  ·have hRT:RT=none:=by rw [← HRT0.o,if_pos (.inr (.inl hvf))]
   rw [hvf] at CR
   go_wp2_with (first
    | ((with_reducible refine jE 28 24 (.tmp 6) b2 0 X _ ?_ ?_ ?_ ?_ ?_ jR ?_ ?_ ?_);rfl;rfl;kernel_rfl;rfl;exact Lies.of_heap H3.o.2.2.1;rfl;exact (by rw [qU,HX.o.2]))
    | (go_at_call 15;refine (CR.o w3).mono ?_;rintro e w4 ⟨rfl,q⟩;have H4:=hid (H3.o.1.trans q);clear q))
   go_ret2
   exact ⟨H4.o,_,.inl ⟨(by first | exact hRT | rfl),rfl⟩⟩
  ·have hvt:valB v=true:=by simpa using hvf
   have C20':=C20v hvt
   rw [hvt] at CR
   by_cases hlen:90000<l.length
   ·have hRT:RT=none:=by rw [← HRT0.o,if_pos (.inl hlen)]
    have hlI:(90000:Int)<l.length:=by omega
    go_wp2_with (first
     | ((with_reducible refine jE 28 24 (.tmp 6) b2 0 X _ ?_ ?_ ?_ ?_ ?_ jR ?_ ?_ ?_);rfl;rfl;kernel_rfl;rfl;exact Lies.of_heap H3.o.2.2.1;rfl;exact (by rw [qU,HX.o.2]))
     | (go_at_call 15;refine (CR.o w3).mono ?_;rintro e w4 ⟨rfl,q⟩;have H4:=hid (H3.o.1.trans q);clear q))
    go_ret2
    exact ⟨H4.o,_,.inl ⟨(by first | exact hRT | rfl),rfl⟩⟩
   ·have hlI:¬ (90000:Int)<l.length:=by omega
    have hRT1:refT S l names v=RT:=by rw [← HRT0.o,if_neg (by rintro (h | h | h);exact hlen h;exact hvf h;exact hse0 h),HVN.o]
    have hN64:names.length≤64:=by rw [HVN.o];exact eK (by rw [hse];simpa using hse0)
    have HNM:Hid (∀ (i:Nat) (s:ByteArray),names[i]?=some s→s.size≤255):=by
     intro i s hi
     exact nZ (by rw [hse];simpa using hse0) (by rw [HVN.o] at hi;exact hi)
    unfold refT at hRT1
    simp only at hRT1
    have CB:Hid (∀ (W:World) (lo M:Nat) (s':Wi.St),Wi.RfS W lo M l s'→Calls Tryz.prog 17 #[.pointer (some ⟨M,0,none⟩)] W fun e w'=>e=.returned (.int .u8 (Wi.byteS l s').1)∧Wi.RfS w' lo M l (Wi.byteS l s').2∧Kp (fun b=>b=M) W w'):=fun W lo M s' h=>(Wi.bX lo M l s' W h).mono fun e w' q=>⟨q.1,q.2.1,yC q.2.2⟩
    have CRd:Hid (∀ W,Wi.Has W (.slice pa l.length pc) l→Calls Tryz.prog 16 #[.slice pa l.length pc] W fun e w'=>∃ R,e=.returned (.pointer (some ⟨R,0,none⟩))∧W.heap.size≤R∧Wi.RfS w' W.heap.size R l ⟨0,0,0⟩∧Below W.heap.size W w'):=fun W h=>Wi.fU _ l W h (by omega)
    obtain ⟨RS,hRS0⟩:∃ RS,yJ l names.length (Wi.byteS l ⟨0,0,0⟩).1 (Wi.byteS l ⟨0,0,0⟩).2=RS:=⟨_,rfl⟩
    rw [hRS0] at hRT1
    have HRT:=hid hRT1
    have HRS:=hid hRS0
    have CB0:=fun W lo M (h:Wi.RfS W lo M l ⟨0,0,0⟩)=>CB.o W lo M ⟨0,0,0⟩ h
    generalize Wi.byteS l ⟨0,0,0⟩=K0 at CB0 HRS
    obtain ⟨k0,s0⟩:=K0
    simp only at CB0 HRS
    have HCB0:=hid CB0
    clear hRT1 hRS0 CB0 HRT0 hse0 hvf C20v
    go_upto_block 0 with (first
     | ((with_reducible refine jE 28 24 (.tmp 6) b2 0 X _ ?_ ?_ ?_ ?_ ?_ jR ?_ ?_ ?_);rfl;rfl;kernel_rfl;rfl;exact Lies.of_heap H3.o.2.2.1;rfl;exact (by rw [qU,HX.o.2]))
     | (go_at_call 15;refine (CR.o w3).mono ?_;rintro e w4 ⟨rfl,q⟩;have H4:=hid q;clear q)
     | (go_at_call 16;refine (CRd.o w4 (HP.o.below (H3.o.1.trans H4.o))).mono ?_;rintro e w5 ⟨R,rfl,q1,q2,q3⟩;have H5:=hid (⟨q1,q2,q3⟩:_∧_∧_);clear q1 q2 q3)
     | (go_at_call 17;refine (HCB0.o w5 w4.heap.size R H5.o.2.1).mono ?_;rintro e w6 ⟨rfl,q1,q2⟩;have H6:=hid (⟨q1,q2⟩:_∧_);clear q1 q2))
    obtain ⟨lo,hlo⟩:∃ lo,w4.heap.size=lo:=⟨_,rfl⟩
    have HI:Hid (RkI bt lo R l s0 w b1 b2 X na names (.slice none 0 0) [] w6):=(by
     obtain ⟨a1,a2,a3⟩:=H5.o
     obtain ⟨c1,c2⟩:=H6.o
     obtain ⟨g0,e1,e2,e3,e4,e5,e6⟩:=H3.o
     have s4:=H4.o.size
     have s5:=a3.size
     have s6:=c2.size
     have g5:G w3 w5:=H4.o.trans a3
     have k6:Kp (fun b=>w.heap.size≤b) w w6:=(Kp.of (g0.trans g5)).trans c2 fun b _ e=>by have:=g0.size;omega
     refine ⟨by rw [← hlo];exact c1,(c2.block b1 (by have:=g5.size;omega) (by omega)).trans ((g5.block b1 (by omega)).trans e1),(c2.block b2 (by have:=g5.size;omega) (by omega)).trans ((g5.block b2 (by omega)).trans e2),fun i s hi=>?_,LvL.nil _ _,k6.below (Nat.le_refl _) fun b e=>e,by have:=g0.size;omega⟩
     obtain ⟨g,f1,f2,⟨c,f3⟩,f4⟩:=pj HN3.o.1 i s hi
     have hgl:=(ga f3).1
     have hb5:=g5.block g hgl
     have hb6:=c2.block g (by have:=g5.size;omega) (by omega)
     exact ⟨g,f1,by omega,by omega,⟨c,hb6.trans (hb5.trans f3)⟩,qH (qH f4 hb5) hb6⟩)
    have C20:Hid (∀ (W:World) (s':Wi.St) (n:Nat) (kd:Int),Wi.RfS W lo R l s'→(∀ i s,names[i]?=some s→∃ g,na=some ⟨g,0,none⟩∧g≠R∧W.cell? ⟨g,i,none⟩=some (.string s))→Calls Tryz.prog 20 #[.agg #[.int .i64 bt],.pointer (some ⟨R,0,none⟩),.int .u8 kd,.slice na names.length nc,.int .i64 (n:Int),.agg X] W fun e w'=>GpP lo R l W (xL S l names v n kd s') e w'):=fun W s' n kd h1 h2=>C20'.o W lo R names na nc s' n kd h1 h2
    have CBy:Hid (∀ (W:World) (s':Wi.St),Wi.RfS W lo R l s'→Calls Tryz.prog 17 #[.pointer (some ⟨R,0,none⟩)] W fun e w'=>e=.returned (.int .u8 (Wi.byteS l s').1)∧Wi.RfS w' lo R l (Wi.byteS l s').2∧Kp (fun b=>b=R) W w'):=fun W s' h=>CB.o W lo R s' h
    clear H1 H2 H3 H4 H5 H6 HP CB CRd CR CS HN3 C20' HCB0 hlo HVN hvt hsb hlI hlen
    go_cut [13,14] (fun x k wc=>∃ (kd:Int) (L:List Sq) (s':Wi.St),k=.int .u8 kd∧L.length≤names.length∧(∃ a c,x=.slice a L.length c)∧Hid (RkI bt lo R l s' w b1 b2 X na names x L wc∧RS=some (L,kd,s')))
    case first=>
     go_wp2_with fail
     go_loopw [13,14] (fun x k wr=>∃ (kd:Int) (L:List Sq) (s':Wi.St),k=.int .u8 kd∧L.length≤names.length∧(∃ a c,x=.slice a L.length c)∧Hid (RkI bt lo R l s' w b1 b2 X na names x L wr∧(yJ l (names.length-L.length) kd s').map (fun y=>(L++y.1,y.2))=RS)) (fun x _ _=>names.length-sLen x)
     case atStart=>exact ⟨k0,[],s0,rfl,by simp,⟨none,0,rfl⟩,HI.o,by simp only [List.length_nil,Nat.sub_zero,HRS.o,List.nil_append];cases RS<;>rfl⟩
     case round=>
      clear HI HRS
      obtain ⟨kd,L,s',rfl,hLN,⟨va0,vc0,rfl⟩,HR⟩:=hrel
      have hz2:wr.cell? ⟨R,2,none⟩=some (.int .i64 s'.fe):=by
       obtain ⟨x,hh,_⟩:=HR.o.1.rf
       rw [j9 hh];rfl
      obtain ⟨fe,hfe2⟩:∃ fe,s'.fe=fe:=⟨_,rfl⟩
      rw [hfe2] at hz2
      by_cases hfe:fe=0
      ·by_cases hk1:kd=1
       ·subst hk1 hfe
        by_cases hLl:L.length<names.length
        ·have hLlI:(L.length:Int)<names.length:=by omega
         have hR:=HR.o
         obtain ⟨m,hm⟩:∃ m,names.length-L.length=m+1:=⟨names.length-L.length-1,by omega⟩
         have C1:Hid (∀ W,Wi.RfS W lo R l s'→Calls Tryz.prog 18 #[.pointer (some ⟨R,0,none⟩),.int .u64 8] W fun e w'=>e=.returned (.int .u64 ((Wi.uintS l s' 8).1:Nat))∧Wi.RfS w' lo R l (Wi.uintS l s' 8).2∧Kp (fun b=>b=R) W w'):=fun W h=>refU h hB 8 8 rfl
         have l1:=kK l s' 8
         obtain ⟨A,hA1⟩:∃ A,Wi.uintS l s' 8=A:=⟨_,rfl⟩
         have C2:Hid (∀ W,Wi.RfS W lo R l A.2→Calls Tryz.prog 18 #[.pointer (some ⟨R,0,none⟩),.int .u64 1048576] W fun e w'=>e=.returned (.int .u64 ((Wi.uintS l A.2 1048576).1:Nat))∧Wi.RfS w' lo R l (Wi.uintS l A.2 1048576).2∧Kp (fun b=>b=R) W w'):=fun W h=>refU h hB 1048576 1048576 rfl
         have l2:=kK l A.2 1048576
         obtain ⟨B,hB1⟩:∃ B,Wi.uintS l A.2 1048576=B:=⟨_,rfl⟩
         have C3:Hid (∀ W,Wi.RfS W lo R l B.2→Calls Tryz.prog 18 #[.pointer (some ⟨R,0,none⟩),.int .u64 1048576] W fun e w'=>e=.returned (.int .u64 ((Wi.uintS l B.2 1048576).1:Nat))∧Wi.RfS w' lo R l (Wi.uintS l B.2 1048576).2∧Kp (fun b=>b=R) W w'):=fun W h=>refU h hB 1048576 1048576 rfl
         have l3:=kK l B.2 1048576
         obtain ⟨K,hK1⟩:∃ K,Wi.uintS l B.2 1048576=K:=⟨_,rfl⟩
         have hRS:=hR.2
         rw [hm,nY l m s' hfe2 A B K hA1 hB1 hK1] at hRS
         rw [hA1] at C1 l1
         rw [hB1] at C2 l2
         rw [hK1] at C3 l3
         obtain ⟨md,sA⟩:=A
         obtain ⟨ct,sB⟩:=B
         obtain ⟨pl,sC⟩:=K
         simp only at C1 C2 C3 l1 l2 l3 hRS
         have HR1:=hid hR.1
         have HRS:=hid hRS
         have hvb:∀ b,(Value.slice va0 L.length vc0).ownBlock=some b→b<wr.heap.size:=fun b hb=>(hR.1.lv.lt b hb).2
         have HVB:=hid hvb
         have hMw:=qi hR.1.rf
         clear hA1 hB1 hK1 hRS hR HR hvb hfe2
         go_upto_region 11 with (first
          | (go_at_call 18;refine (C3.o w6' H6'.o.1.rf).mono ?_;rintro e w7 ⟨rfl,q1,q2⟩;have H7:Hid (RkI bt lo R l sC w b1 b2 X na names (.slice va0 L.length vc0) L w7∧w7.heap[b15]?=some (.cells #[.int .i64 (md:Int),.int .i64 (ct:Int),.int .i64 0,.slice none 0 0] 72 (0,0))):=⟨H6'.o.1.rd q1 q2,(q2.block b15 (ga H6'.o.2).1 (by have:=HB15.o;omega)).trans H6'.o.2⟩;clear q1 q2)
          | (go_at_call 18;refine (C2.o w4' H4'.o.rf).mono ?_;rintro e w5' ⟨rfl,q1,q2⟩;have H5':=hid (H4'.o.rd q1 q2);clear q1 q2)
          | (go_at_call 18;refine (C1.o wr HR1.o.rf).mono ?_;rintro e w4' ⟨rfl,q1,q2⟩;have H4':=hid (HR1.o.rd q1 q2);have HZ4:=hid q1;have HS4:=hid q2.size;clear q1 q2)
          | ((with_reducible refine jT 65 (.agg (#[.int .i64 (md:Int),.int .i64 (ct:Int),.int .i64 0,.slice none 0 0]:Array Value)) w5' ?_ ?_ ?_ ?_);rfl;kernel_rfl;exact lA 72 0 1 (.tmp 61) (.tmp 64) rfl (.int .i64 (md:Int)) (.int .i64 (ct:Int)) rfl rfl _ (build72 _ _ _))
          | ((with_reducible refine qC 15 72 z72 ?_ ?_ ?_ ?_ ?_);rfl;rfl;kernel_rfl;exact vy;intro wa b15 H8)
          | ((with_reducible refine qo 72 (.tmp 15) (.tmp 65) b15 (#[.int .i64 (md:Int),.int .i64 (ct:Int),.int .i64 0,.slice none 0 0]:Array Value) z72 ?_ ?_ ?_ ?_ ?_ ?_ ?_ ?_ ?_ ?_);rfl;rfl;kernel_rfl;rfl;rfl;exact H8.o.2.2.1;exact pi;exact rfl;exact (one4 _ _ _ _ _ _);intro w6' k9 v9 s9;have H9:=hid (⟨k9,v9,s9⟩:_∧_∧_);clear k9 v9 s9;have HB15:Hid (R<b15∧(Value.slice va0 L.length vc0).ownBlock≠some b15∧w.heap.size≤b15):=(by obtain ⟨q1,q2,q3,q4⟩:=H8.o;have e4:=qi H5'.o.rf;have e5:=H5'.o.lv.lt;have e6:=H5'.o.g.size;exact ⟨by omega,fun e=>by have:=(e5 b15 e).2;omega,by omega⟩);have H6':Hid (RkI bt lo R l sB w b1 b2 X na names (.slice va0 L.length vc0) L w6'∧w6'.heap[b15]?=some (.cells #[.int .i64 (md:Int),.int .i64 (ct:Int),.int .i64 0,.slice none 0 0] 72 (0,0))):=(by obtain ⟨q1,q2,q3,q4⟩:=H8.o;obtain ⟨t1,t2,t3⟩:=H9.o;exact ⟨(H5'.o.up q2).var t1 HB15.o.1 q3 HB15.o.2.1,t2⟩))
          | ((with_reducible refine xO 3 (.tmp 69) (.tmp 68) b15 2 (.int .i64 (pl:Int)) 72 (#[.int .i64 (md:Int),.int .i64 (ct:Int),.int .i64 0,.slice none 0 0]:Array Value) ?_ ?_ ?_ ?_ ?_ ?_);rfl;rfl;kernel_rfl;(have hc9:=(show w7.cell? ⟨b15,2,none⟩=some (.int .i64 0) by rw [j9 H7.o.2];rfl);have hf9:=(show w7.frozen? ⟨b15,2,none⟩=false by simp [World.frozen?,H7.o.2]);unfold execOp;simp [hc9,hf9,go_sem]);exact H7.o.2;intro w8 k8 v8 s8;have H8':Hid (RkI bt lo R l sC w b1 b2 X na names (.slice va0 L.length vc0) L w8∧w8.heap[b15]?=some (.cells #[.int .i64 (md:Int),.int .i64 (ct:Int),.int .i64 (pl:Int),.slice none 0 0] 72 (0,0))):=⟨H7.o.1.var k8 HB15.o.1 H7.o.2 HB15.o.2.1,v8⟩;clear k8 v8 s8))
         have hz2':w8.cell? ⟨R,2,none⟩=some (.int .i64 sC.fe):=by
          obtain ⟨x,hh,_⟩:=H8'.o.1.rf
          rw [j9 hh];rfl
         have hzp:w8.cell? ⟨b15,2,none⟩=some (.int .i64 (pl:Int)):=by rw [j9 H8'.o.2];rfl
         have hzc:w8.cell? ⟨b15,1,none⟩=some (.int .i64 (ct:Int)):=by rw [j9 H8'.o.2];rfl
         obtain ⟨f3,hf3⟩:∃ f3,sC.fe=f3:=⟨_,rfl⟩
         rw [hf3] at hz2'
         clear hz2 H7 H8 H9 H6' H5' H4' HR1 HZ4 HS4 C1 C2 C3
         by_cases hf30:f3≠0
         ·have hRSn:RS=none:=by rw [← HRS.o,hf3,if_pos (.inl hf30)];rfl
          have hRT:RT=none:=by rw [← HRT.o,hRSn];rfl
          have hfb:(f3 !=0)=true:=by simpa using hf30
          clear hRSn
          go_wp2_with fail
          go_ret2
          exact ⟨H8'.o.1.g,_,.inl ⟨(by first | exact hRT | rfl),rfl⟩⟩
         ·have hfb:(f3 !=0)=false:=by simpa using hf30
          by_cases hpc:ct≤pl
          ·have hRSn:RS=none:=by rw [← HRS.o,if_pos (.inr hpc)];rfl
           have hRT:RT=none:=by rw [← HRT.o,hRSn];rfl
           have hpcI:(ct:Int)≤pl:=by omega
           clear hRSn
           go_wp2_with fail
           go_ret2
           exact ⟨H8'.o.1.g,_,.inl ⟨(by first | exact hRT | rfl),rfl⟩⟩
          ·have hpcI:¬ (ct:Int)≤pl:=by omega
           have hRS2:=HRS.o
           rw [if_neg (by rintro (h | h);exact hf30 (hf3 ▸ h);exact hpc h)] at hRS2
           have C19:Hid (∀ W,Wi.RfS W lo R l sC→Calls Tryz.prog 19 #[.pointer (some ⟨R,0,none⟩),.int .i64 (ct:Int),.int .i64 (pl:Int)] W fun e w'=>∃ v,e=.returned v∧OwL 22 32 w' W.heap.size v ((qf l (hgt ct pl) sC).1.map hA)∧Wi.RfS w' lo R l (qf l (hgt ct pl) sC).2∧Kp (fun b=>b=R) W w'):=fun W h=>aA lo R l sC W h hB ct pl l2 (by omega)
           have hsl:=xQ l (hgt ct pl) sC
           have hsok:=cP hB (hgt ct pl) sC
           generalize qf l (hgt ct pl) sC=D at C19 hsl hsok hRS2
           obtain ⟨sib,sD⟩:=D
           simp only at C19 hsl hsok hRS2
           have CB2:Hid (∀ W,Wi.RfS W lo R l sD→Calls Tryz.prog 17 #[.pointer (some ⟨R,0,none⟩)] W fun e w'=>e=.returned (.int .u8 (Wi.byteS l sD).1)∧Wi.RfS w' lo R l (Wi.byteS l sD).2∧Kp (fun b=>b=R) W w'):=fun W h=>CBy.o W sD h
           generalize Wi.byteS l sD=E2 at CB2 hRS2
           obtain ⟨kd2,s2⟩:=E2
           simp only at CB2 hRS2
           have hsp:SpOk ⟨ct,pl,sib⟩:=⟨by show pl<ct;omega,l2,hsl,hsok⟩
           obtain ⟨q,hq⟩:∃ q:Sq,q=⟨md,⟨ct,pl,sib⟩⟩:=⟨_,rfl⟩
           have hRS3:(yJ l m kd2 s2).map (fun y=>((L++[q])++y.1,y.2))=RS:=by
            rw [← hRS2,Option.map_map]
            congr 1
            funext y
            simp [hq]
           have HRS3:=hid hRS3
           have HSP:=hid hsp
           have HQ:=hid hq
           have hLm:names.length-(L++[q]).length=m:=by simp;omega
           have HLM:=hid hLm
           clear hRS2 hRS3 hsl hsok hsp HRS hq hLm
           go_wp2_with (first
            | (go_at_call 19;refine (C19.o w8 H8'.o.1.rf).mono ?_;rintro e w9 ⟨v9,rfl,q0,q1,q2⟩;obtain ⟨sa,sk,hse⟩:=q0.form;rw [List.length_map] at hse;subst hse;have H9:Hid (RkI bt lo R l sD w b1 b2 X na names (.slice va0 L.length vc0) L w9∧w9.heap[b15]?=some (.cells #[.int .i64 (md:Int),.int .i64 (ct:Int),.int .i64 (pl:Int),.slice none 0 0] 72 (0,0))∧OwL 22 32 w9 w.heap.size (.slice sa sib.length sk) (sib.map hA)):=⟨H8'.o.1.rd q1 q2,(q2.block b15 (ga H8'.o.2).1 (by have:=HB15.o;omega)).trans H8'.o.2,q0.mono H8'.o.1.g.size⟩;clear q0 q1 q2)
            | ((with_reducible refine xO 70 (.tmp 88) (.tmp 87) b15 3 (.slice sa sib.length sk) 72 (#[.int .i64 (md:Int),.int .i64 (ct:Int),.int .i64 (pl:Int),.slice none 0 0]:Array Value) ?_ ?_ ?_ ?_ ?_ ?_);rfl;rfl;kernel_rfl;(have hc9:=(show w9.cell? ⟨b15,3,none⟩=some (.slice none 0 0) by rw [j9 H9.o.2.1];rfl);have hf9:=(show w9.frozen? ⟨b15,3,none⟩=false by simp [World.frozen?,H9.o.2.1]);unfold execOp;simp [hc9,hf9,go_sem]);exact H9.o.2.1;intro w10 k10 v10 s10;have H10:Hid (RkI bt lo R l sD w b1 b2 X na names (.slice va0 L.length vc0) L w10∧w10.heap[b15]?=some (.cells #[.int .i64 (md:Int),.int .i64 (ct:Int),.int .i64 (pl:Int),.slice sa sib.length sk] 72 (0,0))∧LvAt w10 w.heap.size #[.int .i64 (md:Int),.int .i64 (ct:Int),.int .i64 (pl:Int),.slice sa sib.length sk] q):=⟨H9.o.1.var k10 HB15.o.1 H9.o.2.1 HB15.o.2.1,v10,(by rw [HQ.o];exact ⟨sa,sib.length,sk,rfl,H9.o.2.2.block fun b hb=>k10.block b (H9.o.2.2.lt b hb).2 fun e=>OwL.ne H9.o.2.2 H9.o.2.1 (by decide) (by rw [hb,e]),HSP.o,l1⟩)⟩;clear k10 v10 s10;obtain ⟨u11,w11,a1,a2⟩:=H10.o.1.app 64 H10.o.2.2 (by omega) _ rfl;have HAP:=hid a1;have H11:=hid a2;obtain ⟨ua,uc,hue⟩:=a2.lv.form;rw [show (L++[q]).length=L.length+1 from by simp] at hue;clear a1 a2)
            | ((with_reducible refine jE 90 72 (.tmp 15) b15 0 (#[.int .i64 (md:Int),.int .i64 (ct:Int),.int .i64 (pl:Int),.slice sa sib.length sk]:Array Value) _ ?_ ?_ ?_ ?_ ?_ Tryz.underlying72 ?_ ?_ ?_);rfl;rfl;kernel_rfl;rfl;exact Lies.of_heap H10.o.2.1;rfl;exact pi)
            | ((with_reducible refine jT 91 (.slice (some ⟨w10.heap.size,0,none⟩) 1 1) (w10.alloc (.cells #[.int .i64 (md:Int),.int .i64 (ct:Int),.int .i64 (pl:Int),.slice sa sib.length sk] 72)) ?_ ?_ ?_ ?_);rfl;kernel_rfl;exact jf ek64 _ rfl (.agg #[.int .i64 (md:Int),.int .i64 (ct:Int),.int .i64 (pl:Int),.slice sa sib.length sk]) #[.int .i64 (md:Int),.int .i64 (ct:Int),.int .i64 (pl:Int),.slice sa sib.length sk] rfl rfl rfl _ _ rfl)
            | ((with_reducible refine jT 92 u11 w11 ?_ ?_ ?_ ?_);rfl;kernel_rfl;exact qc rfl rfl rfl HAP.o;subst hue)
            | (go_at_call 17;refine (CB2.o w11 H11.o.rf).mono ?_;rintro e w12 ⟨rfl,q1,q2⟩;have H12:=hid (H11.o.rd q1 q2);clear q1 q2))
           go_roundw
           case rel=>
            refine ⟨kd2,L++[q],s2,rfl,by simp;omega,⟨ua,uc,by simp⟩,H12.o,?_⟩
            rw [HLM.o]
            exact HRS3.o
           case measure=>simp [sLen];omega
        ·have hLlI:¬ (L.length:Int)<names.length:=by omega
         have hRS:RS=some (L,1,s'):=by rw [← HR.o.2,xt l _ _ _ (.inl (by omega))];simp
         have hR1:=HR.o.1
         go_wp2_with fail
         go_meet
         case rel=>exact ⟨1,L,s',rfl,hLN,⟨_,_,rfl⟩,hR1,hRS⟩
       ·subst hfe
        have hkb:(kd==1)=false:=by simpa using hk1
        have hRS:RS=some (L,kd,s'):=by rw [← HR.o.2,xt l _ _ _ (.inr (fun h=>hk1 h.2))];simp
        have hR1:=HR.o.1
        go_wp2_with fail
        go_meet
        case rel=>exact ⟨kd,L,s',rfl,hLN,⟨_,_,rfl⟩,hR1,hRS⟩
      ·have hfb:(fe==0)=false:=by simpa using hfe
       have hRS:RS=some (L,kd,s'):=by rw [← HR.o.2,xt l _ _ _ (.inr (fun h=>hfe (hfe2 ▸ h.1)))];simp
       have hR1:=HR.o.1
       go_wp2_with fail
       go_meet
       case rel=>exact ⟨kd,L,s',rfl,hLN,⟨_,_,rfl⟩,hR1,hRS⟩
    case rest=>
     clear HI HRS CBy
     obtain ⟨kd,L,s',rfl,hLN,⟨va0,vc0,rfl⟩,HR⟩:=hcut
     have hRS:=HR.o.2
     have hR1:=HR.o.1
     generalize wc=wr at *
     have HRK:=hid hR1
     have HC20:Hid (Calls Tryz.prog 20 #[.agg #[.int .i64 bt],.pointer (some ⟨R,0,none⟩),.int .u8 kd,.slice na names.length nc,.int .i64 (L.length:Int),.agg X] wr fun e w'=>GpP lo R l wr (xL S l names v L.length kd s') e w'):=by
      have h:=C20.o wr s' L.length kd hR1.rf (fun i s hi=>by obtain ⟨g,e1,e2,_,_,e5⟩:=hR1.nm i s hi;exact ⟨g,e1,by omega,e5⟩)
      exact h
     have hRT:RT=(xL S l names v L.length kd s').bind fun y=>if y.2.fe≠0 then none else some (yI S (names.zip L).reverse y.1):=by rw [← HRT.o,hRS];rfl
     have HRT2:=hid hRT
     clear hRT hR1 HR HRT hRS
     generalize xL S l names v L.length kd s'=E at *
     go_upto_region 16 with (first
      | ((with_reducible refine jE 94 27 (.tmp 4) b1 0 (#[.int .i64 bt]:Array Value) _ ?_ ?_ ?_ ?_ ?_ Tryz.underlying27 ?_ ?_ ?_);rfl;rfl;kernel_rfl;rfl;exact Lies.of_heap HRK.o.v4;rfl;exact zC)
      | ((with_reducible refine jE 100 24 (.tmp 6) b2 0 X _ ?_ ?_ ?_ ?_ ?_ jR ?_ ?_ ?_);rfl;rfl;kernel_rfl;rfl;exact Lies.of_heap HRK.o.v6;rfl;exact (by rw [qU,HX.o.2]))
      | (go_at_call 20;refine HC20.o.mono ?_;rintro e w7 ⟨q1,x7,s7,q2,q3⟩;obtain ⟨b7,he7⟩:∃ b7,e=.returned (.tuple #[x7,.bool b7]):=(by rcases q3 with ⟨_,h⟩ | ⟨T,_,h,_⟩;exact ⟨_,h⟩;exact ⟨_,h⟩);subst he7;have H7:=hid (HRK.o.rd q2 q1);have HE7:=hid q3;have HS7:=hid q1.size;clear q1 q2 q3))
     cases b7 with
     | false=>
      have hE:E=none:=by
       rcases HE7.o with ⟨h,_⟩ | ⟨T,_,h,_⟩
       ·exact h
       ·injection h with h
        simp at h
      have hRT:RT=none:=by rw [HRT2.o,hE];rfl
      go_wp2_with fail
      go_ret2
      exact ⟨H7.o.g,_,.inl ⟨(by first | exact hRT | rfl),rfl⟩⟩
     | true=>
      obtain ⟨T0,hE,hTx,hTB⟩:∃ T,E=some (T,s7)∧Tx w7 wr.heap.size x7 T 100∧Su.Bytes T∧T.length≤100000:=by
       rcases HE7.o with ⟨_,h⟩ | ⟨T,h1,_,h2,h3⟩
       ·injection h with h
        simp at h
       ·exact ⟨T,h1,h2,h3⟩
      have hRT:=HRT2.o
      rw [hE] at hRT
      simp only [Option.bind_some] at hRT
      have hz2:w7.cell? ⟨R,2,none⟩=some (.int .i64 s7.fe):=by
       obtain ⟨x,hh,_⟩:=H7.o.rf
       rw [j9 hh];rfl
      obtain ⟨fe,hfe2⟩:∃ fe,s7.fe=fe:=⟨_,rfl⟩
      rw [hfe2] at hz2 hRT
      clear hE HE7 HRT2 HC20
      by_cases hfe:fe≠0
      ·rw [if_pos hfe] at hRT
       have hfb:(fe !=0)=true:=by simpa using hfe
       go_wp2_with fail
       go_ret2
       exact ⟨H7.o.g,_,.inl ⟨(by first | exact hRT | rfl),rfl⟩⟩
      ·rw [if_neg hfe] at hRT
       have hfb:(fe !=0)=false:=by simpa using hfe
       obtain ⟨xa,xn,xc,hxe⟩:=hTx.e.form
       subst hxe
       have HTX0:Hid (Tx w7 w.heap.size (.slice xa xn xc) T0 100∧Su.Bytes T0∧T0.length≤100000):=⟨hTx.mono HRK.o.g.size,hTB⟩
       have HRT3:=hid hRT
       have hL64:L.length≤64:=by omega
       clear hTx hTB hRT HRK
       have hlm:((L.length:Nat):Int)-1=((L.length:Nat):Int)-1:=rfl
       go_wp2_with fail
       go_loopw [16,18] (fun x i wr=>∃ (m:Nat) (T:List Nat) (N:Nat),i=.int .i64 ((m:Int)-1)∧m≤L.length∧N+23*m≤2000∧(∃ a n c,x=.slice a n c)∧Hid (RkI bt lo R l s7 w b1 b2 X na names (.slice va0 L.length vc0) L wr∧Tx wr w.heap.size x T N∧(Su.Bytes T∧T.length≤100000)∧RT=some (yI S ((names.zip L).take m).reverse T))) (fun _ i _=>(iZ i+1).toNat)
       case atStart=>exact ⟨L.length,T0,100,rfl,by omega,by omega,⟨_,_,_,rfl⟩,H7.o,HTX0.o.1,HTX0.o.2,by rw [HRT3.o,List.take_of_length_le (by simp [List.length_zip];omega)]⟩
       case round=>
        clear HTX0 HRT3 H7
        obtain ⟨m,T,N,rfl,hm,hN,⟨xa',xn',xc',rfl⟩,HR2⟩:=hrel
        match m,hm,hN,HR2 with
        | 0,hm,hN,HR2=>
         have hR2:=HR2.o
         have HR3:=hid hR2
         clear hR2 HR2
         go_wp2_with fail
         go_ret2
         exact ⟨HR3.o.1.g,_,.inr ⟨T,(by have:=HR3.o.2.2.2;simpa [yI] using this),rfl,HR3.o.2.1.le (by omega),HR3.o.2.2.1⟩⟩
        | j+1,hm,hN,HR2=>
         have hji:(((j+1:Nat):Int))-1=(j:Int):=by omega
         rw [hji]
         have hj0:(0:Int)≤(j:Int):=by omega
         have hR2:=HR2.o
         have hjL:j<L.length:=by omega
         have hjN:j<names.length:=by omega
         obtain ⟨gL,cL,Z,hve,hLies,hLv⟩:=hR2.1.lv.at (gl hjL)
         injection hve with f1 _ f3
         subst f1 f3
         obtain ⟨gn,hne1,_,_,_,hncell⟩:=hR2.1.nm j _ (gl hjN)
         obtain ⟨nm,hnm⟩:∃ nm,names[j]=nm:=⟨_,rfl⟩
         obtain ⟨q,hq⟩:∃ q,L[j]=q:=⟨_,rfl⟩
         rw [hnm] at hncell
         rw [hq] at hLv
         have hzj:(names.zip L)[j]?=some (nm,q):=by rw [gl (by simp [List.length_zip];omega),List.getElem_zip,hnm,hq]
         have hRT4:=hR2.2.2.2
         rw [bB S _ j _ hzj T] at hRT4
         simp only at hRT4
         have hZs:=hLv.size
         have hZo:=hLv.one
         obtain ⟨sa,sn,sk,hZe,hsow,hsok,hqm⟩:=hLv
         have hnm255:nm.size≤255:=HNM.o j nm (by rw [gl hjN,hnm])
         subst hne1
         have HLies:=hid hLies
         have HR3:=hid hR2
         have HZ:Hid (Z.size=4∧Z.all (·.oneCell')=true∧Z=#[.int .i64 (q.mode:Int),.int .i64 (q.sp.count:Int),.int .i64 (q.sp.place:Int),.slice sa sn sk]):=⟨hZs,hZo,hZe⟩
         have HS5:Hid (HsL 32 wr (.slice sa sn sk) (q.sp.sib.map hA)):=hsow.has
         have hz4:z72.size=4:=rfl
         have hlL:¬ L.length≤j:=by omega
         have hlLI:¬ (L.length:Int)≤j:=by omega
         clear hR2 HR2 hLies hZs hZo hZe hsow hnm hq hzj
         go_upto_region 22 with (first
          | ((with_reducible refine jE 123 72 (.tmp 122) gL (j*4) Z _ ?_ ?_ ?_ ?_ ?_ Tryz.underlying72 ?_ ?_ ?_);rfl;rfl;kernel_rfl;rfl;exact HLies.o;rfl;exact (by rw [pi,HZ.o.1]))
          | ((with_reducible refine qC 19 72 z72 ?_ ?_ ?_ ?_ ?_);rfl;rfl;kernel_rfl;exact vy;intro w8 b19 H8)
          | ((with_reducible refine qj 72 (.tmp 19) (.tmp 123) b19 Z z72 ?_ ?_ ?_ ?_ ?_ ?_ ?_ ?_ ?_ ?_);rfl;rfl;kernel_rfl;rfl;rfl;exact H8.o.2.2.1;exact (by rw [pi,HZ.o.1]);exact (hz4.trans HZ.o.1.symm);exact HZ.o.2.1;intro w9 H9';have H9:Hid (G wr w9∧w9.heap[b19]?=some (.cells Z 72 (0,0))):=(by obtain ⟨q1,q2,q3,q4⟩:=H8.o;obtain ⟨t1,t2,t3⟩:=H9'.o;exact ⟨((Kp.of (S:=fun b=>wr.heap.size≤b) q2).trans t1 fun b _ e=>by omega).below (Nat.le_refl _) fun b e=>e,t2⟩)))
         obtain ⟨h,k,c,ua,uc,hxe,hk1,hcell,hown⟩:=(HR3.o.2.1.keep (K2.of_g H9.o.1)).last
         injection hxe with f1 f2 f3
         subst f1 f2 f3
         have HK9:=hid (HR3.o.1.up H9.o.1)
         have HT9:=hid (HR3.o.2.1.keep (K2.of_g H9.o.1))
         have hST:=hS T
         have hl9:Su.Bytes (qg nm (S T)):=yu hST.2
         have hll9:(qg nm (S T)).length≤100000:=by have:=ju (n:=nm.size) (by omega);simp [qg,hST.1,ze];omega
         have hcell9:w9.cell? ⟨b19,0,none⟩=some (.int .i64 (q.mode:Int))∧w9.cell? ⟨b19,1,none⟩=some (.int .i64 (q.sp.count:Int))∧w9.cell? ⟨b19,2,none⟩=some (.int .i64 (q.sp.place:Int))∧w9.cell? ⟨b19,3,none⟩=some (.slice sa sn sk):=by
          rw [j9 H9.o.2,j9 H9.o.2,j9 H9.o.2,j9 H9.o.2,HZ.o.2.2]
          exact ⟨rfl,rfl,rfl,rfl⟩
         have hnc9:=H9.o.1.cell hncell
         refine regr22 b1 b19 gn h names.length nc j k xc' sn sk sa nm (.slice ua T.length uc) bt (q.sp.count:Int) (q.sp.place:Int) (fun _ W=>G w9 W) (fun r' W=>G w9 W∧r' 1=.agg (hA (S T))) (fun r' W=>G w9 W∧Su.Owns W 0 (r' 2) (qg nm (S T))) (fun r' W=>G w9 W∧∃ T1,Tx W w9.heap.size (r' 3) T1 22∧S T1=topH S nm (S T) q.sp∧Su.Bytes T1∧T1.length≤100000) (fun r' W=>∃ W0 T1,G w9 W0∧K25 W0 W∧Kp (fun b=>w.heap.size≤b) W0 W∧Tx W w.heap.size (r' 4) T1 (N+22)∧S T1=topH S nm (S T) q.sp∧Su.Bytes T1∧T1.length≤100000) (fun W=>G w9 W) _ w9 rfl rfl rfl rfl rfl rfl ⟨_,_,_,rfl⟩ (kF k (by omega)) (by omega) (by omega) (hb0:=fun _ _ q=>q) (hb1:=fun _ _ q=>q.1) (hb2:=fun _ _ q=>q.1) (hb3:=fun _ _ q=>q.1) (hc1:=?xac1) (hc2:=?xac2) (hc3:=?xac3) (ha4:=?xaa4) (hl1:=fun W q=>Lies.of_heap ((q.block b1 (ga HK9.o.v4).1).trans HK9.o.v4)) (hl6:=fun W q=>Lies.of_heap ((q.block b1 (ga HK9.o.v4).1).trans HK9.o.v4)) (hl5:=fun W q=>q.cell hnc9) (hl12:=fun W q=>q.cell hcell) (hl16:=fun W q=>q.cell hcell9.2.1) (hl18:=fun W q=>q.cell hcell9.2.2.1) (hl20:=fun W q=>q.cell hcell9.2.2.2) (hst0:=fun _=>G.drew _) (hQ:=?xaq1)
         case xac1=>
          intro r' W q
          refine (CO.o W _ T ((hown.has).below q) HR3.o.2.2.1.1 HR3.o.2.2.1.2).mono ?_
          rintro e W2 ⟨rfl,q2⟩
          exact ⟨_,rfl,q.trans q2,by rw [jA]⟩
         case xac2=>
          rintro r' W ⟨q,e1⟩
          rw [e1]
          refine (xk nm (S T) W hST.1 (by omega)).mono ?_
          rintro e W2 ⟨u,rfl,q1,q2⟩
          exact ⟨u,rfl,q.trans q2,by rw [jA];exact q1.mono (Nat.zero_le _)⟩
         case xac3=>
          rintro r' W ⟨q1,q2⟩
          refine (CP.o W 0 (r' 2) (qg nm (S T)) q.sp.count q.sp.place (.slice sa sn sk) q.sp.sib q2 hl9 hll9 hsok.2.1 hsok.1 ((HS5.o.up H9.o.1).up q1) hsok.2.2.2 hsok.2.2.1).mono ?_
          rintro e W2 ⟨u,T1,rfl,p1,p2,p3,p4,p5⟩
          exact ⟨u,rfl,q1.trans p2,T1,by rw [jA];exact p1.mono q1.size,p3,p4,p5⟩
         case xaa4=>
          rintro r' W ⟨q1,T1,p1,p2,p3,p4⟩
          obtain ⟨v',w',a1,a2,a5,a3,a4⟩:=(HT9.o.keep (K2.of_g q1)).e.appL2 31 p1 (fun b hb=>HT9.o.e.lt b hb) ((HK9.o.up q1).g.size) (by omega) (by omega)
          exact ⟨v',w',a1,W,T1,q1,a3,a4,by rw [jA];exact a2,p2,p3,p4⟩
         case xaq1=>
          rintro r' w10 ⟨W0,T1,g0,k25,kp0,t1,t2,t3,t4⟩
          rw [foldr22]
          generalize r' 4=u4 at t1
          generalize r' 1=u1
          generalize r' 2=u2
          generalize r' 3=u3
          obtain ⟨h2,k2,c2,ua2,uc2,hxe2,hk2,hcell2,hown2⟩:=t1.last
          subst hxe2
          have HK10:Hid (RkI bt lo R l s7 w b1 b2 X (some ⟨gn,0,none⟩) names (.slice (some ⟨gL,0,none⟩) L.length vc0) L w10):=nd (HK9.o.up g0) k25 kp0
          have hb10:w10.heap[b19]?=some (.cells Z 72 (0,0)):=by
           have e1:=(g0.block b19 (ga H9.o.2).1).trans H9.o.2
           exact (k25 b19 _ _ e1 (by decide)).trans e1
          have hcellA:w10.cell? ⟨b19,0,none⟩=some (.int .i64 (q.mode:Int))∧w10.cell? ⟨b19,1,none⟩=some (.int .i64 (q.sp.count:Int)):=by
           rw [j9 hb10,j9 hb10,HZ.o.2.2]
           exact ⟨rfl,rfl⟩
          have hST1:=hS T1
          have hd:=ar (m:=q.mode) (c:=q.sp.count) (by omega) (by have:=hsok.2.1;omega) hST1
          have CD:Hid (∀ W,Calls Tryz.prog 23 #[.int .i64 (q.mode:Int),.int .i64 (q.sp.count:Int),.agg (hA (S T1))] W fun e w'=>∃ u,e=.returned u∧Su.Owns w' W.heap.size u (dirT q.mode q.sp.count (S T1))∧G W w'):=fun W=>by
           have:=al q.mode q.sp.count (S T1) W hST1.1 (by omega) (by have:=hsok.2.1;omega)
           rw [show dirT q.mode q.sp.count (S T1)=68::(encN q.mode++encN q.sp.count++S T1) by simp [dirT]]
           exact this
          rw [← t2] at hRT4
          have HRT5:=hid hRT4
          have HT10:=hid t1
          generalize dirT q.mode q.sp.count (S T1)=T2 at *
          have HD2:=hid hd
          go_simp
          go_upto_region 23 with fail
          refine regr23 b1 b19 h2 k2 c2 (.slice ua2 T1.length uc2) bt (q.mode:Int) (q.sp.count:Int) (fun _ W=>G w10 W) (fun r' W=>G w10 W∧r' 1=.agg (hA (S T1))) (fun r' W=>G w10 W∧Su.Owns W 0 (r' 2) T2) (fun r' W=>∃ W1,G w10 W1∧Su.Owns W1 0 (r' 2) T2∧W=W1.alloc (.cells #[r' 2] 25)∧r' 3=.slice (some ⟨W1.heap.size,0,none⟩) 1 1) (fun r' W=>∃ W0,G w10 W0∧K25 W0 W∧Kp (fun b=>w.heap.size≤b) W0 W∧Tx W w.heap.size (r' 4) T2 (N+22+1)) (fun W=>G w10 W) _ w10 rfl rfl rfl rfl ⟨_,_,_,rfl⟩ (kF k2 (by omega)) (by omega) (hb0:=fun _ _ q=>q) (hb1:=fun _ _ q=>q.1) (hb2:=fun _ _ q=>q.1) (hc1:=?xad1) (hc2:=?xad2) (hs3:=?xad3) (ha4:=?xad4) (hl5:=fun W q=>Lies.of_heap ((q.block b1 (ga HK10.o.v4).1).trans HK10.o.v4)) (hl11:=fun W q=>q.cell hcell2) (hl2:=fun W q=>q.cell hcellA.1) (hl4:=fun W q=>q.cell hcellA.2) (hst0:=fun _=>G.drew _) (hQ:=?xaq2)
          case xad1=>
           intro r' W q
           refine (CO.o W _ T1 ((hown2.has).below q) t3 t4).mono ?_
           rintro e W2 ⟨rfl,q2⟩
           exact ⟨_,rfl,q.trans q2,by rw [jA]⟩
          case xad2=>
           rintro r' W ⟨q,e1⟩
           rw [e1]
           refine (CD.o W).mono ?_
           rintro e W2 ⟨u,rfl,q1,q2⟩
           exact ⟨u,rfl,q.trans q2,by rw [jA];exact q1.mono (Nat.zero_le _)⟩
          case xad3=>
           rintro r' W ⟨q1,q2⟩
           obtain ⟨va,vc,hue⟩:=jo q2
           have hce:(r' 2).cells=#[r' 2]:=by rw [hue];rfl
           rw [hce]
           exact ⟨rfl,W,q1,by rw [qr _ _ (by decide)];exact q2,by rw [qr _ _ (by decide)],by rw [jA]⟩
          case xad4=>
           rintro r' W ⟨W1,q1,q2,rfl,q3⟩
           rw [q3]
           obtain ⟨v',w',a1,a2,a3,a4⟩:=(HT10.o.keep (K2.of_g q1)).e.app1 31 q2 ((HK10.o.up q1).g.size) (by omega) _ rfl
           exact ⟨v',w',a1,W1,q1,a3,a4,by rw [jA];exact a2⟩
          case xaq2=>
           rintro r' w11 ⟨W0',g1,k25',kp1,t5⟩
           rw [foldr23]
           generalize r' 4=u4' at t5
           generalize r' 1=u1'
           generalize r' 2=u2'
           generalize r' 3=u3'
           obtain ⟨va,vn,vc,hve⟩:=t5.e.form
           subst hve
           have HK11:=hid (nd (HK10.o.up g1) k25' kp1)
           have HT11:=hid t5
           go_simp
           go_wp2_with fail
           go_roundw
           case rel=>exact ⟨j,T2,N+22+1,by go_num,by omega,by omega,⟨_,_,_,rfl⟩,HK11.o,HT11.o,HD2.o,HRT5.o⟩
           case measure=>first | (simp [iZ];done) | (simp [iZ];omega)
def au (S:List Nat→List Nat) (root:List Nat):Option (List Nat)→Bool
 | none=>false
 | some t=>decide (S t=root)
def a02 (S:List Nat→List Nat) (p:ByteArray) (v:Vd) (l:List Int):Option (List Nat):=(zH p v l).bind (kG S (qX p))
theorem mX (S:List Nat→List Nat) (p:ByteArray) (v:Vd) (l:List Int):a02 S p v l=refO S p v l:=by
 unfold a02 refO zH
 split
 ·rfl
 ·rename_i h
  have hv:valB v=true:=by
   cases hq:valB v with
   | true=>rfl
   | false=>exact absurd (.inr (.inl hq)) h
  exact pP S l (qX p) v hv
theorem el (S:List Nat→List Nat) (hS:af S) (m:Nat) (W0:World) (hC:zI S m W0) (w:World) (hw:G W0 w) (root:List Nat) (hr:root.length=32) (p:ByteArray) (v:Vd) (hvs:Su.Bytes v.sum) (pv:Value) (l:List Int) (hp:Wi.Has w pv l) (hB:Wire.Bytes l) (hl:l.length≤100000) (hps:p.size≤1048576):
  Calls Tryz.prog 11 #[.pointer (some ⟨m,0,none⟩),.agg (hA root),.string p,.agg (vx v).toArray,pv] w fun e w'=>e=.returned (.bool (au S root (refO S p v l)))∧G w w':=by
 have hz32:(hA j7).size=32:=jG jC
 rw [← mX]
 unfold a02
 obtain ⟨X,hX⟩:∃ X:Array Value,X=(vx v).toArray:=⟨_,rfl⟩
 have HX:Hid (X=(vx v).toArray∧X.size=35):=⟨hX,by rw [hX];exact jx v⟩
 have C27:Hid (∀ W,G w W→Calls Tryz.prog 27 #[.string p,.agg X,pv] W fun e w'=>G W w'∧∃ x b,e=.returned (.tuple #[x,.bool b])∧((b=false∧zH p v l=none)∨(b=true∧∃ C cm na nc sv dv,x=.pointer (some ⟨C,0,none⟩)∧zH p v l=some cm∧ClI C (.slice na (qX p).length nc) cm sv dv w'∧NmAt w' na (qX p)))):=fun W hW=>by
  rw [hX]
  refine (gp p v pv l W (hp.below hW) hB hl hps).mono ?_
  rintro e w' ⟨h1,⟨⟨q,rfl⟩,h2⟩ | ⟨C,cm,na,nc,sv,dv,rfl,h2,h3,h4⟩⟩
  ·exact ⟨h1,q,false,rfl,.inl ⟨rfl,h2⟩⟩
  ·exact ⟨h1,_,true,rfl,.inr ⟨rfl,C,cm,na,nc,sv,dv,rfl,h2,h3,h4⟩⟩
 have C28:Hid (∀ (W:World) (C:Nat) (cm:Cm) (na:Option Addr) (nc:Nat) (sv dv:Value),G w W→zH p v l=some cm→ClI C (.slice na (qX p).length nc) cm sv dv W→NmAt W na (qX p)→Calls Tryz.prog 28 #[.pointer (some ⟨C,0,none⟩),.func (.func 29) #[.pointer (some ⟨m,0,none⟩)] #[]] W fun e w'=>G W w'∧∃ hh b,e=.returned (.tuple #[.agg (hA hh),.bool b])∧hh.length=32∧(b&&decide (hh=root))=au S root (kG S (qX p) cm)):=fun W C cm na nc sv dv hW hrd hcl hnm=>by
  unfold zH at hrd
  split at hrd
  ·cases hrd
  ·rename_i hcond
   have hv:valB v=true:=by
    cases hq:valB v with
    | true=>rfl
    | false=>exact absurd (.inr (.inl hq)) hcond
   have hse:Pa.splitE (Pa.tl p) 64=0:=Classical.byContradiction fun h=>hcond (.inr (.inr h))
   obtain ⟨hok,hlen⟩:=pJ hB (fun h0=>a2d hvs hv h0) hrd
   refine (ip S hS m W0 hC W (hw.trans hW) C na nc (qX p) cm sv dv hcl hnm (fun i s hs=>nZ hse hs) hok hlen (eK hse)).mono ?_
   rintro e w' ⟨h1,⟨h2,rfl⟩ | ⟨t,h2,rfl⟩⟩
   ·exact ⟨h1,j7,false,rfl,jC,by rw [h2];rfl⟩
   ·exact ⟨h1,S t,true,rfl,(hS t).1,by rw [h2];simp [au]⟩
 rw [← hX]
 obtain ⟨pa,pc,hpe,_⟩:=hp.form
 subst hpe
 have HRo:Hid ((hA root).size=32):=jG hr
 obtain ⟨RO,hRO⟩:∃ RO,zH p v l=RO:=⟨_,rfl⟩
 rw [hRO] at C27 C28 ⊢
 clear hX hp hRO
 go_enter Tryz.func11,Tryz.ntmps11
 go_upto_region 2 with (first
  | ((with_reducible refine jt 6 22 (.tmp 1) (hA root) ?_ ?_ ?_ ?_ ?_);rfl;rfl;kernel_rfl;rfl;intro w1 b1 H1)
  | ((with_reducible refine jt 8 24 (.tmp 3) X ?_ ?_ ?_ ?_ ?_);rfl;rfl;kernel_rfl;rfl;intro w2 b2 H2;have H0:Hid (G w w2∧w2.heap[b1]?=some (.cells (hA root) 22 (0,0))∧w2.heap[b2]?=some (.cells X 24 (0,0))):=(by obtain ⟨p1,p2,p3,p4⟩:=H1.o;obtain ⟨t1,t2,t3,t4⟩:=H2.o;exact ⟨G.trans p2 t2,(t2.block b1 (by omega)).trans p3,t3⟩))
  | ((with_reducible refine jE 16 24 (.tmp 8) b2 0 X _ ?_ ?_ ?_ ?_ ?_ jR ?_ ?_ ?_);rfl;rfl;kernel_rfl;rfl;exact Lies.of_heap H0.o.2.2;rfl;exact (by rw [qU,HX.o.2]))
  | (go_at_call 27;refine (C27.o w2 H0.o.1).mono ?_;rintro e w3 ⟨q1,x3,b3,rfl,q2⟩;have H3:=hid (⟨q1,q2⟩:_∧_);clear q1 q2))
 cases b3 with
 | false=>
  have hn:RO=none:=by
   rcases H3.o.2 with ⟨_,h⟩ | ⟨h,_⟩
   ·exact h
   ·cases h
  have HN:=hid hn
  clear hn
  go_wp2_with fail
  go_ret
  exact ⟨by rw [HN.o];rfl,G.trans H0.o.1 H3.o.1⟩
 | true=>
  obtain ⟨C,cm,na,nc,sv,dv,rfl,hro,hcl,hnm⟩:∃ C cm na nc sv dv,x3=.pointer (some ⟨C,0,none⟩)∧RO=some cm∧ClI C (.slice na (qX p).length nc) cm sv dv w3∧NmAt w3 na (qX p):=by
   rcases H3.o.2 with ⟨h,_⟩ | ⟨_,h⟩
   ·cases h
   ·exact h
  have HC28:=hid (C28.o w3 C cm na nc sv dv (G.trans H0.o.1 H3.o.1) hro hcl hnm)
  have HRO:=hid hro
  clear hro hcl hnm C28 C27
  go_upto_region 5 with (first
   | (go_at_call 28;refine HC28.o.mono ?_;rintro e w4 ⟨q1,hh,b4,rfl,q2,q3⟩;have H4:Hid (G w w4∧w4.heap[b1]?=some (.cells (hA root) 22 (0,0))∧hh.length=32∧(b4&&decide (hh=root))=au S root (kG S (qX p) cm)):=(by have hb:=H0.o.2.1;have e1:=(H3.o.1.block b1 (ga hb).1).trans hb;exact ⟨(G.trans H0.o.1 H3.o.1).trans q1,(q1.block b1 (ga e1).1).trans e1,q2,q3⟩);have HH:Hid ((hA hh).size=32∧(hA hh).all (·.oneCell')=true):=⟨jG q2,jn _⟩;clear q1 q2 q3)
   | ((with_reducible refine qC 13 22 (hA j7) ?_ ?_ ?_ ?_ ?_);rfl;rfl;kernel_rfl;exact jv;intro w5 b13 H5)
   | ((with_reducible refine qo 22 (.tmp 13) (.tmp 28) b13 (hA hh) (hA j7) ?_ ?_ ?_ ?_ ?_ ?_ ?_ ?_ ?_ ?_);rfl;rfl;kernel_rfl;rfl;rfl;exact H5.o.2.2.1;exact (by rw [jK,HH.o.1]);exact (hz32.trans HH.o.1.symm);exact HH.o.2;intro w6 k6 v6 s6;have H6:Hid (G w w6∧w6.heap[b13]?=some (.cells (hA hh) 22 (0,0))∧w6.heap[b1]?=some (.cells (hA root) 22 (0,0))):=(by obtain ⟨q1,q2,q3,q4⟩:=H5.o;have e1:=(ga H4.o.2.1).1;have s4:=H4.o.1.size;exact ⟨((Kp.of (S:=fun b=>w.heap.size≤b) (G.trans H4.o.1 q2)).trans k6 fun b _ e=>by omega).below (Nat.le_refl _) (fun b e=>e),v6,(k6.block b1 (by omega) (by omega)).trans ((q2.block b1 e1).trans H4.o.2.1)⟩);clear k6 v6 s6))
  have HE4:=hid H4.o.2.2.2
  have hhl:=H4.o.2.2.1
  cases b4 with
  | false=>
   go_wp2_with fail
   go_ret
   exact ⟨by rw [HRO.o];show _=Ending.returned (.bool (au S root (kG S (qX p) cm)));rw [← HE4.o];rfl,H6.o.1⟩
  | true=>
   go_wp2_with (first
    | ((with_reducible refine jE 32 22 (.tmp 13) b13 0 (hA hh) _ ?_ ?_ ?_ ?_ ?_ Tryz.underlying22 ?_ ?_ ?_);rfl;rfl;kernel_rfl;rfl;exact Lies.of_heap H6.o.2.1;rfl;exact (by rw [jK,HH.o.1]))
    | ((with_reducible refine jE 33 22 (.tmp 6) b1 0 (hA root) _ ?_ ?_ ?_ ?_ ?_ Tryz.underlying22 ?_ ?_ ?_);rfl;rfl;kernel_rfl;rfl;exact Lies.of_heap H6.o.2.2;rfl;exact (by rw [jK,HRo.o]))
    | ((with_reducible refine jT 34 (.bool (decide (hh=root))) w6 ?_ ?_ ?_ ?_);rfl;kernel_rfl;exact dF _ _ rfl hh root hhl hr rfl rfl _))
   go_ret
   exact ⟨by rw [HRO.o];show _=Ending.returned (.bool (au S root (kG S (qX p) cm)));rw [← HE4.o];rfl,H6.o.1⟩
end Go.Proofs.YtdeanahpiigonaaGreatDoor
