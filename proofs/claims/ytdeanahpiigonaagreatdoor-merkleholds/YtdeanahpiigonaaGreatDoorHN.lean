import Derived.Test.YtdeanahpiigonaaGreatDoorHK
set_option maxRecDepth 100000
set_option maxHeartbeats 8000000
namespace Go.Proofs.YtdeanahpiigonaaGreatDoor
open Go.RowKit Hm
attribute [local go_sem] Oper.semAt_some
theorem ek31:Ek 31 25 1:=⟨Tryz.underlying31,by decide,by decide,.slice none 0 0,24,by rfl,by decide,by kernel_rfl⟩
noncomputable abbrev yY:Array Oper:=kS Tryz.f29 1
theorem tT:gj yY=true:=by kernel_rfl
theorem a2F:dstB yY 12=true:=by kernel_rfl
theorem bk:yY.size=8:=by kernel_rfl
theorem oz:say yY 0=some (some 5,.move (.tmp 0),none):=by kernel_rfl
theorem pA:say yY 1=some (some 6,.nilCheck (.tmp 5),none):=by kernel_rfl
theorem pB:say yY 2=some (some 7,.fieldAddr 80 (.tmp 6) 0,none):=by kernel_rfl
theorem pC:say yY 3=some (some 8,.load 34 (.tmp 7),none):=by kernel_rfl
theorem pD:say yY 4=some (some 9,.move (.tmp 1),none):=by kernel_rfl
theorem pE:say yY 5=some (some 10,.call { callee:=.value (.func 73),args:=#[.tmp 9],argTypes:=#[25] },none):=by kernel_rfl
theorem pF:say yY 6=some (some 11,.call { callee:=.value (.tmp 8),args:=#[.tmp 10],argTypes:=#[25] },none):=by kernel_rfl
theorem a2G:say yY 7=some (none,.store 22 (.tmp 4) (.tmp 11),none):=by kernel_rfl
def Vl1 (m _b4:Nat) (_bits:Int) (u:Value) (_Za:Array Value) (r:Nat→Value):Nat→Value
 | 0=>.pointer (some ⟨m,0,none⟩)
 | 1=>.pointer (some ⟨m,0,none⟩)
 | 2=>.pointer (some ⟨m,0,none⟩)
 | 3=>.func (.func 25) #[] #[]
 | 4=>u
 | 5=>(r 1)
 | 6=>(r 2)
 | 7=>undef
 | _=>undef
theorem regl1 (m b4:Nat) (bits:Int) (u:Value) (Za:Array Value) (F0 F1 F2 F3:(Nat→Value)→World→Prop) (B:World→Prop)  (t0:Array Value) (wr:World) {Q:Exit→Act→World→Prop} (ht:t0.size=12) (h0:t0.getD 0 undef=.pointer (some ⟨m,0,none⟩)) (h1:t0.getD 1 undef=u) (h4:t0.getD 4 undef=.pointer (some ⟨b4,0,none⟩))
  (hZ:Za.size=32∧Za.all (·.oneCell')=true)
  (hb0:∀ r w,F0 r w→B w) (hb1:∀ r w,F1 r w→B w) (hb2:∀ r w,F2 r w→B w)
  (hc1:∀ r w,F0 r w→Calls Tryz.prog 73 #[u] w fun e w'=>∃ u,e=.returned u∧F1 (ups r 1 u) w')
  (hc2:∀ r w,F1 r w→Calls Tryz.prog 25 #[(r 1)] w fun e w'=>∃ u,e=.returned u∧F2 (ups r 2 u) w')
  (hw3:∀ r w,F2 r w→∃ old,w.heap[b4]?=some (.cells old 22 (0,0))∧old.size=32∧r 2=.agg Za∧F3 r (w.setRow b4 Za))
  (hl3:∀ w,B w→w.cell? ⟨m,0,none⟩=some (.func (.func 25) #[] #[]))
  (hst0:∀ r,F0 r wr.drew)
  (hQ:∀ r w,F3 r w→Q .normal ⟨fold yY (Vl1 m b4 bits u Za r) t0 8,[]⟩ w):(Code.region 1 yY true).wp Tryz.prog Q ⟨t0,[]⟩ wr:=by
 have hB:dstB yY t0.size=true:=by rw [ht];exact a2F
 have hBB:∀ r done w,MC F0 [(6,F2),(5,F1)] r done w→B w:=fun r done w h=>MC.base hb0 (by simp only [List.mem_cons,List.not_mem_nil,or_false];rintro x (rfl | rfl)<;>assumption) h
 refine jL (by kernel_rfl) (IE yY (Vl1 m b4 bits u Za) t0 (MC F0 [(7,F3),(6,F2),(5,F1)] )) tT ⟨(fun _=>undef),t0,rfl,⟨rfl,fun _ _=>rfl,fun _ _ _ _ _ h=>by cases h⟩,MC.start (hst0 _)⟩ ?_ ?_
 rotate_left 1
 ·rintro done a w ⟨r,t,rfl,hS,hM⟩ hall
  rw [hS.end hB hall,bk]
  exact hQ r w (MC.get (hall 7 (by rw [bk];decide)) [] (by simp) hM)
 ·rintro jz op done a w ho ⟨r,t,rfl,hS,hM⟩ hnd hdep hcl
  have e0:=hS.ol h0
  have e1:=hS.ol h1
  have e4:=hS.ol h4
  have hlt:jz<8:=by rw [← bk];exact (ga ho).1
  match jz,hlt,ho,hnd,hdep with
  | 0,_,ho,hnd,hdep=>
   refine jM oz r hB ho hS (hM.step (by rfl)) fun hop=>?_
   unfold execOp;simp [hop,e0,Vl1,go_sem]
  | 1,_,ho,hnd,hdep=>
   have x5:=hS.gt oz ho hdep
   refine jM pA r hB ho hS (hM.step (by rfl)) fun hop=>?_
   unfold execOp;simp [hop,x5,Vl1,go_sem]
  | 2,_,ho,hnd,hdep=>
   have x6:=hS.gt pA ho hdep
   refine jM pB r hB ho hS (hM.step (by rfl)) fun hop=>?_
   unfold execOp;simp [hop,x6,Vl1,go_sem]
  | 3,_,ho,hnd,hdep=>
   have x7:=hS.gt pB ho hdep
   have ny7:done 7=false:=j8 (by kernel_rfl) hcl hnd
   have cz:=hl3 w (hBB _ _ _ (MC.cut [(7,F3)] (by simp [ny7]) hM))
   refine jM pC r hB ho hS (hM.step (by rfl)) fun hop=>?_
   unfold execOp;simp [hop,x7,Vl1,cz,go_sem]
  | 4,_,ho,hnd,hdep=>
   refine jM pD r hB ho hS (hM.step (by rfl)) fun hop=>?_
   unfold execOp;simp [hop,e1,Vl1,go_sem]
  | 5,_,ho,hnd,hdep=>
   obtain ⟨hd,hop,hgd⟩:=jB pE ho
   have x9:=hS.gt pD ho hdep
   simp only [Vl1] at x9
   have ny6:done 6=false:=j8 (by kernel_rfl) hcl hnd
   have ny7:done 7=false:=j8 (by kernel_rfl) hcl hnd
   have hF:=MC.get0 [(7,F3),(6,F2),(5,F1)] (by simp [hnd,ny6,ny7]) hM
   refine jb r 73 #[u] hB ho (j0 hgd) hd hS ?_ ?_
   ·skip
    unfold execOp
    simp only [hop]
    simp [x9,go_sem]
   ·skip
    refine (hc1 r w hF).mono ?_
    rintro e w' ⟨u,rfl,hF'⟩
    refine ⟨ups r 1 u,?_,fun k hk=>?_,MC.put hF' [(7,F3),(6,F2)] (by simp [ny6,ny7])⟩
    ·simp only [Vl1,jA]
    ·skip
     have q5:k≠5:=fun e=>by rw [e,hnd] at hk;cases hk
     unfold Vl1
     split<;>first | rfl | exact absurd rfl q5
  | 6,_,ho,hnd,hdep=>
   obtain ⟨hd,hop,hgd⟩:=jB pF ho
   have x8:=hS.gt pC ho hdep
   simp only [Vl1] at x8
   have x10:=hS.gt pE ho hdep
   simp only [Vl1] at x10
   have ny7:done 7=false:=j8 (by kernel_rfl) hcl hnd
   have a5:done 5=true:=jy (j:=5) (by kernel_rfl) ho hdep
   have hF:=MC.get a5 [(7,F3),(6,F2)] (by simp [hnd,ny7]) hM
   refine jb r 25 #[(r 1)] hB ho (j0 hgd) hd hS ?_ ?_
   ·skip
    unfold execOp
    simp only [hop]
    simp [x8,x10,go_sem]
   ·skip
    refine (hc2 r w hF).mono ?_
    rintro e w' ⟨u,rfl,hF'⟩
    refine ⟨ups r 2 u,?_,fun k hk=>?_,MC.put hF' [(7,F3)] (by simp [ny7])⟩
    ·simp only [Vl1,jA]
    ·skip
     have q6:k≠6:=fun e=>by rw [e,hnd] at hk;cases hk
     unfold Vl1
     split<;>first | rfl | exact absurd rfl q6
  | 7,_,ho,hnd,hdep=>
   obtain ⟨hd,hop,hgd⟩:=jB a2G ho
   have x11:=hS.gt pF ho hdep
   simp only [Vl1] at x11
   have a6:done 6=true:=jy (j:=6) (by kernel_rfl) ho hdep
   have hF:=MC.get a6 [(7,F3)] (by simp [hnd]) hM
   obtain ⟨old9,ho9,hs9,e9,hF9⟩:=hw3 r w hF
   refine qh (w':=w.setRow b4 Za) r ho (j0 hgd) hd hS (MC.put hF9 [] (by simp)) ?_
   exact qN 22 _ _ hop b4 Za old9 (by show t.getD 4 undef=_;rw [gd];exact e4) (Eq.trans (by show t.getD 11 undef=_;rw [gd];exact x11) e9) w ho9 (by rw [jK,hZ.1]) (by rw [hs9,hZ.1]) hZ.2
theorem foldl1 (m b4:Nat) (bits:Int) (u:Value) (Za:Array Value) (r:Nat→Value) (t0:Array Value):fold yY (Vl1 m b4 bits u Za r) t0 8=(((((((t0.setIfInBounds 5 (.pointer (some ⟨m,0,none⟩))).setIfInBounds 6 (.pointer (some ⟨m,0,none⟩))).setIfInBounds 7 (.pointer (some ⟨m,0,none⟩))).setIfInBounds 8 (.func (.func 25) #[] #[])).setIfInBounds 9 (u)).setIfInBounds 10 ((r 1))).setIfInBounds 11 ((r 2))):=by kernel_rfl
def Vl2 (m _b4:Nat) (bits:Int) (u:Value) (_Za:Array Value) (r:Nat→Value):Nat→Value
 | 0=>.pointer (some ⟨m,0,none⟩)
 | 1=>.pointer (some ⟨m,0,none⟩)
 | 2=>.pointer (some ⟨m,0,none⟩)
 | 3=>.func (.func 7) #[.agg #[.int .i64 bits]] #[]
 | 4=>u
 | 5=>(r 1)
 | 6=>(r 2)
 | 7=>undef
 | _=>undef
theorem regl2 (m b4:Nat) (bits:Int) (u:Value) (Za:Array Value) (F0 F1 F2 F3:(Nat→Value)→World→Prop) (B:World→Prop)  (t0:Array Value) (wr:World) {Q:Exit→Act→World→Prop} (ht:t0.size=12) (h0:t0.getD 0 undef=.pointer (some ⟨m,0,none⟩)) (h1:t0.getD 1 undef=u) (h4:t0.getD 4 undef=.pointer (some ⟨b4,0,none⟩))
  (hZ:Za.size=32∧Za.all (·.oneCell')=true)
  (hb0:∀ r w,F0 r w→B w) (hb1:∀ r w,F1 r w→B w) (hb2:∀ r w,F2 r w→B w)
  (hc1:∀ r w,F0 r w→Calls Tryz.prog 73 #[u] w fun e w'=>∃ u,e=.returned u∧F1 (ups r 1 u) w')
  (hc2:∀ r w,F1 r w→Calls Tryz.prog 7 #[.agg #[.int .i64 bits],(r 1)] w fun e w'=>∃ u,e=.returned u∧F2 (ups r 2 u) w')
  (hw3:∀ r w,F2 r w→∃ old,w.heap[b4]?=some (.cells old 22 (0,0))∧old.size=32∧r 2=.agg Za∧F3 r (w.setRow b4 Za))
  (hl3:∀ w,B w→w.cell? ⟨m,0,none⟩=some (.func (.func 7) #[.agg #[.int .i64 bits]] #[]))
  (hst0:∀ r,F0 r wr.drew)
  (hQ:∀ r w,F3 r w→Q .normal ⟨fold yY (Vl2 m b4 bits u Za r) t0 8,[]⟩ w):(Code.region 1 yY true).wp Tryz.prog Q ⟨t0,[]⟩ wr:=by
 have hB:dstB yY t0.size=true:=by rw [ht];exact a2F
 have hBB:∀ r done w,MC F0 [(6,F2),(5,F1)] r done w→B w:=fun r done w h=>MC.base hb0 (by simp only [List.mem_cons,List.not_mem_nil,or_false];rintro x (rfl | rfl)<;>assumption) h
 refine jL (by kernel_rfl) (IE yY (Vl2 m b4 bits u Za) t0 (MC F0 [(7,F3),(6,F2),(5,F1)] )) tT ⟨(fun _=>undef),t0,rfl,⟨rfl,fun _ _=>rfl,fun _ _ _ _ _ h=>by cases h⟩,MC.start (hst0 _)⟩ ?_ ?_
 rotate_left 1
 ·rintro done a w ⟨r,t,rfl,hS,hM⟩ hall
  rw [hS.end hB hall,bk]
  exact hQ r w (MC.get (hall 7 (by rw [bk];decide)) [] (by simp) hM)
 ·rintro jz op done a w ho ⟨r,t,rfl,hS,hM⟩ hnd hdep hcl
  have e0:=hS.ol h0
  have e1:=hS.ol h1
  have e4:=hS.ol h4
  have hlt:jz<8:=by rw [← bk];exact (ga ho).1
  match jz,hlt,ho,hnd,hdep with
  | 0,_,ho,hnd,hdep=>
   refine jM oz r hB ho hS (hM.step (by rfl)) fun hop=>?_
   unfold execOp;simp [hop,e0,Vl2,go_sem]
  | 1,_,ho,hnd,hdep=>
   have x5:=hS.gt oz ho hdep
   refine jM pA r hB ho hS (hM.step (by rfl)) fun hop=>?_
   unfold execOp;simp [hop,x5,Vl2,go_sem]
  | 2,_,ho,hnd,hdep=>
   have x6:=hS.gt pA ho hdep
   refine jM pB r hB ho hS (hM.step (by rfl)) fun hop=>?_
   unfold execOp;simp [hop,x6,Vl2,go_sem]
  | 3,_,ho,hnd,hdep=>
   have x7:=hS.gt pB ho hdep
   have ny7:done 7=false:=j8 (by kernel_rfl) hcl hnd
   have cz:=hl3 w (hBB _ _ _ (MC.cut [(7,F3)] (by simp [ny7]) hM))
   refine jM pC r hB ho hS (hM.step (by rfl)) fun hop=>?_
   unfold execOp;simp [hop,x7,Vl2,cz,go_sem]
  | 4,_,ho,hnd,hdep=>
   refine jM pD r hB ho hS (hM.step (by rfl)) fun hop=>?_
   unfold execOp;simp [hop,e1,Vl2,go_sem]
  | 5,_,ho,hnd,hdep=>
   obtain ⟨hd,hop,hgd⟩:=jB pE ho
   have x9:=hS.gt pD ho hdep
   simp only [Vl2] at x9
   have ny6:done 6=false:=j8 (by kernel_rfl) hcl hnd
   have ny7:done 7=false:=j8 (by kernel_rfl) hcl hnd
   have hF:=MC.get0 [(7,F3),(6,F2),(5,F1)] (by simp [hnd,ny6,ny7]) hM
   refine jb r 73 #[u] hB ho (j0 hgd) hd hS ?_ ?_
   ·skip
    unfold execOp
    simp only [hop]
    simp [x9,go_sem]
   ·skip
    refine (hc1 r w hF).mono ?_
    rintro e w' ⟨u,rfl,hF'⟩
    refine ⟨ups r 1 u,?_,fun k hk=>?_,MC.put hF' [(7,F3),(6,F2)] (by simp [ny6,ny7])⟩
    ·simp only [Vl2,jA]
    ·skip
     have q5:k≠5:=fun e=>by rw [e,hnd] at hk;cases hk
     unfold Vl2
     split<;>first | rfl | exact absurd rfl q5
  | 6,_,ho,hnd,hdep=>
   obtain ⟨hd,hop,hgd⟩:=jB pF ho
   have x8:=hS.gt pC ho hdep
   simp only [Vl2] at x8
   have x10:=hS.gt pE ho hdep
   simp only [Vl2] at x10
   have ny7:done 7=false:=j8 (by kernel_rfl) hcl hnd
   have a5:done 5=true:=jy (j:=5) (by kernel_rfl) ho hdep
   have hF:=MC.get a5 [(7,F3),(6,F2)] (by simp [hnd,ny7]) hM
   refine jb r 7 #[.agg #[.int .i64 bits],(r 1)] hB ho (j0 hgd) hd hS ?_ ?_
   ·skip
    unfold execOp
    simp only [hop]
    simp [x8,x10,go_sem]
   ·skip
    refine (hc2 r w hF).mono ?_
    rintro e w' ⟨u,rfl,hF'⟩
    refine ⟨ups r 2 u,?_,fun k hk=>?_,MC.put hF' [(7,F3)] (by simp [ny7])⟩
    ·simp only [Vl2,jA]
    ·skip
     have q6:k≠6:=fun e=>by rw [e,hnd] at hk;cases hk
     unfold Vl2
     split<;>first | rfl | exact absurd rfl q6
  | 7,_,ho,hnd,hdep=>
   obtain ⟨hd,hop,hgd⟩:=jB a2G ho
   have x11:=hS.gt pF ho hdep
   simp only [Vl2] at x11
   have a6:done 6=true:=jy (j:=6) (by kernel_rfl) ho hdep
   have hF:=MC.get a6 [(7,F3)] (by simp [hnd]) hM
   obtain ⟨old9,ho9,hs9,e9,hF9⟩:=hw3 r w hF
   refine qh (w':=w.setRow b4 Za) r ho (j0 hgd) hd hS (MC.put hF9 [] (by simp)) ?_
   exact qN 22 _ _ hop b4 Za old9 (by show t.getD 4 undef=_;rw [gd];exact e4) (Eq.trans (by show t.getD 11 undef=_;rw [gd];exact x11) e9) w ho9 (by rw [jK,hZ.1]) (by rw [hs9,hZ.1]) hZ.2
theorem foldl2 (m b4:Nat) (bits:Int) (u:Value) (Za:Array Value) (r:Nat→Value) (t0:Array Value):fold yY (Vl2 m b4 bits u Za r) t0 8=(((((((t0.setIfInBounds 5 (.pointer (some ⟨m,0,none⟩))).setIfInBounds 6 (.pointer (some ⟨m,0,none⟩))).setIfInBounds 7 (.pointer (some ⟨m,0,none⟩))).setIfInBounds 8 (.func (.func 7) #[.agg #[.int .i64 bits]] #[])).setIfInBounds 9 (u)).setIfInBounds 10 ((r 1))).setIfInBounds 11 ((r 2))):=by kernel_rfl
theorem pG (u:Value) (t:List Nat) (W:World) (hu:Su.Has W u t) (hB:Su.Bytes t) (hT:Su.Tabs W) (hl:t.length≤1000000):
  Calls Tryz.prog 25 #[u] W fun e W'=>e=.returned (.agg (hA (shaL t)))∧G W W':=by
 obtain ⟨ao,cp,rfl,_⟩:=hu.form
 have hz32:(hA j7).size=32:=jG jC
 obtain ⟨X,hX⟩:∃ X,hA (shaL t)=X:=⟨_,rfl⟩
 have HX:Hid (X.size=32∧X.all (·.oneCell')=true):=by rw [← hX];exact ⟨jG (zR _),jn _⟩
 have CC:Hid (∀ w1 K,w1.cell? ⟨K,0,none⟩=some (.slice ao t.length cp)→G W w1→Calls Tryz.prog 63 #[.slice (some ⟨K,0,none⟩) 1 1] w1 fun e w'=>e=.returned (.agg X)∧G w1 w'):=fun w1 K h1 h2=>by rw [← hX];exact a01 _ t w1 K h1 (hu.below h2) hB (hT.up h2) (by omega)
 rw [hX]
 clear hX hu hT
 go_enter Tryz.func25,Tryz.ntmps25
 go_wp2_with (first
  | ((with_reducible refine qC 2 22 (hA j7) ?_ ?_ ?_ ?_ ?_);rfl;rfl;kernel_rfl;exact jv;intro w1 b1 H1;obtain ⟨w2,hw2⟩:∃ w2,w2=w1.alloc (.cells #[.slice ao t.length cp] 25):=⟨_,rfl⟩;have H2:Hid (w2.cell? ⟨w1.heap.size,0,none⟩=some (.slice ao t.length cp)∧G W w2∧w2.heap[b1]?=some (.cells (hA j7) 22 (0,0))):=(by subst hw2;obtain ⟨p1,p2,p3,p4⟩:=H1.o;exact ⟨by rw [j9 (World.alloc_heap_new w1 _)];rfl,G.trans p2 (G.alloc _ _),(Below.heap_alloc _ _ _ (by omega)).trans p3⟩))
  | (go_at_call 63;rw [← hw2];refine (CC.o w2 _ H2.o.1 H2.o.2.1).mono ?_;rintro e w3 ⟨rfl,q⟩;have H3:Hid (G W w3∧w3.heap[b1]?=some (.cells (hA j7) 22 (0,0))):=⟨G.trans H2.o.2.1 q,(q.block b1 (ga H2.o.2.2).1).trans H2.o.2.2⟩;clear q)
  | ((with_reducible refine qj 22 (.tmp 2) (.tmp 5) b1 X (hA j7) ?_ ?_ ?_ ?_ ?_ ?_ ?_ ?_ ?_ ?_);rfl;rfl;kernel_rfl;rfl;rfl;exact H3.o.2;exact (by rw [jK,HX.o.1]);exact (hz32.trans HX.o.1.symm);exact HX.o.2;intro w4 H4))
 refine bodyPost_ret (results_cell_row (P:=Tryz.prog) (p:=2) (ty:=22) rfl _ _ b1 22 X (0,0) _ rfl H4.o.2.1 Tryz.underlying22 rfl (by rw [jK,HX.o.1])) rfl ⟨rfl,?_⟩
 exact (((Kp.of (S:=fun b=>W.heap.size≤b) H3.o.1).trans H4.o.1 fun b hb e=>by have:=H1.o.1;omega)).below (Nat.le_refl _) fun b e=>e
theorem pH (S:List Nat→List Nat) (hS:af S) (m:Nat) (W0:World) (hm:W0.heap[m]?=some (.cells #[.func (.func 25) #[] #[]] 80 (0,0)))
  (hF:∀ W u t,G W0 W→Su.Has W u t→Su.Bytes t→t.length≤100000→Calls Tryz.prog 25 #[u] W fun e W'=>e=.returned (.agg (hA (S t)))∧G W W'):zI S m W0:=by
 intro W u t hW hu hB hl
 have hz32:(hA j7).size=32:=jG jC
 obtain ⟨X,hX⟩:∃ X,hA (S t)=X:=⟨_,rfl⟩
 have HX:Hid (X.size=32∧X.all (·.oneCell')=true):=by rw [← hX];exact ⟨jG (hS t).1,jn _⟩
 have C1:Hid (∀ w,G W w→Calls Tryz.prog 73 #[u] w fun e w'=>∃ v,e=.returned v∧Su.Owns w' w.heap.size v t∧G w w'):=fun w hg=>mW u t w (hu.below hg) (by omega)
 have C2:Hid (∀ w u,G W w→Su.Has w u t→Calls Tryz.prog 25 #[u] w fun e w'=>e=.returned (.agg X)∧G w w'):=fun w u hg hv=>by rw [← hX];exact hF w u t (G.trans hW hg) hv hB hl
 have hmW:=(hW.block m (ga hm).1).trans hm
 have HM:=hid hmW
 rw [hX]
 clear hX hu hm hmW
 go_enter Tryz.func29,Tryz.ntmps29
 go_upto_region 1 with (first
  | ((with_reducible refine qC 4 22 (hA j7) ?_ ?_ ?_ ?_ ?_);rfl;rfl;kernel_rfl;exact jv;intro w1 b1 H1))
 have HB:Hid (G W w1∧w1.heap[b1]?=some (.cells (hA j7) 22 (0,0))∧W.heap.size≤b1∧w1.heap[m]?=some (.cells #[.func (.func 25) #[] #[]] 80 (0,0))):=(by obtain ⟨p1,p2,p3,p4⟩:=H1.o;exact ⟨p2,p3,by omega,(p2.block m (ga HM.o).1).trans HM.o⟩)
 clear H1
 refine regl1 m b1 0 u X (fun _ w=>G w1 w) (fun r' w=>G w1 w∧Su.Has w (r' 1) t) (fun r' w=>G w1 w∧r' 2=.agg X) (fun _ w=>Kp (fun b=>b=b1) w1 w∧w.heap[b1]?=some (.cells X 22 (0,0))) (fun w=>G w1 w) _ w1 rfl rfl rfl rfl ⟨HX.o.1,HX.o.2⟩ (fun _ _ q=>q) (fun _ _ q=>q.1) (fun _ _ q=>q.1) ?c1 ?c2 ?c3 ?l0 (fun _=>G.drew _) ?c5
 case l0=>exact fun w q=>by rw [j9 ((q.block m (ga HB.o.2.2.2).1).trans HB.o.2.2.2)];rfl
 case c1=>
  intro r' w q
  refine (C1.o w (G.trans HB.o.1 q)).mono ?_
  rintro e w' ⟨v,rfl,q1,q2⟩
  exact ⟨_,rfl,G.trans q q2,by rw [jA];exact q1.has⟩
 case c2=>
  rintro r' w ⟨q,e1⟩
  refine (C2.o w _ (G.trans HB.o.1 q) e1).mono ?_
  rintro e w' ⟨rfl,q2⟩
  exact ⟨_,rfl,G.trans q q2,by rw [jA]⟩
 case c3=>
  rintro r' w ⟨q,e1⟩
  have hv:=(q.block b1 (ga HB.o.2.1).1).trans HB.o.2.1
  exact ⟨_,hv,hz32,e1,(Kp.of q).trans ⟨rfl,rfl,rfl,by simp,fun b _ hn=>setRow_other _ b1 b _ hn⟩ fun _ _ e=>e,setRow_heap _ _ _ _ _ _ hv⟩
 case c5=>
  rintro r' w ⟨q1,q2⟩
  rw [foldl1]
  generalize r' 1=u1
  generalize r' 2=u2
  have HF:=hid (⟨q1,q2⟩:_∧_)
  clear q1 q2
  go_simp
  go_wp2_with fail
  refine bodyPost_ret (results_cell_row (P:=Tryz.prog) (p:=4) (ty:=22) rfl _ _ b1 22 X (0,0) _ rfl HF.o.2 Tryz.underlying22 rfl (by rw [jK,HX.o.1])) rfl ⟨rfl,?_⟩
  exact (((Kp.of (S:=fun b=>W.heap.size≤b) HB.o.1).trans HF.o.1 fun b hb e=>by have:=HB.o.2.2.1;omega)).below (Nat.le_refl _) fun b e=>e
theorem wk (S:List Nat→List Nat) (hS:af S) (m:Nat) (bits:Int) (W0:World) (hm:W0.heap[m]?=some (.cells #[.func (.func 7) #[.agg #[.int .i64 bits]] #[]] 80 (0,0)))
  (hF:∀ W u t,G W0 W→Su.Has W u t→Su.Bytes t→t.length≤100000→Calls Tryz.prog 7 #[.agg #[.int .i64 bits],u] W fun e W'=>e=.returned (.agg (hA (S t)))∧G W W'):zI S m W0:=by
 intro W u t hW hu hB hl
 have hz32:(hA j7).size=32:=jG jC
 obtain ⟨X,hX⟩:∃ X,hA (S t)=X:=⟨_,rfl⟩
 have HX:Hid (X.size=32∧X.all (·.oneCell')=true):=by rw [← hX];exact ⟨jG (hS t).1,jn _⟩
 have C1:Hid (∀ w,G W w→Calls Tryz.prog 73 #[u] w fun e w'=>∃ v,e=.returned v∧Su.Owns w' w.heap.size v t∧G w w'):=fun w hg=>mW u t w (hu.below hg) (by omega)
 have C2:Hid (∀ w u,G W w→Su.Has w u t→Calls Tryz.prog 7 #[.agg #[.int .i64 bits],u] w fun e w'=>e=.returned (.agg X)∧G w w'):=fun w u hg hv=>by rw [← hX];exact hF w u t (G.trans hW hg) hv hB hl
 have hmW:=(hW.block m (ga hm).1).trans hm
 have HM:=hid hmW
 rw [hX]
 clear hX hu hm hmW
 go_enter Tryz.func29,Tryz.ntmps29
 go_upto_region 1 with (first
  | ((with_reducible refine qC 4 22 (hA j7) ?_ ?_ ?_ ?_ ?_);rfl;rfl;kernel_rfl;exact jv;intro w1 b1 H1))
 have HB:Hid (G W w1∧w1.heap[b1]?=some (.cells (hA j7) 22 (0,0))∧W.heap.size≤b1∧w1.heap[m]?=some (.cells #[.func (.func 7) #[.agg #[.int .i64 bits]] #[]] 80 (0,0))):=(by obtain ⟨p1,p2,p3,p4⟩:=H1.o;exact ⟨p2,p3,by omega,(p2.block m (ga HM.o).1).trans HM.o⟩)
 clear H1
 refine regl2 m b1 bits u X (fun _ w=>G w1 w) (fun r' w=>G w1 w∧Su.Has w (r' 1) t) (fun r' w=>G w1 w∧r' 2=.agg X) (fun _ w=>Kp (fun b=>b=b1) w1 w∧w.heap[b1]?=some (.cells X 22 (0,0))) (fun w=>G w1 w) _ w1 rfl rfl rfl rfl ⟨HX.o.1,HX.o.2⟩ (fun _ _ q=>q) (fun _ _ q=>q.1) (fun _ _ q=>q.1) ?c1 ?c2 ?c3 ?l0 (fun _=>G.drew _) ?c5
 case l0=>exact fun w q=>by rw [j9 ((q.block m (ga HB.o.2.2.2).1).trans HB.o.2.2.2)];rfl
 case c1=>
  intro r' w q
  refine (C1.o w (G.trans HB.o.1 q)).mono ?_
  rintro e w' ⟨v,rfl,q1,q2⟩
  exact ⟨_,rfl,G.trans q q2,by rw [jA];exact q1.has⟩
 case c2=>
  rintro r' w ⟨q,e1⟩
  refine (C2.o w _ (G.trans HB.o.1 q) e1).mono ?_
  rintro e w' ⟨rfl,q2⟩
  exact ⟨_,rfl,G.trans q q2,by rw [jA]⟩
 case c3=>
  rintro r' w ⟨q,e1⟩
  have hv:=(q.block b1 (ga HB.o.2.1).1).trans HB.o.2.1
  exact ⟨_,hv,hz32,e1,(Kp.of q).trans ⟨rfl,rfl,rfl,by simp,fun b _ hn=>setRow_other _ b1 b _ hn⟩ fun _ _ e=>e,setRow_heap _ _ _ _ _ _ hv⟩
 case c5=>
  rintro r' w ⟨q1,q2⟩
  rw [foldl2]
  generalize r' 1=u1
  generalize r' 2=u2
  have HF:=hid (⟨q1,q2⟩:_∧_)
  clear q1 q2
  go_simp
  go_wp2_with fail
  refine bodyPost_ret (results_cell_row (P:=Tryz.prog) (p:=4) (ty:=22) rfl _ _ b1 22 X (0,0) _ rfl HF.o.2 Tryz.underlying22 rfl (by rw [jK,HX.o.1])) rfl ⟨rfl,?_⟩
  exact (((Kp.of (S:=fun b=>W.heap.size≤b) HB.o.1).trans HF.o.1 fun b hb e=>by have:=HB.o.2.2.1;omega)).below (Nat.le_refl _) fun b e=>e
end Go.Proofs.YtdeanahpiigonaaGreatDoor
namespace Go.Proofs.YtdeanahpiigonaaGreatDoor
open Go.RowKit Hm
theorem kL {x:List Int} (h:Wire.Bytes x):Su.Bytes (h32 x):=fun y hy=>by
 unfold h32 at hy
 split at hy
 ·obtain ⟨z,hz,rfl⟩:=List.mem_map.1 hy
  have:=h z hz
  omega
 ·have:=List.eq_of_mem_replicate hy
  omega
theorem qk:Su.Bytes j7:=fun y hy=>by have:=List.eq_of_mem_replicate hy;omega
theorem fu {l:List Int} (hB:Wire.Bytes l):∀ (n:Nat) (r:Pv),∀ y∈(kQ l n r).1,y.length=32∧Su.Bytes y
 | 0,_,y,h=>by simp [kQ] at h
 | n+1,r,y,h=>by
  rw [kQ] at h
  rcases List.mem_cons.1 h with rfl | h
  ·exact ⟨qO _,kL (qW hB _)⟩
  ·exact fu hB n _ y h
theorem fv {l:List Int} (hB:Wire.Bytes l) {count place:Nat} {r:Pv} (hc:count≤1048576) (h:¬ (kg l count place r).2.dead):SpOk (kg l count place r).1:=by
 unfold kg at h ⊢
 by_cases hcp:count≤place
 ·rw [if_pos hcp] at h
  exact absurd (.inl rfl) h
 ·rw [if_neg hcp]
  exact ⟨by show place<count;omega,hc,ah _ _ _,fu hB _ _⟩
theorem dM {l:List Int} (hB:Wire.Bytes l):∀ (n:Nat) (part:Int) (r:Pv),¬ (qS l n part r).2.2.dead→∀ q∈(qS l n part r).1,SpOk q.sp∧q.mode≤8
 | 0,_,_,_,q,hq=>by simp [qS] at hq
 | n+1,part,r,h,q,hq=>by
  rw [qS] at h hq
  by_cases h1:part=1
  ·rw [if_pos h1] at h hq
   simp only at h hq
   rcases List.mem_cons.1 hq with rfl | hq
   ·have hd:¬ (yZ l r).2.dead:=fun e=>h (xA (yh e))
    exact ⟨fv hB (qt _ _ _) hd,qt _ _ _⟩
   ·exact dM hB n _ _ h q hq
  ·rw [if_neg h1] at hq
   simp at hq
def SdOk (d:Sd):Prop:=SpOk d.sp∧d.hash.length=32∧Su.Bytes d.hash∧d.name.size≤255
theorem aS {l:List Int} (hB:Wire.Bytes l) {count place:Nat} {r:Pv} (hc:count≤1048576) (h:¬ (qn l count place r).2.dead):SdOk (qn l count place r).1:=
 ⟨fv hB hc h,qO _,kL (qW hB _),aZ _ _⟩
def VdOk (v:Vd):Prop:=(0≤v.mode∧v.mode<9223372036854775808)∧(0≤v.size∧v.size<9223372036854775808)∧Su.Bytes v.sum
structure CmOk (cm:Cm):Prop where
 steps:∀ q∈cm.steps,SpOk q.sp∧q.mode≤8
 sides:∀ d∈cm.sides,SdOk d
 few:cm.sides.length≤2
 count:cm.count≤1048576
 top:cm.top.length=32∧Su.Bytes cm.top
 value:VdOk cm.value
theorem wo {l:List Int} (hB:Wire.Bytes l) {name:ByteArray} {b:Nat} {k:Nat × Pv} {c1:Cm} (hb:b≤1048576) (hs:c1.sides=[]) (h:¬ (gapS l name b k c1).2.dead):(∀ d∈(gapS l name b k c1).1.sides,SdOk d)∧(gapS l name b k c1).1.sides.length≤2∧(gapS l name b k c1).1.steps=c1.steps∧(gapS l name b k c1).1.value=c1.value∧(gapS l name b k c1).1.count=c1.count∧(gapS l name b k c1).1.top=c1.top:=by
 unfold gapS at h ⊢
 simp only at h ⊢
 by_cases hk:0<k.1
 ·rw [if_pos hk] at h ⊢
  by_cases hn:k.1<b
  ·rw [if_pos hn] at h ⊢
   simp only at h ⊢
   have h2:¬ (qn l b k.1 (qd (ltS (qn l b (k.1-1) k.2).1.name name) (qn l b (k.1-1) k.2).2)).2.dead:=fun e=>h (qB e)
   have h1:¬ (qn l b (k.1-1) k.2).2.dead:=fun e=>h2 (zc (qB e))
   refine ⟨fun d hd=>?_,by simp [hs],by simp,by simp,by simp,by simp⟩
   rw [hs] at hd
   simp at hd
   rcases hd with rfl | rfl
   ·exact aS hB hb h1
   ·exact aS hB hb h2
  ·rw [if_neg hn] at h ⊢
   simp only at h ⊢
   have h1:¬ (qn l b (k.1-1) k.2).2.dead:=fun e=>h (qB e)
   refine ⟨fun d hd=>?_,by simp [hs],by simp,by simp,by simp,by simp⟩
   rw [hs] at hd
   simp at hd
   subst hd
   exact aS hB hb h1
 ·rw [if_neg hk] at h ⊢
  by_cases hn:k.1<b
  ·rw [if_pos hn] at h ⊢
   simp only at h ⊢
   have h2:¬ (qn l b k.1 k.2).2.dead:=fun e=>h (qB e)
   refine ⟨fun d hd=>?_,by simp [hs],by simp,by simp,by simp,by simp⟩
   rw [hs] at hd
   simp at hd
   subst hd
   exact aS hB hb h2
  ·rw [if_neg hn]
   exact ⟨fun d hd=>by rw [hs] at hd;simp at hd,by simp [hs],rfl,rfl,rfl,rfl⟩
theorem wu {l:List Int} (hB:Wire.Bytes l) {names:List ByteArray} {v:Vd} (hv:v.kind≠0→VdOk v) {L:List Sq} (hL:∀ q∈L,SpOk q.sp∧q.mode≤8) {part:Int} {r:Pv} (h:¬ (endP l names v L part r).2.dead):CmOk (endP l names v L part r).1:=by
 unfold endP at h ⊢
 simp only at h ⊢
 split at h
 ·rename_i h1
  rw [if_pos h1]
  unfold yf
  split
  ·exact ⟨hL,by simp [cm0],by simp [cm0],qt _ _ _,⟨qO _,kL (qW hB _)⟩,hv h1.2.2⟩
  ·exact ⟨hL,by simp [cm0],by simp [cm0],by simp [cm0],⟨jC,qk⟩,hv h1.2.2⟩
 ·rename_i h1
  rw [if_neg h1]
  split at h
  ·rename_i h2
   rw [if_pos h2]
   unfold gapP at h ⊢
   simp only at h ⊢
   obtain ⟨g1,g2,g3,g4,g5,g6⟩:=wo hB (qt _ _ _) rfl h
   refine ⟨by rw [g3];exact hL,g1,g2,by rw [g5];exact qt _ _ _,by rw [g6];exact ⟨jC,qk⟩,?_⟩
   rw [g4,jh jC]
   have:=qt l r 8
   exact ⟨⟨by simp,by simp;omega⟩,⟨by simp,by simp⟩,qk⟩
  ·rename_i h2
   rw [if_neg h2]
   split at h
   ·rename_i h3
    rw [if_pos h3]
    unfold zo
    simp only
    refine ⟨hL,by simp [cm0],by simp [cm0],by simp [cm0],⟨jC,qk⟩,?_⟩
    have hl:∀ q:Pv,(sumP l q).1.length=32:=fun q=>qO _
    have hb:∀ q:Pv,Su.Bytes (sumP l q).1:=fun q=>kL (qW hB _)
    show VdOk (mkV _ _ _ _)
    rw [jh (hl _)]
    refine ⟨?_,?_,hb _⟩
    ·simp only
     split
     ·have:=qt l (qd (decide ((Wi.byteS l r.s).1=2)||decide ((Wi.byteS l r.s).1=3)) ⟨(Wi.byteS l r.s).2,r.bad⟩) 8
      omega
     ·exact ⟨by simp,by simp⟩
    ·simp only
     have:∀ r,((numP l 1099511627775 r).1:Int)<9223372036854775808:=fun r=>by have:=qt l r 1099511627775;omega
     exact ⟨by simp,this _⟩
   ·exact absurd (.inl rfl) h
theorem pJ {l:List Int} (hB:Wire.Bytes l) {names:List ByteArray} {v:Vd} (hv:v.kind≠0→VdOk v) {cm:Cm} (h:bZ l names v=some cm):CmOk cm∧cm.steps.length≤names.length:=by
 unfold bZ at h
 simp only at h
 split at h
 ·cases h
 ·rename_i hn
  injection h with h
  have hd:¬ (yg l names v p0).2.dead:=fun e=>hn (by
   rcases e with e | e
   ·exact .inl e
   ·right;rw [fx e];exact e)
  rw [← h]
  unfold yg at hd ⊢
  simp only at hd ⊢
  have hs:¬ (qS l names.length (Wi.byteS l p0.s).1 ⟨(Wi.byteS l p0.s).2,p0.bad⟩).2.2.dead:=fun e=>hd (dQ e)
  refine ⟨wu hB hv (dM hB _ _ _ hs) hd,?_⟩
  have hle:∀ (n:Nat) (part:Int) (r:Pv),(qS l n part r).1.length≤n:=by
   intro n
   induction n with
   | zero=>intro part r;simp [qS]
   | succ n ih=>
    intro part r
    rw [qS]
    split
    ·simp only [List.length_cons]
     have:=ih (Wi.byteS l (yZ l r).2.s).1 ⟨(Wi.byteS l (yZ l r).2.s).2,(yZ l r).2.bad⟩
     omega
    ·simp
  have hst:∀ (L:List Sq) (part:Int) (r:Pv),(endP l names v L part r).1.steps=L:=by
   intro L part r
   unfold endP
   simp only
   split
   ·unfold yf;split<;>rfl
   ·split
    ·unfold gapP gapS
     simp only
     split
     ·split<;>rfl
     ·split<;>rfl
    ·split
     ·rfl
     ·rfl
  rw [hst]
  exact hle _ _ _
end Go.Proofs.YtdeanahpiigonaaGreatDoor
