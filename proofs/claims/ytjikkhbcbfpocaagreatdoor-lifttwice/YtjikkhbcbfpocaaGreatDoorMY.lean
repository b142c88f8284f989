import Derived.Test.YtjikkhbcbfpocaaGreatDoorMI
set_option maxRecDepth 100000
set_option maxHeartbeats 4000000
namespace Go.Proofs.YtjikkhbcbfpocaaGreatDoor
open Go.RowKit Go.Shelf
attribute [local go_sem] Oper.semAt_some
theorem tR (u:Value) (t:List Nat) (W:World) (hu:Su.Has W u t) (hB:Su.Bytes t) (hT:Su.Tabs W) (hl:t.length≤1000000):
  Calls Tryz.prog 117 #[u] W fun e W'=>e=.returned (.agg ((shaL t).map Su.vb).toArray)∧G W W':=by
 obtain ⟨ao,cp,rfl,_⟩:=hu.form
 obtain ⟨B,hBs⟩:∃ B,W.heap.size=B:=⟨_,rfl⟩
 obtain ⟨w1,hw1⟩:∃ w1,w1=(W.alloc (.cells z22 22)).alloc (.cells #[.slice ao t.length cp] 35):=⟨_,rfl⟩
 have hG1:G W w1:=by rw [hw1];exact (G.alloc _ _).trans (G.alloc _ _)
 have hc:w1.cell? ⟨B+1,0,none⟩=some (.slice ao t.length cp):=by
  have:=jB (jW (W.alloc (.cells z22 22)) #[.slice ao t.length cp] 35) 0 _ rfl
  rw [World.size_alloc,hBs] at this
  rw [hw1]
  exact this
 have hv:w1.heap[B]?=some (.cells z22 22 (0,0)):=by
  rw [hw1,Below.heap_alloc _ _ _ (by rw [World.size_alloc];omega),← hBs]
  exact World.alloc_heap_new W _
 have CC:=pQ _ t w1 (B+1) hc (hu.below hG1) hB (hT.up hG1) (by omega)
 have HX:Hid (((shaL t).map Su.vb).toArray.size=32∧((shaL t).map Su.vb).toArray.all (·.oneCell')=true):=⟨by simp [qg],kV _⟩
 generalize ((shaL t).map Su.vb).toArray=X at *
 have HA:=hid (⟨hG1,hv⟩:_∧_)
 have hs1:(W.alloc (.cells z22 22)).heap.size=B+1:=by rw [World.size_alloc,hBs]
 clear hu hT hG1 hc hv
 go_enter Tryz.func117,Tryz.ntmps117
 go_wp2_with (first
  | ((with_reducible refine jF (.pointer (some ⟨B,0,none⟩)) (W.alloc (.cells z22 22)) ?_ ?_);exact jG 22 z22 rfl qm _ _ hBs)
  | (go_at_call 83;rw [← hw1];refine CC.mono ?_;rintro e w2 ⟨rfl,hg2⟩;have hv2:w2.heap[B]?=some (.cells z22 22 (0,0)):=(hg2.block B (gS HA.o.2)).trans HA.o.2;have HG:=hid (⟨HA.o.1.trans hg2,hv2⟩:_∧_);clear hg2 hv2)
  | ((with_reducible refine jC (w2.setRow B X) ?_ ?_);exact jL 22 _ _ rfl B X z22 rfl rfl _ HG.o.2 (by rw [jx,HX.o.1]) (by rw [ju,HX.o.1]) HX.o.2))
 refine bodyPost_ret (results_cell_row (P:=Tryz.prog) (p:=2) (ty:=22) rfl _ _ B 22 X (0,0) _ rfl (setRow_heap _ _ _ _ _ _ HG.o.2) Tryz.underlying22 rfl (by rw [jx,HX.o.1])) rfl ⟨rfl,?_⟩
 exact Below.trans (B:=W.heap.size) HG.o.1 ⟨rfl,rfl,rfl,by simp,fun b hb=>setRow_other _ B b _ (by omega)⟩
def aD (W:World) (Hb:Nat):Prop:=W.heap[Hb]?=some (.cells #[.func (.func 117) #[] #[]] 185 (0,0))
theorem tS (u:Value) (t:List Nat) (Hb:Nat) (W:World) (hH:aD W Hb) (hu:Su.Has W u t) (hB:Su.Bytes t) (hT:Su.Tabs W) (hl:t.length≤1000000):
  Calls Tryz.prog 120 #[.pointer (some ⟨Hb,0,none⟩),u] W fun e W'=>e=.returned (.agg ((shaL t).map Su.vb).toArray)∧G W W':=by
 obtain ⟨B,hBs⟩:∃ B,W.heap.size=B:=⟨_,rfl⟩
 obtain ⟨w1,hw1⟩:∃ w1,w1=W.alloc (.cells z22 22):=⟨_,rfl⟩
 have hG1:G W w1:=by rw [hw1];exact G.alloc _ _
 have hv:w1.heap[B]?=some (.cells z22 22 (0,0)):=by rw [hw1,← hBs];exact World.alloc_heap_new W _
 have hf:∀ w,G w1 w→w.cell? ⟨Hb,0,none⟩=some (.func (.func 117) #[] #[]):=fun w hg=>hg.cell (hG1.cell (jB (jD hH) 0 _ rfl))
 have C1:∀ w,G w1 w→Calls Tryz.prog 90 #[u] w fun e w'=>∃ v,e=.returned v∧Su.Owns w' w.heap.size v t∧G w w':=fun w hg=>vQ u t w (hu.below (hG1.trans hg)) (by omega)
 have C2:∀ w v,G w1 w→Su.Has w v t→Calls Tryz.prog 117 #[v] w fun e W'=>e=.returned (.agg ((shaL t).map Su.vb).toArray)∧G w W':=fun w v hg hv=>tR v t w hv hB (hT.up (hG1.trans hg)) hl
 have HX:Hid (((shaL t).map Su.vb).toArray.size=32∧((shaL t).map Su.vb).toArray.all (·.oneCell')=true):=⟨by simp [qg],kV _⟩
 generalize ((shaL t).map Su.vb).toArray=X at *
 have HA:=hid (⟨hG1,hv,hf,C1,C2⟩:_∧_∧_∧_∧_)
 clear hu hT hG1 hv hf C1 C2 hH
 refine (callsIn_wide (n:=3)).1 ?_
 refine callsIn_of_wp_marks Tryz.func120 rfl trivial (Go.wpIn_mono (Q:=RetM Tryz.f120 _) ?_ RetM.post) rfl
 simp only [Tryz.ntmps120,List.size_toArray,lC,lN,Nat.reduceAdd,Nat.reduceSub,Array.replicate_succ,Array.replicate_zero,List.push_toArray,List.append_toArray,List.nil_append,List.cons_append]
 gi_wp2_with ((with_reducible refine qP (.pointer (some ⟨B,0,none⟩)) (W.alloc (.cells z22 22)) ?_ ?_ ?_ ?_ ?_);rfl;exact jG 22 z22 rfl qm _ _ hBs;(intro c h;cases h);exact fun _ _=>trivial)
 rw [← hw1]
 refine qj 7 ?_
 have HD:Hid (G w1 w1.drew):=G.drew w1
 generalize w1.drew=w2 at *
 refine tX 0 5 (.pointer (some ⟨Hb,0,none⟩)) (fun wz hz=>?_) ?_
 ·rfl
 refine tX 1 6 (.pointer (some ⟨Hb,0,none⟩)) (fun wz hz=>?_) ?_
 ·go_simp
 refine tX 2 7 (.pointer (some ⟨Hb,0,none⟩)) (fun wz hz=>?_) ?_
 ·go_simp
 refine tX 3 8 (.func (.func 117) #[] #[]) (fun wz hz=>?_) ?_
 ·have y:=HA.o.2.2.1 wz (HD.o.trans hz);go_simp
 refine tX 4 9 (u) (fun wz hz=>?_) ?_
 ·rfl
 refine ko [5] (by kernel_rfl) (by simp) fun w3 hg3=>?_
 refine kX 5 10 90 #[u] rfl (by kernel_rfl) (by go_simp) ((callsIn_wide.2 (HA.o.2.2.2.1 w3 (HD.o.trans hg3))).mono ?_)
 rintro e w4 ⟨u4,rfl,h4,hg4⟩
 refine ⟨_,rfl,hg4,?_⟩
 try simp only [Act.put,sA,sB,sC]
 refine ko [6] (by kernel_rfl) (by simp) fun w5 hg5=>?_
 refine kX 6 11 117 #[u4] rfl (by kernel_rfl) (by go_simp) ((callsIn_wide.2 (HA.o.2.2.2.2 w5 u4 (((HD.o.trans hg3).trans hg4).trans hg5) (Su.Owns.has (Su.Owns.below h4 hg5 (Nat.le_refl _))))).mono ?_)
 rintro e w6 ⟨rfl,hg6⟩
 refine ⟨_,rfl,hg6,?_⟩
 try simp only [Act.put,sA,sB,sC]
 refine dL (by kernel_rfl) fun w9 hg9=>?_
 have hz9:G w1 w9:=((((HD.o.trans hg3).trans hg4).trans hg5).trans hg6).trans hg9
 have hv9:w9.heap[B]?=some (.cells z22 22 (0,0)):=(hz9.block B (gS HA.o.2.1)).trans HA.o.2.1
 refine rI [7] ?_
 refine wH jE 7 (w9.setRow B X) rfl rfl (by kernel_rfl) (by intro c h;cases h) (jL 22 _ _ rfl B X z22 rfl rfl _ hv9 (by rw [jx,HX.o.1]) (by rw [ju,HX.o.1]) HX.o.2) ?_
 try simp only [List.setIfInBounds_toArray,List.set_cons_zero,List.set_cons_succ]
 refine dI ?_
 have HF:Hid ((w9.setRow B X).heap[B]?=some (.cells X 22 (0,0))∧G W (w9.setRow B X)):=⟨setRow_heap _ _ _ _ _ _ hv9,Below.trans (B:=W.heap.size) (HA.o.1.trans hz9) ⟨rfl,rfl,rfl,by simp,fun b hb=>setRow_other _ B b _ (by omega)⟩⟩
 clear h4 hv9 hz9
 gi_wp2_with fail
 exact ⟨_,results_cell_row (P:=Tryz.prog) (p:=4) (ty:=22) rfl _ _ B 22 X (0,0) _ rfl HF.o.1 Tryz.underlying22 rfl (by rw [jx,HX.o.1]),rfl,HF.o.2⟩
theorem vk (w:World):(binOp .eql 183 .nilFunc .nilFunc).run Tryz.prog w=.ok (.bool true) w:=by kernel_rfl
theorem nV (w:World):(eqGuard .eql 183 (.tmp 3) (.const .nilFunc) .nilFunc .nilFunc).run Tryz.prog w=.ok () w:=by kernel_rfl
theorem im {o:Oper} {a:Act} (y:Operand) (ho:o.op=.binOp .eql 183 (.tmp 3) y 183) (hy0:y=.const .nilFunc) (hx:a.eval (.tmp 3)=.nilFunc) (w:World):(execOp a.eval o).run Tryz.prog w=.ok (.value (.bool true)) w:=by
 have hy:a.eval y=.nilFunc:=by rw [hy0];rfl
 unfold execOp
 simp only [ho,hx,hy,Sem.run_bind]
 rw [hy0,nV]
 simp only [Result.andThen_ok,vk,Sem.run_pure]
theorem a0C (W:World):Calls Tryz.prog 81 #[.nilFunc] W fun e W'=>e=.returned (.pointer (some ⟨W.heap.size,0,none⟩))∧W'=W.alloc (.cells #[.func (.func 117) #[] #[]] 185):=by
 go_enter Tryz.func81,Tryz.ntmps81
 go_wp2_with ((with_reducible refine jA (.bool true) ?_ ?_);exact im _ rfl rfl rfl _)
 go_ret
 exact ⟨rfl,rfl⟩
theorem px (Hb p:Nat) (W:World):Calls Tryz.prog 82 #[.pointer (some ⟨Hb,0,none⟩),.pointer (some ⟨p,0,none⟩)] W fun e W'=>e=.returned (.func (.func 118) #[] #[.pointer (some ⟨W.heap.size,0,none⟩),.pointer (some ⟨W.heap.size+1,0,none⟩)])∧W'=(W.alloc (.cells #[.pointer (some ⟨Hb,0,none⟩)] 149)).alloc (.cells #[.pointer (some ⟨p,0,none⟩)] 32):=by
 have hmf:∀ (fn:Fn) (first cap:Array Value) (w:World),(Instr.makeFunc fn first cap).run Tryz.prog w=.ok (.func fn first cap) w:=fun _ _ _ _=>rfl
 go_enter Tryz.func82,Tryz.ntmps82
 go_wp2
 go_ret
 exact ⟨rfl,rfl⟩
def dirs (ts:List (List Nat)):List (List Nat):=(ts.filter fun t=>t.getD 0 0==68).map shaL
def hrow (hs:List (List Nat)):List Value:=(hs.map fun h=>h.map Su.vb).flatten
structure At8 where
 Lc:Nat
 l0:Nat
 c1:Nat
 Hb:Nat
 c2:Nat
 c3:Nat
 Wb:Nat
 lo:Nat
def MS8 (A:At8) (u:Value):Nat→Prop:=fun b=>b=A.Lc∨some b=u.ownBlock∨b=A.l0+1∨b=A.l0∨b=A.c1∨b=A.Hb∨b=A.c2∨b=A.c3
structure R8 (A:At8) (rc:Loop) (pre:List (List Nat)) (u:Value) (W:World):Prop where
 bx:Boxed W A.Lc 109 u
 ow:W.ownsRow A.lo 22 32 u (dirs pre).length (hrow (dirs pre))
 lp:W.heap[A.l0+1]?=some (.loop rc)
 df:W.heap[A.l0]?=some (.deferred (some []))
 b1:Boxed W A.c1 149 (.pointer (some ⟨A.Hb,0,none⟩))
 hb:aD W A.Hb
 b2:Boxed W A.c2 186 (.func (.yield (A.l0+1)) #[] #[])
 b3:Boxed W A.c3 187 (.pointer (some ⟨A.Wb,0,none⟩))
 lo4:4≤A.lo
 los:A.lo≤A.Lc∧A.lo≤A.l0∧A.lo≤A.c1∧A.lo≤A.Hb∧A.lo≤A.c2∧A.lo≤A.c3
 ne:some A.Wb≠u.ownBlock∧A.Wb≠A.Lc∧A.Wb≠A.l0∧A.Wb≠A.l0+1∧A.Wb≠A.c1∧A.Wb≠A.Hb∧A.Wb≠A.c2∧A.Wb≠A.c3
def S8 (A:At8) (rc:Loop) (pre:List (List Nat)) (M:Nat→Prop) (W:World):Prop:=∃ u,R8 A rc pre u W∧M=MS8 A u
theorem um {W:World} {lo e size n:Nat} {u:Value} {xs:List Value} (h:W.ownsRow lo e size u n xs) {b:Nat} (hb:some b=u.ownBlock):lo≤b∧b<W.heap.size:=World.ownsRow.lt h b hb.symm
theorem R8.keep {A:At8} {rc:Loop} {pre:List (List Nat)} {u:Value} {W W':World} (h:R8 A rc pre u W) (hk:∀ b,MS8 A u b→W'.heap[b]?=W.heap[b]?):R8 A rc pre u W':=
 ⟨(hk _ (.inl rfl)).trans h.bx,kB h.ow fun g hg=>hk g (.inr (.inl hg.symm)),(hk _ (.inr (.inr (.inl rfl)))).trans h.lp,(hk _ (.inr (.inr (.inr (.inl rfl))))).trans h.df,(hk _ (.inr (.inr (.inr (.inr (.inl rfl)))))).trans h.b1,
  (hk _ (.inr (.inr (.inr (.inr (.inr (.inl rfl))))))).trans h.hb,(hk _ (.inr (.inr (.inr (.inr (.inr (.inr (.inl rfl)))))))).trans h.b2,(hk _ (.inr (.inr (.inr (.inr (.inr (.inr (.inr rfl)))))))).trans h.b3,h.lo4,h.los,h.ne⟩
theorem R8.lt {A:At8} {rc:Loop} {pre:List (List Nat)} {u:Value} {W:World} (h:R8 A rc pre u W):A.lo≤W.heap.size∧∀ b,MS8 A u b→A.lo≤b∧b<W.heap.size:=by
 have g:∀ {b:Nat} {o:Obj},W.heap[b]?=some o→b<W.heap.size:=fun h=>(gS h)
 have l1:=h.bx.lt
 obtain ⟨a1,a2,a3,a4,a5,a6⟩:=h.los
 refine ⟨by omega,fun b hb=>?_⟩
 rcases hb with rfl | hb | rfl | rfl | rfl | rfl | rfl | rfl
 ·exact ⟨a1,l1⟩
 ·exact um h.ow hb
 ·exact ⟨by omega,g h.lp⟩
 ·exact ⟨a2,g h.df⟩
 ·exact ⟨a3,h.b1.lt⟩
 ·exact ⟨a4,g h.hb⟩
 ·exact ⟨a5,h.b2.lt⟩
 ·exact ⟨a6,h.b3.lt⟩
def Yd (A:At8) (rc:Loop):Prop:=∀ (pre:List (List Nat)) (M:Nat→Prop) (W:World) (u:Value) (t:List Nat) (m:Nat),S8 A rc pre M W→pre.length<1000000→Su.Has W u t→Su.Bytes t→1≤t.length→t.length≤1000000→Su.Tabs W→YieldAt Fence.wide m Tryz.prog (A.l0+1) #[u] W fun e W'=>e=.returned (.bool true)∧∃ M',S8 A rc (pre++[t]) M' W'∧(∀ b,M' b→M b∨W.heap.size≤b)∧Fr M W W'
section
variable {F:Fence} {n:Nat} {md:Region.Mode} {ops:Array Oper} {Q:Exit→Act→World→Prop} {Inv:World→Prop}
theorem AllJ.round (hL:Lets F n) (i d l:Nat) {oi:Oper} {k:Nat} {listed:Array Bool} {a:Act} {w:World} (f:FuncId) (tmps:Array Value) (assign body:Code) (hi:ops[i]?=some oi) (hk:(oi.dst==some d&&qM ops&&Region.wanted oi (yielded ops a.tmps))=true)
  (hx:(execOp a.eval oi).run Tryz.prog w=.ok (.round l f tmps assign body) w) (hc:RoundIn F (n-1) Tryz.prog l f tmps assign body w fun e w'=>∃ v,e=.returned v∧Inv w'∧wpJ Inv F n md ops Q k (listed.setIfInBounds i true) (a.put (some d) v) w'):AllJ Inv F n md ops Q k listed a w [i]:=fun j hj=>by
 simp only [Bool.and_eq_true,beq_iff_eq] at hk
 obtain ⟨⟨hd,hnd⟩,hw⟩:=hk
 obtain rfl:j=i:=by simpa using hj
 unfold Go.wpOpIn
 simp only [hi,hw,if_true,Oper.wpIn]
 refine ⟨fun f _=>hL.fn f,?_⟩
 rw [Oper.semAt_plain _ _ _ (jX hnd hi),hx,Oper.uponIn_round]
 refine ⟨hL.dp,hc.mono ?_⟩
 rintro e w' ⟨v,rfl,h1,h2⟩
 show _∧_
 rw [hd]
 exact ⟨h1,h2⟩
end
theorem R8.o {A:At8} {rc:Loop} {pre:List (List Nat)} {u:Value} {W:World} (h:R8 A rc pre u W):¬ MS8 A u A.Wb:=fun hb=>by
 obtain ⟨n1,n2,n3,n4,n5,n6,n7,n8⟩:=h.ne
 rcases hb with hb | hb | hb | hb | hb | hb | hb | hb
 ·exact n2 hb
 ·exact n1 hb
 ·exact n4 hb
 ·exact n3 hb
 ·exact n5 hb
 ·exact n6 hb
 ·exact n7 hb
 ·exact n8 hb
theorem gU {W:World} {g:Nat} {c:Array Value} {t:TypeId} {j:Nat} {v:Value} (h:W.heap[g]?=some (.cells c t (0,0))) (hj:c[j]?=some v):∀ b:Nat,(W.setCell ⟨g,j,none⟩ v).heap[b]?=W.heap[b]?:=fun b=>by
 by_cases hb:b=g
 ·subst hb
  have e:c.setIfInBounds j v=c:=by
   apply Array.ext_getElem?
   intro i
   rw [Array.getElem?_setIfInBounds]
   split
   ·rename_i e;subst e
    have hl:=(gS hj)
    rw [if_pos hl,hj]
   ·rfl
  unfold World.setCell
  simp only []
  rw [Array.getElem?_modify]
  simp [h,e]
 ·exact Below.heap_setCell _ _ _ _ hb
theorem pu (A:At8) (rc:Loop) (hY:Yd A rc) {pre:List (List Nat)} {M:Nat→Prop} {W:World} {u:Value} {t:List Nat} (hS:S8 A rc pre M W) (hP:pre.length<1000000) (hu:Su.Has W u t) (hB:Su.Bytes t) (h1:1≤t.length) (hl:t.length≤1000000) (hT:Su.Tabs W)
  (hW:qT W A.Wb (.pointer (some ⟨A.c1,0,none⟩)) (.pointer (some ⟨A.c2,0,none⟩)) (.pointer (some ⟨A.c3,0,none⟩))):
  Calls Tryz.prog 119 #[u,.pointer (some ⟨A.c1,0,none⟩),.pointer (some ⟨A.c2,0,none⟩),.pointer (some ⟨A.c3,0,none⟩)] W fun e W'=>e=.returned (.agg ((shaL t).map Su.vb).toArray)∧∃ M',S8 A rc (pre++[t]) M' W'∧(∀ b,M' b→M b∨W.heap.size≤b)∧Fr M W W':=by
 obtain ⟨ul,hR,rfl⟩:=hS
 have HP:=hid hP
 clear hP
 have hb:=hR.lt
 obtain ⟨B,hBs⟩:∃ B,W.heap.size=B:=⟨_,rfl⟩
 obtain ⟨w1,hw1⟩:∃ w1,w1=W.alloc (.cells z22 22):=⟨_,rfl⟩
 have hG1:G W w1:=by rw [hw1];exact G.alloc _ _
 have hs1:w1.heap.size=B+1:=by rw [hw1];simp [hBs]
 have hv1:w1.heap[B]?=some (.cells z22 22 (0,0)):=by rw [hw1,← hBs];exact World.alloc_heap_new W _
 have hR1:R8 A rc pre ul w1:=hR.keep fun b h=>hG1.block b (hb.2 b h).2
 have q1:=hR1.b1.cell
 rw [hw1] at q1
 have C1:=tS u t A.Hb w1 hR1.hb (hu.below hG1) hB (hT.up hG1) hl
 have HX:Hid (((shaL t).map Su.vb).toArray.size=32∧((shaL t).map Su.vb).toArray.all (·.oneCell')=true):=⟨by simp [qg],kV _⟩
 have HU:=hid (⟨hu,hB,h1,hl,hT⟩:_∧_∧_∧_∧_)
 generalize ((shaL t).map Su.vb).toArray=X at *
 have HA:=hid (⟨hG1,hs1,hv1,hR1,hb,hW.grow hG1⟩:_∧_∧_∧_∧_∧_)
 clear hu hT hG1 hs1 hv1 hR1 hb hW hR hB h1 hl
 go_enter Tryz.func119,Tryz.ntmps119
 go_upto_region 2 with (first
  | ((with_reducible refine jF (.pointer (some ⟨B,0,none⟩)) (W.alloc (.cells z22 22)) ?_ ?_);exact jG 22 z22 rfl qm _ _ hBs)
  | (go_at_call 120;rw [← hw1];refine C1.mono ?_;rintro e w2 ⟨rfl,hg2⟩;have HG2:=hid hg2;clear hg2 C1;obtain ⟨B6,hB6⟩:∃ B6,w2.heap.size=B6:=⟨_,rfl⟩)
  | ((with_reducible refine jF (.pointer (some ⟨B6,0,none⟩)) (w2.alloc (.cells z22 22)) ?_ ?_);exact jG 22 z22 rfl qm _ _ hB6)
  | ((with_reducible refine jC ((w2.alloc (.cells z22 22)).setRow B6 X) ?_ ?_);exact jL 22 _ _ rfl B6 X z22 rfl rfl _ (by rw [← hB6];exact World.alloc_heap_new w2 _) (by rw [jx,HX.o.1]) (by rw [ju,HX.o.1]) HX.o.2))
 try simp only [Act.put,sA,sB,sC]
 have N4:=qX w2 22 z22 X
 rw [hB6] at N4
 generalize (w2.alloc (.cells z22 22)).setRow B6 X=w4 at *
 have H4:Hid (G W w4.drew∧B+1≤B6∧B6<w4.drew.heap.size∧w4.drew.heap[B6]?=some (.cells X 22 (0,0))∧w4.drew.heap[B]?=some (.cells z22 22 (0,0))∧R8 A rc pre ul w4.drew∧qT w4.drew A.Wb (.pointer (some ⟨A.c1,0,none⟩)) (.pointer (some ⟨A.c2,0,none⟩)) (.pointer (some ⟨A.c3,0,none⟩))):=by
  obtain ⟨hG1,hs1,hv1,hR1,hb,hW1⟩:=HA.o
  have hg:G w1 w4.drew:=(HG2.o.trans N4.1).trans (G.drew _)
  have hz2:=HG2.o.size
  have hl6:=(gS N4.2.1)
  exact ⟨hG1.trans hg,by omega,hl6,N4.2.1,(hg.block B (by omega)).trans hv1,hR1.keep fun b h=>hg.block b (by have:=(hb.2 b h).2;omega),hW1.grow hg⟩
 clear N4 HG2 hB6 q1 hw1
 refine (wpIn_wide (n:=3)).1 ?_
 refine kE (fun w=>w.cell? ⟨A.c3,0,none⟩=some (.pointer (some ⟨A.Wb,0,none⟩))∧w.cell? ⟨A.c2,0,none⟩=some (.func (.yield (A.l0+1)) #[] #[])) ?_
 generalize w4.drew=w5 at *
 have hI5:w5.cell? ⟨A.c3,0,none⟩=some (.pointer (some ⟨A.Wb,0,none⟩))∧w5.cell? ⟨A.c2,0,none⟩=some (.func (.yield (A.l0+1)) #[] #[]):=⟨H4.o.2.2.2.2.2.1.b3.cell,H4.o.2.2.2.2.2.1.b2.cell⟩
 refine tJ jE 0 10 (.pointer (some ⟨A.Wb,0,none⟩)) hI5 (fun wz hz=>?_) ?_
 ·have y:=hz.1;go_simp
 refine tJ jE 1 11 (.func (.yield (A.l0+1)) #[] #[]) hI5 (fun wz hz=>?_) ?_
 ·have y:=hz.2;go_simp
 refine tJ jE 2 12 (u) hI5 (fun wz hz=>?_) ?_
 ·rfl
 obtain ⟨hu,hB,h1,hl,hT⟩:=HU.o
 obtain ⟨fn,tmps,asg,bdy,hyr,hrd⟩:=hY pre _ w5 u t (3-1) ⟨ul,H4.o.2.2.2.2.2.1,rfl⟩ HP.o (hu.below H4.o.1) hB h1 hl (hT.up H4.o.1)
 refine jb [3] (by kernel_rfl) (by simp) ?_
 refine AllJ.round jE 3 13 (A.l0+1) fn tmps asg bdy rfl (by kernel_rfl) (by go_simp) (hrd.mono ?_)
 rintro e w6 ⟨rfl,M6,⟨u6,hR6,rfl⟩,hM6,hf6⟩
 have hI6:w6.cell? ⟨A.c3,0,none⟩=some (.pointer (some ⟨A.Wb,0,none⟩))∧w6.cell? ⟨A.c2,0,none⟩=some (.func (.yield (A.l0+1)) #[] #[]):=⟨hR6.b3.cell,hR6.b2.cell⟩
 refine ⟨_,rfl,hI6,?_⟩
 try simp only [Act.put,sA,sB,sC]
 refine tJ jE 4 14 (.bool false) hI6 (fun wz hz=>?_) ?_
 ·go_simp
 refine tJ jE 5 15 (.pointer (some ⟨A.Wb,0,none⟩)) hI6 (fun wz hz=>?_) ?_
 ·go_simp
 refine tJ jE 6 16 (.pointer (some ⟨A.Wb,1,none⟩)) hI6 (fun wz hz=>?_) ?_
 ·go_simp
 have hnW:¬ MS8 A ul A.Wb:=R8.o H4.o.2.2.2.2.2.1
 have hW6:=H4.o.2.2.2.2.2.2.fr hf6 hnW
 have hsm:∀ b:Nat,(w6.setCell ⟨A.Wb,1,none⟩ (.bool false)).heap[b]?=w6.heap[b]?:=gU hW6 rfl
 have y1:=jB hW6.lies 1 _ rfl
 have y2:w6.frozen? ⟨A.Wb,1,none⟩=false:=by have h':w6.heap[A.Wb]?=_:=hW6;simp [World.frozen?,h']
 have hI7:(w6.setCell ⟨A.Wb,1,none⟩ (.bool false)).cell? ⟨A.c3,0,none⟩=some (.pointer (some ⟨A.Wb,0,none⟩))∧(w6.setCell ⟨A.Wb,1,none⟩ (.bool false)).cell? ⟨A.c2,0,none⟩=some (.func (.yield (A.l0+1)) #[] #[]):=⟨(World.cell?_of_block (hsm _)).trans hI6.1,(World.cell?_of_block (hsm _)).trans hI6.2⟩
 refine jb [7] (by kernel_rfl) (by simp) ?_
 refine AllJ.skip jE 7 (w6.setCell ⟨A.Wb,1,none⟩ (.bool false)) rfl (by kernel_rfl) (by go_simp) hI7 ?_ AllJ.nil
 try simp only [List.setIfInBounds_toArray,List.set_cons_zero,List.set_cons_succ]
 refine xn (by kernel_rfl) ?_
 have HF:Hid ((∀ b:Nat,(w6.setCell ⟨A.Wb,1,none⟩ (.bool false)).heap[b]?=w6.heap[b]?)∧(w6.setCell ⟨A.Wb,1,none⟩ (.bool false)).heap.size=w6.heap.size∧R8 A rc (pre++[t]) u6 w6∧(∀ b,MS8 A u6 b→MS8 A ul b∨w5.heap.size≤b)∧Fr (MS8 A ul) w5 w6∧((w6.setCell ⟨A.Wb,1,none⟩ (.bool false)).os=w6.os∧(w6.setCell ⟨A.Wb,1,none⟩ (.bool false)).tape=w6.tape∧(w6.setCell ⟨A.Wb,1,none⟩ (.bool false)).output=w6.output)):=⟨hsm,by simp,hR6,hM6,hf6,rfl,rfl,rfl⟩
 have hn6:¬ MS8 A ul B6:=fun h=>by have:=(HA.o.2.2.2.2.1.2 B6 h).2;have:=H4.o.2.1;omega
 have hnB:¬ MS8 A ul B:=fun h=>by have:=(HA.o.2.2.2.2.1.2 B h).2;omega
 have hv6:(w6.setCell ⟨A.Wb,1,none⟩ (.bool false)).heap[B6]?=some (.cells X 22 (0,0)):=(hsm B6).trans ((hf6.same B6 H4.o.2.2.1 hn6).trans H4.o.2.2.2.1)
 have hvB:(w6.setCell ⟨A.Wb,1,none⟩ (.bool false)).heap[B]?=some (.cells z22 22 (0,0)):=(hsm B).trans ((hf6.same B (by have:=H4.o.2.2.1;have:=H4.o.2.1;omega) hnB).trans H4.o.2.2.2.2.1)
 clear hsm hR6 hM6 hf6 hW6 y1 y2 hI7 hI6 hI5 hrd hyr
 generalize w6.setCell ⟨A.Wb,1,none⟩ (.bool false)=w7 at *
 go_wp2_with (first
  | ((with_reducible refine jA (.agg X) ?_ ?_);exact jv 22 _ rfl B6 0 rfl X _ (jD hv6) Tryz.underlying22 rfl (by rw [jx,HX.o.1]))
  | ((with_reducible refine jC (w7.setRow B X) ?_ ?_);exact jL 22 _ _ rfl B X z22 rfl rfl _ hvB (by rw [jx,HX.o.1]) (by rw [ju,HX.o.1]) HX.o.2))
 obtain ⟨hsm,hsz,hR6,hM6,hf6,o1,o2,o3⟩:=HF.o
 obtain ⟨hG5,h6B,h6l,_⟩:=H4.o
 have z5:=hG5.size
 refine bodyPost_ret (results_cell_row (P:=Tryz.prog) (p:=5) (ty:=22) rfl _ _ B 22 X (0,0) _ rfl (setRow_heap _ _ _ _ _ _ hvB) Tryz.underlying22 rfl (by rw [jx,HX.o.1])) rfl ⟨rfl,_,⟨u6,hR6.keep fun b h=>?_,rfl⟩,fun b h=>(hM6 b h).imp id fun h=>by omega,?_⟩
 ·rw [setRow_other _ B b _ fun e=>?_,hsm b]
  subst e
  rcases hM6 b h with h | h
  ·exact hnB h
  ·omega
 ·refine Fr.row _ _ _ _ _ ?_ (by omega)
  have F5:Fr (MS8 A ul) W w6:=(Fr.of_G hG5).trans (fun b h=>.inl h) hf6
  exact ⟨o1.trans F5.os,o2.trans F5.tape,o3.trans F5.output,by rw [hsz];exact F5.size,fun b hb hn=>(hsm b).trans (F5.same b hb hn)⟩
end Go.Proofs.YtjikkhbcbfpocaaGreatDoor
namespace Go.Proofs.YtjikkhbcbfpocaaGreatDoor
open Go.RowKit Go.Shelf
theorem cb8 (A:At8) (rc:Loop) (h4:4≤A.lo) (hY:Yd A rc):CB (S8 A rc) A.lo A.Wb (.pointer (some ⟨A.c1,0,none⟩)) (.pointer (some ⟨A.c2,0,none⟩)) (.pointer (some ⟨A.c3,0,none⟩)) where
 keep:=by
  rintro pre M W W' ⟨u,hR,rfl⟩ hk
  exact ⟨u,hR.keep hk.same,rfl⟩
 bnd:=by
  rintro pre M W ⟨u,hR,rfl⟩
  exact hR.lt
 four:=h4
 call:=fun hS hP hu hB h1 hl hT hW=>pu A rc hY hS hP hu hB h1 hl hT hW
theorem bT:∀ (Z:Nat) (l:List (ByteArray × List Nat)),l.length<Z→(topT l).2.length≤2*l.length∧(l≠[]→(topT l).2.length+1≤2*l.length)
 | 0,_,h=>absurd h (Nat.not_lt_zero _)
 | _+1,[],_=>⟨by rw [topT];simp,fun h=>absurd rfl h⟩
 | _+1,[x],_=>⟨by rw [topT];simp,fun _=>by rw [topT];simp⟩
 | Z+1,x::y::t,hZ=>by
  have hh:=ae (n:=(x::y::t).length) (by simp)
  rw [topT]
  simp only [lA]
  generalize x::y::t=l at *
  have h1:=bT Z (l.take (xT l.length)) (by simp only [List.length_take];omega)
  have h2:=bT Z (l.drop (xT l.length)) (by simp only [List.length_drop];omega)
  have e1:=h1.2 (fun e=>by have:=congrArg List.length e;simp only [List.length_take,lN] at this;omega)
  have e2:=h2.2 (fun e=>by have:=congrArg List.length e;simp only [List.length_drop,lN] at this;omega)
  simp only [List.length_take,List.length_drop] at e1 e2
  refine ⟨?_,fun _=>?_⟩<;>simp only [lC,lN]<;>omega
theorem cR:∀ f:F,(kr f).2.length+2*f.len≤3*f.size
 | .nil=>by simp [kr,F.len,F.size]
 | .cons nm v m ks r=>by
  have h1:=cR ks
  have h2:=cR r
  have h3:=(bT ((kr ks).1.length+1) (kr ks).1 (Nat.lt_succ_self _)).1
  rw [cQ] at h3
  rw [yF]
  simp only [lA,F.len,F.size]
  unfold jt
  split
  ·simp only [lA,lC,lN]
   omega
  ·simp only [lC,lN]
   omega
theorem gV (v:Vd) (f:F):(jt v f).2.length≤3*f.size+1:=by
 have h1:=cR f
 have h3:=(bT ((kr f).1.length+1) (kr f).1 (Nat.lt_succ_self _)).1
 rw [cQ] at h3
 unfold jt
 split
 ·simp only [lA,lC,lN]
  omega
 ·simp only [lC,lN]
  omega
theorem nU (A:At8) (rc:Loop) (hY:Yd A rc) (cT p:Nat) (v:Vd) (m:Md) (k:K) (w0 W:World) (hA:AtT w0 p v m k) (hv:vOk v) (hf:fOk k.flat) (hsz:k.flat.size≤100000) (h0:w0.heap.size≤A.lo) (hG0:G w0 W) (hT:Su.Tabs W)
  (hbx:Boxed W A.Lc 109 (.slice none 0 0)) (hlp:W.heap[A.l0+1]?=some (.loop rc)) (hdf:W.heap[A.l0]?=some (.deferred (some []))) (hb1:Boxed W A.c1 149 (.pointer (some ⟨A.Hb,0,none⟩))) (hhb:aD W A.Hb) (hbT:Boxed W cT 32 (.pointer (some ⟨p,0,none⟩)))
  (hc2:A.c2=W.heap.size) (hWb:A.Wb=W.heap.size+1) (hc3:A.c3=W.heap.size+2) (h4:4≤A.lo) (hlo:A.lo≤A.Lc∧A.lo≤A.l0∧A.lo≤A.c1∧A.lo≤A.Hb):
  Calls Tryz.prog 118 #[.func (.yield (A.l0+1)) #[] #[],.pointer (some ⟨A.c1,0,none⟩),.pointer (some ⟨cT,0,none⟩)] W fun e W'=>e=.returned (.tuple #[])∧∃ M',S8 A rc (jt v k.flat).2 M' W'∧(∀ b,M' b→MS8 A (.slice none 0 0) b∨W.heap.size≤b)∧Fr (MS8 A (.slice none 0 0)) W W':=by
 obtain ⟨N0,hN0⟩:∃ N0,W.heap.size=N0:=⟨_,rfl⟩
 rw [hN0] at hc2 hWb hc3
 have g:∀ {b:Nat} {o:Obj},W.heap[b]?=some o→b<W.heap.size:=fun h=>(gS h)
 have l1:=g hbx
 have l2:=g hlp
 have l3:=g hb1
 have l4:=g hhb
 have l5:=g hbT
 rw [hN0] at l1 l2 l3 l4 l5
 have HA:=hid (⟨hA,hv,hf,hsz,h0,hG0,hT,hbx,hlp,hdf,hb1,hhb,hbT,h4,hlo⟩:_∧_∧_∧_∧_∧_∧_∧_∧_∧_∧_∧_∧_∧_∧_)
 have HL:=hid (⟨l1,l2,l3,l4,l5⟩:_∧_∧_∧_∧_)
 clear hA hv hf hsz h0 hG0 hT hbx hlp hdf hb1 hhb hbT h4 hlo g l1 l2 l3 l4 l5
 have hmf:∀ (fn:Fn) (first cap:Array Value) (w:World),(Instr.makeFunc fn first cap).run Tryz.prog w=.ok (.func fn first cap) w:=fun _ _ _ _=>rfl
 go_enter Tryz.func118,Tryz.ntmps118
 go_upto_region 2 with fail
 try simp only [Act.put,List.setIfInBounds_toArray,List.set_cons_zero,List.set_cons_succ]
 have H3:Hid (G W (((W.alloc (.cells #[.func (.yield (A.l0+1)) #[] #[]] 186)).alloc (.cells #[.nilFunc,.bool false,.map none] 190)).alloc (.cells #[.pointer (some ⟨N0+1,0,none⟩)] 187))∧Boxed (((W.alloc (.cells #[.func (.yield (A.l0+1)) #[] #[]] 186)).alloc (.cells #[.nilFunc,.bool false,.map none] 190)).alloc (.cells #[.pointer (some ⟨N0+1,0,none⟩)] 187)) N0 186 (.func (.yield (A.l0+1)) #[] #[])∧(((W.alloc (.cells #[.func (.yield (A.l0+1)) #[] #[]] 186)).alloc (.cells #[.nilFunc,.bool false,.map none] 190)).alloc (.cells #[.pointer (some ⟨N0+1,0,none⟩)] 187)).heap[N0+1]?=some (.cells #[.nilFunc,.bool false,.map none] 190 (0,0))∧Boxed (((W.alloc (.cells #[.func (.yield (A.l0+1)) #[] #[]] 186)).alloc (.cells #[.nilFunc,.bool false,.map none] 190)).alloc (.cells #[.pointer (some ⟨N0+1,0,none⟩)] 187)) (N0+2) 187 (.pointer (some ⟨N0+1,0,none⟩))∧(((W.alloc (.cells #[.func (.yield (A.l0+1)) #[] #[]] 186)).alloc (.cells #[.nilFunc,.bool false,.map none] 190)).alloc (.cells #[.pointer (some ⟨N0+1,0,none⟩)] 187)).heap.size=N0+3):=by
  have e1:(W.alloc (.cells #[.func (.yield (A.l0+1)) #[] #[]] 186)).heap.size=N0+1:=by rw [World.size_alloc,hN0]
  have e2:((W.alloc (.cells #[.func (.yield (A.l0+1)) #[] #[]] 186)).alloc (.cells #[.nilFunc,.bool false,.map none] 190)).heap.size=N0+2:=by rw [World.size_alloc,e1]
  refine ⟨((G.alloc _ _).trans (G.alloc _ _)).trans (G.alloc _ _),((hN0 ▸ Boxed.new W 186 _:Boxed _ N0 186 _).alloc _).alloc _,?_,e2 ▸ Boxed.new _ 187 _,by rw [World.size_alloc,e2]⟩
  rw [Below.heap_alloc _ _ _ (by omega)]
  have:=World.alloc_heap_new (W.alloc (.cells #[.func (.yield (A.l0+1)) #[] #[]] 186)) (.cells #[.nilFunc,.bool false,.map none] 190)
  rw [e1] at this
  exact this
 rw [show N0+1+1=N0+2 from rfl]
 generalize ((W.alloc (.cells #[.func (.yield (A.l0+1)) #[] #[]] 186)).alloc (.cells #[.nilFunc,.bool false,.map none] 190)).alloc (.cells #[.pointer (some ⟨N0+1,0,none⟩)] 187)=w3 at *
 have y1:=H3.o.2.2.2.1.cell
 have y2:=jB (jD H3.o.2.2.1) 0 _ rfl
 have y3:w3.frozen? ⟨N0+1,0,none⟩=false:=by simp [World.frozen?,H3.o.2.2.1]
 go_upto_region 3 with fail
 try simp only [Act.put,List.setIfInBounds_toArray,List.set_cons_zero,List.set_cons_succ]
 obtain ⟨w4,hw4⟩:∃ w4,w4=w3.setCell ⟨N0+1,0,none⟩ (.func (.func 119) #[] #[.pointer (some ⟨A.c1,0,none⟩),.pointer (some ⟨N0,0,none⟩),.pointer (some ⟨N0+2,0,none⟩)]):=⟨_,rfl⟩
 have hoth:∀ b:Nat,b≠N0+1→w4.heap[b]?=w3.heap[b]?:=fun b hb=>by rw [hw4];exact Below.heap_setCell _ _ _ _ hb
 have hwk:w4.heap[N0+1]?=some (.cells #[.func (.func 119) #[] #[.pointer (some ⟨A.c1,0,none⟩),.pointer (some ⟨N0,0,none⟩),.pointer (some ⟨N0+2,0,none⟩)],.bool false,.map none] 190 (0,0)):=by
  rw [hw4]
  unfold World.setCell
  simp only []
  rw [Array.getElem?_modify]
  simp [H3.o.2.2.1]
 have hG4:G W w4:=Below.trans (B:=W.heap.size) H3.o.1 ⟨by rw [hw4];rfl,by rw [hw4];rfl,by rw [hw4];rfl,by rw [hw4];simp,fun b hb=>hoth b (by omega)⟩
 rw [← hw4]
 clear hw4 y1 y2 y3
 obtain ⟨hA,hv,hf,hsz,h0,hG0,hT,hbx,hlp,hdf,hb1,hhb,hbT,h4,hlo⟩:=HA.o
 obtain ⟨l1,l2,l3,l4,l5⟩:=HL.o
 have bl:∀ {b:Nat},b<N0→w4.heap[b]?=W.heap[b]?:=fun hb=>hG4.block _ (by omega)
 have hR:R8 A rc [] (.slice none 0 0) w4:=by
  refine ⟨(bl l1).trans hbx,World.ownsRow_nil _ _ _ _,(bl l2).trans hlp,(bl (by omega)).trans hdf,(bl l3).trans hb1,(bl l4).trans hhb,?_,?_,h4,⟨hlo.1,hlo.2.1,hlo.2.2.1,hlo.2.2.2,by omega,by omega⟩,by simp [Value.ownBlock],by omega,by omega,by omega,by omega,by omega,by omega,by omega⟩
  ·rw [hc2];exact (hoth N0 (by omega)).trans H3.o.2.1
  ·rw [hc3,hWb];exact (hoth (N0+2) (by omega)).trans H3.o.2.2.2.1
 have hW:qT w4 A.Wb (.pointer (some ⟨A.c1,0,none⟩)) (.pointer (some ⟨A.c2,0,none⟩)) (.pointer (some ⟨A.c3,0,none⟩)):=by rw [hc2,hc3,hWb];exact hwk
 have CC:=mQ (cb8 A rc h4 hY) (k.flat.size+1) v k (Nat.lt_succ_self _) hv hf hsz [] _ w0 w4 p m ⟨_,hR,rfl⟩ hW hR.o (hT.up hG4) hA h0 (hG0.trans hG4) (by have:=gV v k.flat;simp only [lN];omega)
 have q1:w4.cell? ⟨N0+2,0,none⟩=some (.pointer (some ⟨N0+1,0,none⟩)):=by have:=hR.b3.cell;rw [hc3,hWb] at this;exact this
 have q2:w4.cell? ⟨cT,0,none⟩=some (.pointer (some ⟨p,0,none⟩)):=Boxed.cell (t:=32) ((bl l5).trans hbT)
 rw [hWb] at CC
 have HF:=hid (⟨hR,hG4⟩:_∧_)
 clear hA hv hf hsz h0 hG0 hT hbx hlp hdf hb1 hhb hbT h4 hlo bl hR hW hoth hwk hG4 l1 l2 l3 l4 l5
 go_wp2_with (go_at_call 121;refine CC.mono ?_;rintro e w5 ⟨rfl,M',hS',hM',hf'⟩;have H5:=hid (⟨hS',hM',hf'⟩:_∧_∧_);clear hS' hM' hf' CC)
 go_end0
 obtain ⟨hS',hM',hf'⟩:=H5.o
 have hz:=HF.o.2.size
 exact ⟨rfl,M',by simpa using hS',fun b h=>(hM' b h).imp id fun h=>by omega,(Fr.of_G HF.o.2).trans (fun b h=>.inl h) hf'⟩
attribute [local go_sem] Oper.semAt_some
theorem yn {F:Fence} {n:Nat} {P:Program} {g:Operand} {ps:Array Tmp} {assign body:Code} {Q:Exit→Act→World→Prop} {a:Act} {w:World}
  (hro:F.round=none) (h1:1≤n) {gf:Nat} {lb:Array Value} (hg:a.eval g=.func (.func gf) #[] lb) (hFg:F.fn gf) (eg:∀ args w,(callFunc gf args).run P w=.ok (.enter gf args) w)
  (h:∀ fn,F.fn fn→∀ rc:Loop,rc={ state:=.ready,pending:=none,fn,tmps:=a.tmps,params:=ps,assign,body,defers:=w.heap.size }→
   CallsIn F (n-1) P gf (#[.func (.yield (w.heap.size+1)) #[] #[]]++lb) ((w.alloc (.deferred (some []))).alloc (.loop rc)) fun e W2=>
    (∃ v,e=.returned v)∧W2.heap[w.heap.size+1]?=some (.loop rc)∧Q .normal { a with defers:={ target:=.collected w.heap.size,args:=#[] }::a.defers } (W2.putObj (w.heap.size+1) (.loop { rc with state:=.exhausted }))):
  (Code.rangeFunc g ps assign body).wpIn F n P Q a w:=by
 refine wpIn_rangeFunc ?_
 intro fn hfn
 rw [hro]
 obtain ⟨rc,hrc⟩:∃ rc:Loop,rc={ state:=.ready,pending:=none,fn,tmps:=a.tmps,params:=ps,assign,body,defers:=w.heap.size }:=⟨_,rfl⟩
 have hh:=h fn hfn rc hrc
 obtain ⟨W1,hW1⟩:∃ W1,(w.alloc (.deferred (some []))).alloc (.loop rc)=W1:=⟨_,rfl⟩
 rw [hW1] at hh
 refine ⟨w.heap.size+1,[{ target:=.collected w.heap.size,args:=#[] }],W1,{ target:=.fn (.func gf) lb,args:=#[.func (.yield (w.heap.size+1)) #[] #[]] },W1,gf,
  #[.func (.yield (w.heap.size+1)) #[] #[]]++lb,W1,?_,?_,?_,?_,fun _=>h1,?_⟩
 ·rw [← hW1,hrc];exact run_enterLoop_outer _ _ _ _ _
 ·simp only [resolve,hg]
  simp [go_sem]
 ·intro f' hf';simp [Target.leads] at hf';subst hf';exact hFg
 ·simp [invoke,go_sem,eg]
 ·refine CallsIn.mono hh ?_
  rintro e W2 ⟨⟨v,rfl⟩,hl,hq⟩
  have:=run_endLoop (P:=P) hl (by rw [hrc];simp)
  have e:rc.pending=none:=by rw [hrc]
  rw [e] at this hq
  exact ⟨none,_,this,hq⟩
theorem cS {W:World} {l:Nat} {o:Obj} (o':Obj) (hl:W.heap[l]?=some o) (ho:o.isCells=false) (ho':o'.isCells=false) (a:Addr):(W.putObj l o').cell? a=W.cell? a:=by
 by_cases e:a.block=l
 ·have h1:(W.putObj l o').heap[a.block]?=some o':=by rw [e];exact World.putObj_heap_same (gS hl)
  have h2:W.heap[a.block]?=some o:=by rw [e];exact hl
  unfold World.cell?
  rw [h1,h2]
  cases o<;>cases o'<;>simp_all [Obj.isCells]
 ·exact World.cell?_of_block (World.putObj_heap_other e)
theorem mT (ts:List (List Nat)) (t:List Nat):dirs (ts++[t])=if t.getD 0 0=68 then dirs ts++[shaL t] else dirs ts:=by
 unfold dirs
 rw [List.filter_append,List.map_append]
 by_cases h:t.getD 0 0=68
 ·rw [if_pos h,List.filter_cons_of_pos (by simp only [h,beq_self_eq_true])];rfl
 ·rw [if_neg h,List.filter_cons_of_neg (by simpa only [beq_iff_eq] using h)];simp
theorem tW (hs:List (List Nat)) (h:List Nat):hrow (hs++[h])=hrow hs++h.map Su.vb:=by simp [hrow]
theorem gY {A:At8} {rc:Loop} {pre:List (List Nat)} {ul u':Value} {W W3:World} {t:List Nat} (hR:R8 A rc pre ul W) (hst:rc.state=.ready) (hpe:rc.pending=none) (hwb:A.Wb<A.c3)
  (hbx:Boxed W3 A.Lc 109 u') (how:W3.ownsRow A.lo 22 32 u' (dirs (pre++[t])).length (hrow (dirs (pre++[t]))))
  (hos:W3.os=W.os∧W3.tape=W.tape∧W3.output=W.output) (hsz:W.heap.size≤W3.heap.size)
  (hsame:∀ b,b<W.heap.size→b≠A.Lc→some b≠ul.ownBlock→b≠A.l0+1→W3.heap[b]?=W.heap[b]?) (hbusy:W3.heap[A.l0+1]?=some (.loop { rc with state:=.busy }))
  (hown:∀ b,some b=u'.ownBlock→some b=ul.ownBlock∨W.heap.size≤b):
  ∃ v w',(Instr.endRound (A.l0+1) none).run Tryz.prog W3=.ok v w'∧(Ending.returned v=.returned (.bool true)∧∃ M',S8 A rc (pre++[t]) M' w'∧(∀ b,M' b→MS8 A ul b∨W.heap.size≤b)∧Fr (MS8 A ul) W w'):=by
 have e:({ ({ rc with state:=.busy }:Loop) with state:=if (none:Option Code).isNone then .ready else .done,pending:=none }:Loop)=rc:=by
  obtain ⟨s,p,_⟩:=rc
  simp only at hst hpe
  subst hst hpe
  rfl
 have hr:=run_endRound (P:=Tryz.prog) none hbusy
 rw [e] at hr
 have hlt:=hR.lt
 have g:∀ {b:Nat} {o:Obj},W.heap[b]?=some o→b<W.heap.size:=fun h=>(gS h)
 have hlp3:=(gS hbusy)
 have nown:∀ {b:Nat} {o:Obj},W.heap[b]?=some o→(∀ c,o≠.cells c 22 (0,0))→some b≠ul.ownBlock:=by
  intro b o hb ho he
  obtain ⟨_,⟨rfl,_⟩ | ⟨gg,cp,cur,rv,_,rh,_⟩⟩:=hR.ow
  ·cases he
  ·rw [rv] at he
   have:b=gg:=by simpa [Value.ownBlock] using he
   subst this
   rw [rh] at hb
   cases hb
   exact ho _ rfl
 have nLc:∀ {b:Nat} {o:Obj},W.heap[b]?=some o→(∀ c,o≠.cells c 109 (0,0))→b≠A.Lc:=by
  intro b o hb ho he
  subst he
  have hbx:W.heap[A.Lc]?=some _:=hR.bx
  rw [hbx] at hb
  cases hb
  exact ho _ rfl
 have nLp:∀ {b:Nat} {o:Obj},W.heap[b]?=some o→(∀ r,o≠.loop r)→b≠A.l0+1:=by
  intro b o hb ho he
  subst he
  rw [hR.lp] at hb
  cases hb
  exact ho _ rfl
 have kp:∀ {b:Nat} {o:Obj},W.heap[b]?=some o→(∀ c,o≠.cells c 22 (0,0))→(∀ c,o≠.cells c 109 (0,0))→(∀ r,o≠.loop r)→(W3.putObj (A.l0+1) (.loop rc)).heap[b]?=some o:=by
  intro b o hb h1 h2 h3
  rw [World.putObj_heap_other (nLp hb h3),hsame b (g hb) (nLc hb h2) (nown hb h1) (nLp hb h3)]
  exact hb
 have hLcl:A.Lc≠A.l0+1:=fun he=>by
  have hbx:W.heap[A.Lc]?=some _:=hR.bx
  rw [he,hR.lp] at hbx
  cases hbx
 refine ⟨_,_,hr,rfl,_,⟨u',?_,rfl⟩,?_,?_⟩
 ·obtain ⟨l1,l2,l3,l4,l5,l6⟩:=hR.los
  obtain ⟨n1,n2,n3,n4,n5,n6,n7,n8⟩:=hR.ne
  have hc3:=g hR.b3
  refine ⟨?_,ownsRow_putObj how _ hbusy rfl,World.putObj_heap_same hlp3,?_,?_,?_,?_,?_,hR.lo4,hR.los,⟨fun e=>?_,n2,n3,n4,n5,n6,n7,n8⟩⟩
  ·exact (World.putObj_heap_other hLcl).trans hbx
  ·exact kp hR.df (fun c h=>by cases h) (fun c h=>by cases h) (fun c h=>by cases h)
  ·exact kp hR.b1 (fun c h=>by cases h) (fun c h=>by cases h) (fun c h=>by cases h)
  ·exact kp hR.hb (fun c h=>by cases h) (fun c h=>by cases h) (fun c h=>by cases h)
  ·exact kp hR.b2 (fun c h=>by cases h) (fun c h=>by cases h) (fun c h=>by cases h)
  ·exact kp hR.b3 (fun c h=>by cases h) (fun c h=>by cases h) (fun c h=>by cases h)
  ·rcases hown _ e with h | h
   ·exact n1 h
   ·omega
 ·rintro b (h | h | h)
  ·exact .inl (.inl h)
  ·exact (hown b h).imp (fun h=>.inr (.inl h)) id
  ·exact .inl (.inr (.inr h))
 ·refine ⟨hos.1,hos.2.1,hos.2.2,by simpa using hsz,fun b hb hn=>?_⟩
  have h1:b≠A.l0+1:=fun e=>hn (.inr (.inr (.inl e)))
  rw [World.putObj_heap_other h1]
  exact hsame b hb (fun e=>hn (.inl e)) (fun e=>hn (.inr (.inl e))) h1
theorem em {o:Oper} {a:Act} (s x:Operand) (ho:o.op=.call { callee:=.builtin .append,args:=#[s,x],argTypes:=#[109,109] }) (lo:Nat) (v:Value) (hs:List (List Nat)) (h:List Nat) (K:Nat) (w:World) (hsv:a.eval s=v) (hx:a.eval x=.slice (some ⟨K,0,none⟩) 1 1)
  (hown:w.ownsRow lo 22 32 v hs.length (hrow hs)) (hh:h.length=32) (hK:w.heap[K]?=some (.cells (h.map Su.vb).toArray 22 (0,0)))
  (hlen:hs.length≤16777216) (hb:lo≤w.heap.size):∃ v' w',(execOp a.eval o).run Tryz.prog w=.ok (.value v') w'∧w'.ownsRow lo 22 32 v' (hs++[h]).length (hrow (hs++[h]))∧w.grownBy w' v.ownBlock∧(v'.ownBlock=v.ownBlock∨v'.ownBlock=some w.heap.size):=by
 obtain ⟨i,hi⟩:∃ i,Tryz.prog.info? 22=some i:=by
  cases hq:Tryz.prog.info? 22 with
  | none=>have:=jx;rw [hq] at this;cases this
  | some i=>exact ⟨i,rfl⟩
 have hz:i.zero=some (.agg z22):=by have:=qm;rw [hi] at this;exact this
 have hsz:i.size=32:=by have:=jx;rw [hi] at this;simpa using this
 obtain ⟨v',w',h1,h2,h3,_,h5⟩:=run_append_own_at (P:=Tryz.prog) w lo 109 o.type 22 i (.agg z22) 32 i.bytes Tryz.underlying109 hi hz hsz rfl ju (by decide) v hs.length (hrow hs) hown ⟨K,0,none⟩ 1 1 (h.map Su.vb) (by simp [hh]) (fun j u hj=>by
  rw [Su.kj,Nat.zero_add]
  exact jB (jD hK) j u (by simpa using hj)) (fun u hu=>by
   have:=kV h
   rw [List.all_toArray,List.all_eq_true] at this
   exact this u hu) (by unfold maxLen;omega) (by
    have hb:(Tryz.prog.info? 22).map (·.bytes)=some 32:=by kernel_rfl
    rw [hi] at hb
    have:i.bytes=32:=by simpa using hb
    rw [this];omega) hb
 refine ⟨v',w',?_,by simpa [tW] using h2,h3,h5⟩
 unfold execOp
 simp only [ho]
 simp only [resolve,invoke,builtin,Sem.run_bind,Sem.run_pure,Result.andThen_ok,List.map_toArray,List.map_cons,List.map_nil,hsv,hx,h1]
end Go.Proofs.YtjikkhbcbfpocaaGreatDoor
