import Derived.Test.YtdeanahpiigonaaGreatDoorHN
import Derived.Test.YtdeanahpiigonaaGreatDoorSRefSha
set_option maxRecDepth 100000
set_option maxHeartbeats 8000000
namespace Go.Proofs.YtdeanahpiigonaaGreatDoor
open Go.RowKit Hm
attribute [local go_sem] Oper.semAt_some
noncomputable abbrev o7x8:Array Oper:=kS Tryz.f7 8
theorem eU:o7x8.size=18:=by kernel_rfl
theorem tU:say o7x8 0=some (some 25,.move (.tmp 7),none):=by kernel_rfl
theorem tV:say o7x8 1=some (some 26,.binOp .quo 3 (.tmp 25) (.const (.int .i64 8)) 3,none):=by kernel_rfl
theorem tW:say o7x8 2=some (some 27,.move (.tmp 7),none):=by kernel_rfl
theorem tY:say o7x8 3=some (some 28,.binOp .quo 3 (.tmp 27) (.const (.int .i64 8)) 3,none):=by kernel_rfl
theorem tZ:say o7x8 4=some (some 29,.indexAddr 22 (.tmp 6) (.tmp 28),none):=by kernel_rfl
theorem ta:say o7x8 5=some (some 30,.load 5 (.tmp 29),none):=by kernel_rfl
theorem tb:say o7x8 6=some (some 31,.move (.tmp 7),none):=by kernel_rfl
theorem tc:say o7x8 7=some (some 32,.binOp .quo 3 (.tmp 31) (.const (.int .i64 8)) 3,none):=by kernel_rfl
theorem td:say o7x8 8=some (some 33,.indexAddr 22 (.tmp 5) (.tmp 32),none):=by kernel_rfl
theorem te:say o7x8 9=some (some 34,.load 5 (.tmp 33),none):=by kernel_rfl
theorem m4:say o7x8 10=some (some 35,.move (.tmp 7),none):=by kernel_rfl
theorem m5:say o7x8 11=some (some 36,.binOp .rem 3 (.tmp 35) (.const (.int .i64 8)) 3,none):=by kernel_rfl
theorem m6:say o7x8 12=some (some 37,.convert 3 78 (.tmp 36),none):=by kernel_rfl
theorem m8:say o7x8 13=some (some 38,.binOp .shr 5 (.const (.int .u8 128)) (.tmp 37) 78,none):=by kernel_rfl
theorem m9:say o7x8 14=some (some 39,.binOp .and 5 (.tmp 34) (.tmp 38) 5,none):=by kernel_rfl
theorem mA:say o7x8 15=some (some 40,.binOp .or 5 (.tmp 30) (.tmp 39) 5,none):=by kernel_rfl
theorem mB:say o7x8 16=some (some 41,.indexAddr 22 (.tmp 6) (.tmp 26),none):=by kernel_rfl
theorem ww:say o7x8 17=some (none,.store 5 (.tmp 41) (.tmp 40),none):=by kernel_rfl
def Vof8 (b5 b6 i q a x:Nat) (rm sh:Int) (_r:Nat→Value):Nat→Value
 | 0=>.int .i64 (i:Int)
 | 1=>.int .i64 (q:Int)
 | 2=>.int .i64 (i:Int)
 | 3=>.int .i64 (q:Int)
 | 4=>.pointer (some ⟨b6,q,none⟩)
 | 5=>.int .u8 (a:Int)
 | 6=>.int .i64 (i:Int)
 | 7=>.int .i64 (q:Int)
 | 8=>.pointer (some ⟨b5,q,none⟩)
 | 9=>.int .u8 (x:Int)
 | 10=>.int .i64 (i:Int)
 | 11=>.int .i64 rm
 | 12=>.int .u64 rm
 | 13=>.int .u8 sh
 | 14=>.int .u8 (bits .and .u8 (x:Int) sh)
 | 15=>.int .u8 (bits .or .u8 (a:Int) (bits .and .u8 (x:Int) sh))
 | 16=>.pointer (some ⟨b6,q,none⟩)
 | 17=>undef
 | _=>undef
theorem regof8 (b5 b6 i q a x:Nat) (rm sh:Int) (F0 F1:(Nat→Value)→World→Prop) (B:World→Prop)  (t0:Array Value) (wr:World) {Q:Exit→Act→World→Prop} (ht:t0.size=43) (h7:t0.getD 7 undef=.int .i64 (i:Int)) (h6:t0.getD 6 undef=.pointer (some ⟨b6,0,none⟩)) (h5:t0.getD 5 undef=.pointer (some ⟨b5,0,none⟩))
  (hq:IntKind.i64.wrap ((i:Int)/8)=q) (hq32:¬ 32≤(q:Int)) (hrm:Int.tmod (i:Int) 8=rm) (hru:IntKind.u64.wrap rm=rm) (hsh:∀ w,(Op.shift .shr .u8 128 .u64 rm).run Tryz.prog w=.ok (.int .u8 sh) w)
  (hb0:∀ r w,F0 r w→B w)
  (hw1:∀ r w,F0 r w→(∃ o,w.cell? ⟨b6,q,none⟩=some o)∧w.frozen? ⟨b6,q,none⟩=false∧F1 r (w.setCell ⟨b6,q,none⟩ (.int .u8 (bits .or .u8 (a:Int) (bits .and .u8 (x:Int) sh)))))
  (hl5:∀ w,B w→w.cell? ⟨b6,q,none⟩=some (.int .u8 (a:Int)))
  (hl9:∀ w,B w→w.cell? ⟨b5,q,none⟩=some (.int .u8 (x:Int)))
  (hst0:∀ r,F0 r wr.drew)
  (hQ:∀ r w,F1 r w→Q .normal ⟨fold o7x8 (Vof8 b5 b6 i q a x rm sh r) t0 18,[]⟩ w):(Code.region 8 o7x8 true).wp Tryz.prog Q ⟨t0,[]⟩ wr:=by
 have hB:dstB o7x8 t0.size=true:=by rw [ht];kernel_rfl
 have hBB:∀ r done w,MC F0 [] r done w→B w:=fun r done w h=>MC.base hb0 (by intro x h;cases h) h
 refine jL (by kernel_rfl) (IE o7x8 (Vof8 b5 b6 i q a x rm sh) t0 (MC F0 [(17,F1)] )) (by kernel_rfl) ⟨(fun _=>undef),t0,rfl,⟨rfl,fun _ _=>rfl,fun _ _ _ _ _ h=>by cases h⟩,MC.start (hst0 _)⟩ ?_ ?_
 rotate_left 1
 ·rintro done a w ⟨r,t,rfl,hS,hM⟩ hall
  rw [hS.end hB hall,eU]
  exact hQ r w (MC.get (hall 17 (by rw [eU];decide)) [] (by simp) hM)
 ·rintro jz op done a w ho ⟨r,t,rfl,hS,hM⟩ hnd hdep hcl
  have e7:=hS.ol h7
  have e6:=hS.ol h6
  have e5:=hS.ol h5
  have hlt:jz<18:=by rw [← eU];exact (ga ho).1
  match jz,hlt,ho,hnd,hdep with
  | 0,_,ho,hnd,hdep=>
   refine jM tU r hB ho hS (hM.step (by rfl)) fun hop=>?_
   unfold execOp;simp [hop,e7,Vof8,go_sem]
  | 1,_,ho,hnd,hdep=>
   have x25:=hS.gt tU ho hdep
   refine jM tV r hB ho hS (hM.step (by rfl)) fun hop=>?_
   unfold execOp;simp [hop,x25,Vof8,hq,go_sem]
  | 2,_,ho,hnd,hdep=>
   refine jM tW r hB ho hS (hM.step (by rfl)) fun hop=>?_
   unfold execOp;simp [hop,e7,Vof8,go_sem]
  | 3,_,ho,hnd,hdep=>
   have x27:=hS.gt tW ho hdep
   refine jM tY r hB ho hS (hM.step (by rfl)) fun hop=>?_
   unfold execOp;simp [hop,x27,Vof8,hq,go_sem]
  | 4,_,ho,hnd,hdep=>
   have x28:=hS.gt tY ho hdep
   refine jM tZ r hB ho hS (hM.step (by rfl)) fun hop=>?_
   unfold execOp;simp [hop,e6,x28,Vof8,hq32,go_sem]
  | 5,_,ho,hnd,hdep=>
   have x29:=hS.gt tZ ho hdep
   have ny17:done 17=false:=j8 (by kernel_rfl) hcl hnd
   have cz:=hl5 w (hBB _ _ _ (MC.cut [(17,F1)] (by simp [ny17]) hM))
   refine jM ta r hB ho hS (hM.step (by rfl)) fun hop=>?_
   unfold execOp;simp [hop,x29,Vof8,cz,go_sem]
  | 6,_,ho,hnd,hdep=>
   refine jM tb r hB ho hS (hM.step (by rfl)) fun hop=>?_
   unfold execOp;simp [hop,e7,Vof8,go_sem]
  | 7,_,ho,hnd,hdep=>
   have x31:=hS.gt tb ho hdep
   refine jM tc r hB ho hS (hM.step (by rfl)) fun hop=>?_
   unfold execOp;simp [hop,x31,Vof8,hq,go_sem]
  | 8,_,ho,hnd,hdep=>
   have x32:=hS.gt tc ho hdep
   refine jM td r hB ho hS (hM.step (by rfl)) fun hop=>?_
   unfold execOp;simp [hop,e5,x32,Vof8,hq32,go_sem]
  | 9,_,ho,hnd,hdep=>
   have x33:=hS.gt td ho hdep
   have ny17:done 17=false:=j8 (by kernel_rfl) hcl hnd
   have cz:=hl9 w (hBB _ _ _ (MC.cut [(17,F1)] (by simp [ny17]) hM))
   refine jM te r hB ho hS (hM.step (by rfl)) fun hop=>?_
   unfold execOp;simp [hop,x33,Vof8,cz,go_sem]
  | 10,_,ho,hnd,hdep=>
   refine jM m4 r hB ho hS (hM.step (by rfl)) fun hop=>?_
   unfold execOp;simp [hop,e7,Vof8,go_sem]
  | 11,_,ho,hnd,hdep=>
   have x35:=hS.gt m4 ho hdep
   refine jM m5 r hB ho hS (hM.step (by rfl)) fun hop=>?_
   unfold execOp;simp [hop,x35,Vof8,hrm,go_sem]
  | 12,_,ho,hnd,hdep=>
   have x36:=hS.gt m5 ho hdep
   refine jM m6 r hB ho hS (hM.step (by rfl)) fun hop=>?_
   unfold execOp;simp [hop,x36,Vof8,hru,go_sem]
  | 13,_,ho,hnd,hdep=>
   have x37:=hS.gt m6 ho hdep
   refine jM m8 r hB ho hS (hM.step (by rfl)) fun hop=>?_
   unfold execOp;simp [hop,x37,Vof8,hsh,go_sem]
  | 14,_,ho,hnd,hdep=>
   have x34:=hS.gt te ho hdep
   have x38:=hS.gt m8 ho hdep
   refine jM m9 r hB ho hS (hM.step (by rfl)) fun hop=>?_
   unfold execOp;simp [hop,x34,x38,Vof8,go_sem]
  | 15,_,ho,hnd,hdep=>
   have x30:=hS.gt ta ho hdep
   have x39:=hS.gt m9 ho hdep
   refine jM mA r hB ho hS (hM.step (by rfl)) fun hop=>?_
   unfold execOp;simp [hop,x30,x39,Vof8,go_sem]
  | 16,_,ho,hnd,hdep=>
   have x26:=hS.gt tV ho hdep
   refine jM mB r hB ho hS (hM.step (by rfl)) fun hop=>?_
   unfold execOp;simp [hop,e6,x26,Vof8,hq32,go_sem]
  | 17,_,ho,hnd,hdep=>
   obtain ⟨hd,hop,hgd⟩:=jB ww ho
   have x41:=hS.gt mB ho hdep
   simp only [Vof8] at x41
   have x40:=hS.gt mA ho hdep
   simp only [Vof8] at x40
   have hF:=MC.get0 [(17,F1)] (by simp [hnd]) hM
   obtain ⟨⟨o9,ho9⟩,hf9,hF9⟩:=hw1 r w hF
   refine qh (w':=w.setCell ⟨b6,q,none⟩ (.int .u8 (bits .or .u8 (a:Int) (bits .and .u8 (x:Int) sh)))) r ho (j0 hgd) hd hS (MC.put hF9 [] (by simp)) ?_
   unfold execOp;simp [hop,x41,x40,ho9,hf9,go_sem]
theorem foldof8 (b5 b6 i q a x:Nat) (rm sh:Int) (r:Nat→Value) (t0:Array Value):fold o7x8 (Vof8 b5 b6 i q a x rm sh r) t0 18=(((((((((((((((((t0.setIfInBounds 25 (.int .i64 (i:Int))).setIfInBounds 26 (.int .i64 (q:Int))).setIfInBounds 27 (.int .i64 (i:Int))).setIfInBounds 28 (.int .i64 (q:Int))).setIfInBounds 29 (.pointer (some ⟨b6,q,none⟩))).setIfInBounds 30 (.int .u8 (a:Int))).setIfInBounds 31 (.int .i64 (i:Int))).setIfInBounds 32 (.int .i64 (q:Int))).setIfInBounds 33 (.pointer (some ⟨b5,q,none⟩))).setIfInBounds 34 (.int .u8 (x:Int))).setIfInBounds 35 (.int .i64 (i:Int))).setIfInBounds 36 (.int .i64 rm)).setIfInBounds 37 (.int .u64 rm)).setIfInBounds 38 (.int .u8 sh)).setIfInBounds 39 (.int .u8 (bits .and .u8 (x:Int) sh))).setIfInBounds 40 (.int .u8 (bits .or .u8 (a:Int) (bits .and .u8 (x:Int) sh)))).setIfInBounds 41 (.pointer (some ⟨b6,q,none⟩))):=by kernel_rfl
def cutB (x:List Nat):Nat→List Nat
 | 0=>j7
 | i+1=>(cutB x i).set (i/8) (bits .or .u8 (((cutB x i).getD (i/8) 0:Nat):Int) (bits .and .u8 ((x.getD (i/8) 0:Nat):Int) (128/2 ^ (i%8)))).toNat
def sumS (n:Int) (t:List Nat):List Nat:=if n<0∨256≤n then shaL t else cutB (shaL t) n.toNat
theorem gz (n:Nat):Su.Bytes (Su.Sha.four n):=fun x hx=>by
 simp [Su.Sha.four] at hx
 omega
theorem dR (l:List Nat):Su.Bytes (shaL l):=fun x hx=>by
 unfold shaL Su.Sha.sha Su.Sha.shaF Su.Sha.out at hx
 simp only [List.mem_append] at hx
 rcases hx with h | h | h | h | h | h | h | h<;>exact gz _ x h
theorem a2K (o:BinOp) (a b:Int):0≤bits o .u8 a b∧bits o .u8 a b≤255:=⟨bits_lo_u8 o a b,bits_hi_u8 o a b⟩
theorem cO (x:List Nat):∀ i,(cutB x i).length=32∧Su.Bytes (cutB x i)
 | 0=>⟨jC,qk⟩
 | i+1=>by
  obtain ⟨h1,h2⟩:=cO x i
  refine ⟨by rw [cutB,List.length_set];exact h1,fun y hy=>?_⟩
  rw [cutB] at hy
  rcases List.mem_or_eq_of_mem_set hy with h | h
  ·exact h2 y h
  ·have:=a2K .or (((cutB x i).getD (i/8) 0:Nat):Int) (bits .and .u8 ((x.getD (i/8) 0:Nat):Int) (128/2 ^ (i%8)))
   omega
theorem zN (n:Int):af (sumS n):=fun t=>by
 unfold sumS
 split
 ·exact ⟨zR _,dR _⟩
 ·exact cO _ _
structure OfI (W:World) (b1 b2 b3 b4:Nat) (n:Int) (X L:List Nat) (w:World):Prop where
 v1:w.heap[b1]?=some (.cells #[.int .i64 n] 27 (0,0))
 v2:w.heap[b2]?=some (.cells (hA j7) 22 (0,0))
 v3:w.heap[b3]?=some (.cells (hA X) 22 (0,0))
 v4:w.heap[b4]?=some (.cells (hA L) 22 (0,0))
 g:G W w
 lo:W.heap.size≤b2∧b1<b4∧b2<b4∧b3<b4
theorem tf {L:List Nat} (k:Nat) (v:Nat):(hA L).setIfInBounds k (.int .u8 (v:Int))=hA (L.set k v):=by
 unfold hA
 rw [List.setIfInBounds_toArray,List.map_set]
 rfl
theorem pQ {L:List Nat} (hl:L.length=32) {k:Nat} (hk:k<32):(hA L)[k]?=some (.int .u8 ((L.getD k 0:Nat):Int)):=by
 unfold hA
 rw [List.getElem?_toArray,List.getElem?_map,gl (by omega),List.getD_eq_getElem?_getD,gl (by omega)]
 rfl
theorem shift8 (rm:Nat) (h:rm<8) (w:World):(Op.shift .shr .u8 128 .u64 (rm:Int)).run Tryz.prog w=.ok (.int .u8 (128/2 ^ rm)) w:=by
 match rm,h with
 | 0,_=>rfl
 | 1,_=>rfl
 | 2,_=>rfl
 | 3,_=>rfl
 | 4,_=>rfl
 | 5,_=>rfl
 | 6,_=>rfl
 | 7,_=>rfl
theorem bp (n:Int) (u:Value) (t:List Nat) (W:World) (hu:Su.Has W u t) (hB:Su.Bytes t) (hl:t.length≤100000):
  Calls Tryz.prog 7 #[.agg #[.int .i64 n],u] W fun e W'=>e=.returned (.agg (hA (sumS n t)))∧G W W':=by
 have hz32:(hA j7).size=32:=jG jC
 have CC:Hid (∀ w1,G W w1→Calls Tryz.prog 24 #[u] w1 fun e w'=>e=.returned (.agg (hA (shaL t)))∧G w1 w'):=fun w1 h=>Su.iO u t w1 (hu.below h) hB hl
 obtain ⟨ao,cp,rfl,_⟩:=hu.form
 have hX:(shaL t).length=32∧Su.Bytes (shaL t):=⟨zR _,dR _⟩
 unfold sumS
 generalize shaL t=X at *
 have HX:Hid ((hA X).size=32∧(hA X).all (·.oneCell')=true):=⟨jG hX.1,jn _⟩
 clear hu
 by_cases hn:n<0∨256≤n
 ·rw [if_pos hn]
  by_cases hn0:n<0
  ·clear hn
   go_enter Tryz.func7,Tryz.ntmps7
   go_wp2_with (first
    | ((with_reducible refine jt 2 27 (.tmp 0) (#[.int .i64 n]:Array Value) ?_ ?_ ?_ ?_ ?_);rfl;rfl;kernel_rfl;rfl;intro w1 b1 H1)
    | ((with_reducible refine qC 4 22 (hA j7) ?_ ?_ ?_ ?_ ?_);rfl;rfl;kernel_rfl;exact jv;intro w2 b2 H2)
    | (go_at_call 24;refine (CC.o w2 (G.trans H1.o.2.1 H2.o.2.1)).mono ?_;rintro e w3 ⟨rfl,q3⟩;have HQ3:=hid q3;clear q3)
    | ((with_reducible refine qC 5 22 (hA j7) ?_ ?_ ?_ ?_ ?_);rfl;rfl;kernel_rfl;exact jv;intro w4 b3 H3)
    | ((with_reducible refine qj 22 (.tmp 5) (.tmp 9) b3 (hA X) (hA j7) ?_ ?_ ?_ ?_ ?_ ?_ ?_ ?_ ?_ ?_);rfl;rfl;kernel_rfl;rfl;rfl;exact H3.o.2.2.1;exact (by rw [jK,HX.o.1]);exact (hz32.trans HX.o.1.symm);exact HX.o.2;intro w5 H4;have HD:Hid (G W w5∧w5.heap[b1]?=some (.cells #[.int .i64 n] 27 (0,0))∧w5.heap[b2]?=some (.cells (hA j7) 22 (0,0))∧w5.heap[b3]?=some (.cells (hA X) 22 (0,0))∧W.heap.size≤b2∧b1<b2∧b2<b3∧b3<w5.heap.size):=(by obtain ⟨p1,p2,p3,p4⟩:=H1.o;obtain ⟨q1,q2,q3,q4⟩:=H2.o;have g3:=HQ3.o;obtain ⟨t1,t2,t3,t4⟩:=H3.o;obtain ⟨k1,k2,k3⟩:=H4.o;have s3:=g3.size;exact ⟨((Kp.of (S:=fun b=>W.heap.size≤b) (G.trans (G.trans (G.trans p2 q2) g3) t2)).trans k1 fun b hb e=>by omega).below (Nat.le_refl _) (fun b e=>e),(k1.block b1 (by omega) (by omega)).trans ((t2.block b1 (by omega)).trans ((g3.block b1 (by omega)).trans ((q2.block b1 (by omega)).trans p3))),(k1.block b2 (by omega) (by omega)).trans ((t2.block b2 (by omega)).trans ((g3.block b2 (by omega)).trans q3)),k2,by omega,by omega,by omega,by omega⟩);have hzc:=show w5.cell? ⟨b1,0,none⟩=some (.int .i64 n) from (by rw [j9 HD.o.2.1];rfl))
    | ((with_reducible refine jE 18 22 (.tmp 5) b3 0 (hA X) _ ?_ ?_ ?_ ?_ ?_ Tryz.underlying22 ?_ ?_ ?_);rfl;rfl;kernel_rfl;rfl;exact Lies.of_heap HD.o.2.2.2.1;rfl;exact (by rw [jK,HX.o.1]))
    | ((with_reducible refine qj 22 (.tmp 4) (.tmp 18) b2 (hA X) (hA j7) ?_ ?_ ?_ ?_ ?_ ?_ ?_ ?_ ?_ ?_);rfl;rfl;kernel_rfl;rfl;rfl;exact HD.o.2.2.1;exact (by rw [jK,HX.o.1]);exact (hz32.trans HX.o.1.symm);exact HX.o.2;intro w9 H9))
   refine bodyPost_ret (results_cell_row (P:=Tryz.prog) (p:=4) (ty:=22) rfl _ _ b2 22 (hA X) (0,0) _ rfl H9.o.2.1 Tryz.underlying22 rfl (by rw [jK,HX.o.1])) rfl ⟨rfl,?_⟩
   exact ((Kp.of (S:=fun b=>W.heap.size≤b) HD.o.1).trans H9.o.1 fun b hb e=>by have:=HD.o.2.2.2.2;omega).below (Nat.le_refl _) fun b e=>e
  ·have hn1:256≤n:=by omega
   clear hn
   go_enter Tryz.func7,Tryz.ntmps7
   go_wp2_with (first
    | ((with_reducible refine jt 2 27 (.tmp 0) (#[.int .i64 n]:Array Value) ?_ ?_ ?_ ?_ ?_);rfl;rfl;kernel_rfl;rfl;intro w1 b1 H1)
    | ((with_reducible refine qC 4 22 (hA j7) ?_ ?_ ?_ ?_ ?_);rfl;rfl;kernel_rfl;exact jv;intro w2 b2 H2)
    | (go_at_call 24;refine (CC.o w2 (G.trans H1.o.2.1 H2.o.2.1)).mono ?_;rintro e w3 ⟨rfl,q3⟩;have HQ3:=hid q3;clear q3)
    | ((with_reducible refine qC 5 22 (hA j7) ?_ ?_ ?_ ?_ ?_);rfl;rfl;kernel_rfl;exact jv;intro w4 b3 H3)
    | ((with_reducible refine qj 22 (.tmp 5) (.tmp 9) b3 (hA X) (hA j7) ?_ ?_ ?_ ?_ ?_ ?_ ?_ ?_ ?_ ?_);rfl;rfl;kernel_rfl;rfl;rfl;exact H3.o.2.2.1;exact (by rw [jK,HX.o.1]);exact (hz32.trans HX.o.1.symm);exact HX.o.2;intro w5 H4;have HD:Hid (G W w5∧w5.heap[b1]?=some (.cells #[.int .i64 n] 27 (0,0))∧w5.heap[b2]?=some (.cells (hA j7) 22 (0,0))∧w5.heap[b3]?=some (.cells (hA X) 22 (0,0))∧W.heap.size≤b2∧b1<b2∧b2<b3∧b3<w5.heap.size):=(by obtain ⟨p1,p2,p3,p4⟩:=H1.o;obtain ⟨q1,q2,q3,q4⟩:=H2.o;have g3:=HQ3.o;obtain ⟨t1,t2,t3,t4⟩:=H3.o;obtain ⟨k1,k2,k3⟩:=H4.o;have s3:=g3.size;exact ⟨((Kp.of (S:=fun b=>W.heap.size≤b) (G.trans (G.trans (G.trans p2 q2) g3) t2)).trans k1 fun b hb e=>by omega).below (Nat.le_refl _) (fun b e=>e),(k1.block b1 (by omega) (by omega)).trans ((t2.block b1 (by omega)).trans ((g3.block b1 (by omega)).trans ((q2.block b1 (by omega)).trans p3))),(k1.block b2 (by omega) (by omega)).trans ((t2.block b2 (by omega)).trans ((g3.block b2 (by omega)).trans q3)),k2,by omega,by omega,by omega,by omega⟩);have hzc:=show w5.cell? ⟨b1,0,none⟩=some (.int .i64 n) from (by rw [j9 HD.o.2.1];rfl))
    | ((with_reducible refine jE 18 22 (.tmp 5) b3 0 (hA X) _ ?_ ?_ ?_ ?_ ?_ Tryz.underlying22 ?_ ?_ ?_);rfl;rfl;kernel_rfl;rfl;exact Lies.of_heap HD.o.2.2.2.1;rfl;exact (by rw [jK,HX.o.1]))
    | ((with_reducible refine qj 22 (.tmp 4) (.tmp 18) b2 (hA X) (hA j7) ?_ ?_ ?_ ?_ ?_ ?_ ?_ ?_ ?_ ?_);rfl;rfl;kernel_rfl;rfl;rfl;exact HD.o.2.2.1;exact (by rw [jK,HX.o.1]);exact (hz32.trans HX.o.1.symm);exact HX.o.2;intro w9 H9))
   refine bodyPost_ret (results_cell_row (P:=Tryz.prog) (p:=4) (ty:=22) rfl _ _ b2 22 (hA X) (0,0) _ rfl H9.o.2.1 Tryz.underlying22 rfl (by rw [jK,HX.o.1])) rfl ⟨rfl,?_⟩
   exact ((Kp.of (S:=fun b=>W.heap.size≤b) HD.o.1).trans H9.o.1 fun b hb e=>by have:=HD.o.2.2.2.2;omega).below (Nat.le_refl _) fun b e=>e
 ·rw [if_neg hn]
  have hn0:¬ n<0:=by omega
  have hn1:¬ 256≤n:=by omega
  clear hn
  obtain ⟨N,rfl⟩:∃ N:Nat,n=(N:Int):=⟨n.toNat,by omega⟩
  rw [Int.toNat_natCast]
  go_enter Tryz.func7,Tryz.ntmps7
  go_wp2_with (first
   | ((with_reducible refine jt 2 27 (.tmp 0) (#[.int .i64 (N:Int)]:Array Value) ?_ ?_ ?_ ?_ ?_);rfl;rfl;kernel_rfl;rfl;intro w1 b1 H1)
   | ((with_reducible refine qC 4 22 (hA j7) ?_ ?_ ?_ ?_ ?_);rfl;rfl;kernel_rfl;exact jv;intro w2 b2 H2)
   | (go_at_call 24;refine (CC.o w2 (G.trans H1.o.2.1 H2.o.2.1)).mono ?_;rintro e w3 ⟨rfl,q3⟩;have HQ3:=hid q3;clear q3)
   | ((with_reducible refine qC 5 22 (hA j7) ?_ ?_ ?_ ?_ ?_);rfl;rfl;kernel_rfl;exact jv;intro w4 b3 H3)
   | ((with_reducible refine qj 22 (.tmp 5) (.tmp 9) b3 (hA X) (hA j7) ?_ ?_ ?_ ?_ ?_ ?_ ?_ ?_ ?_ ?_);rfl;rfl;kernel_rfl;rfl;rfl;exact H3.o.2.2.1;exact (by rw [jK,HX.o.1]);exact (hz32.trans HX.o.1.symm);exact HX.o.2;intro w5 H4;have HD:Hid (G W w5∧w5.heap[b1]?=some (.cells #[.int .i64 (N:Int)] 27 (0,0))∧w5.heap[b2]?=some (.cells (hA j7) 22 (0,0))∧w5.heap[b3]?=some (.cells (hA X) 22 (0,0))∧W.heap.size≤b2∧b1<b2∧b2<b3∧b3<w5.heap.size):=(by obtain ⟨p1,p2,p3,p4⟩:=H1.o;obtain ⟨q1,q2,q3,q4⟩:=H2.o;have g3:=HQ3.o;obtain ⟨t1,t2,t3,t4⟩:=H3.o;obtain ⟨k1,k2,k3⟩:=H4.o;have s3:=g3.size;exact ⟨((Kp.of (S:=fun b=>W.heap.size≤b) (G.trans (G.trans (G.trans p2 q2) g3) t2)).trans k1 fun b hb e=>by omega).below (Nat.le_refl _) (fun b e=>e),(k1.block b1 (by omega) (by omega)).trans ((t2.block b1 (by omega)).trans ((g3.block b1 (by omega)).trans ((q2.block b1 (by omega)).trans p3))),(k1.block b2 (by omega) (by omega)).trans ((t2.block b2 (by omega)).trans ((g3.block b2 (by omega)).trans q3)),k2,by omega,by omega,by omega,by omega⟩);have hzc:=show w5.cell? ⟨b1,0,none⟩=some (.int .i64 (N:Int)) from (by rw [j9 HD.o.2.1];rfl))
   | ((with_reducible refine qC 6 22 (hA j7) ?_ ?_ ?_ ?_ ?_);rfl;rfl;kernel_rfl;exact jv;intro w7 b4 H7))
  have HO:Hid (OfI W b1 b2 b3 b4 N X (cutB X 0) w7):=by
   obtain ⟨p0,p1,p2,p3,p4⟩:=HD.o
   obtain ⟨q1,q2,q3,q4⟩:=H7.o
   exact ⟨(q2.block b1 (by omega)).trans p1,(q2.block b2 (by omega)).trans p2,(q2.block b3 (by omega)).trans p3,q3,p0.trans q2,by omega⟩
  go_loopw [7] (fun i wr=>∃ k:Nat,i=.int .i64 (k:Int)∧k≤N∧Hid (OfI W b1 b2 b3 b4 N X (cutB X k) wr)) (fun i _=>N-iOf i)
  case atStart=>exact ⟨0,rfl,by omega,HO.o⟩
  case round=>
   clear H1 H2 H3 H4 H7 HD HO HQ3
   obtain ⟨k,rfl,hk,HR⟩:=hrel
   have hzc:wr.cell? ⟨b1,0,none⟩=some (.int .i64 (N:Int)):=by rw [j9 HR.o.v1];rfl
   by_cases hkn:k<N
   ·have hkI:(k:Int)<N:=by omega
    have hR:=HR.o
    go_upto_region 8 with fail
    have hq:k/8<32:=by omega
    obtain ⟨L,hL⟩:∃ L,cutB X k=L:=⟨_,rfl⟩
    rw [hL] at hR
    have hL32:L.length=32:=by rw [← hL];exact (cO X k).1
    have hs:cutB X (k+1)=L.set (k/8) (bits .or .u8 ((L.getD (k/8) 0:Nat):Int) (bits .and .u8 ((X.getD (k/8) 0:Nat):Int) (128/2 ^ (k%8)))).toNat:=by rw [cutB,hL]
    refine regof8 b3 b4 k (k/8) (L.getD (k/8) 0) (X.getD (k/8) 0) ((k%8:Nat):Int) (128/2 ^ (k%8)) (fun _ W'=>OfI W b1 b2 b3 b4 N X L W') (fun _ W'=>OfI W b1 b2 b3 b4 N X (cutB X (k+1)) W') (fun W'=>OfI W b1 b2 b3 b4 N X L W') _ wr rfl rfl rfl rfl ?a1 (by omega) ?a2 ?a3 (fun w=>shift8 _ (by omega) w) (fun _ _ q=>q) ?c1 ?l1 ?l2 ?s0 ?c2
    case a1=>simp [IntKind.wrap,IntKind.signed,IntKind.bits];omega
    case a2=>rw [Int.tmod_eq_emod_of_nonneg (by omega)];omega
    case a3=>simp [IntKind.wrap,IntKind.signed,IntKind.bits];omega
    case l1=>exact fun w q=>by rw [j9 q.v4];exact pQ hL32 hq
    case l2=>exact fun w q=>by rw [j9 q.v3];exact pQ hX.1 hq
    case s0=>exact fun _=>⟨hR.v1,hR.v2,hR.v3,hR.v4,hR.g.trans (G.drew _),hR.lo⟩
    case c1=>
     intro r' w' q
     have hk':=Kp.set w' b4 (k/8) (.int .u8 (bits .or .u8 ((L.getD (k/8) 0:Nat):Int) (bits .and .u8 ((X.getD (k/8) 0:Nat):Int) (128/2 ^ (k%8)))))
     have hv:=a2K .or ((L.getD (k/8) 0:Nat):Int) (bits .and .u8 ((X.getD (k/8) 0:Nat):Int) (128/2 ^ (k%8)))
     refine ⟨⟨_,by rw [j9 q.v4];exact pQ hL32 hq⟩,by simp [World.frozen?,q.v4],?_⟩
     have e4:=jI (o:=k/8) (.int .u8 (bits .or .u8 ((L.getD (k/8) 0:Nat):Int) (bits .and .u8 ((X.getD (k/8) 0:Nat):Int) (128/2 ^ (k%8))))) q.v4
     rw [hs]
     refine ⟨(hk'.block b1 (ga q.v1).1 (by have:=q.lo;omega)).trans q.v1,(hk'.block b2 (ga q.v2).1 (by have:=q.lo;omega)).trans q.v2,(hk'.block b3 (ga q.v3).1 (by have:=q.lo;omega)).trans q.v3,?_,((Kp.of (S:=fun b=>W.heap.size≤b) q.g).trans hk' fun b hb e=>by have:=q.lo;omega).below (Nat.le_refl _) fun b e=>e,q.lo⟩
     rw [e4]
     generalize bits .or .u8 ((L.getD (k/8) 0:Nat):Int) (bits .and .u8 ((X.getD (k/8) 0:Nat):Int) (128/2 ^ (k%8)))=y at hv ⊢
     obtain ⟨y,rfl⟩:∃ z:Nat,y=(z:Int):=⟨y.toNat,by omega⟩
     rw [Int.toNat_natCast,tf]
    case c2=>
     intro r' W' q
     rw [foldof8]
     have HF:=hid q
     clear q hR hs hL hzc
     generalize bits .or .u8 ((L.getD (k/8) 0:Nat):Int) (bits .and .u8 ((X.getD (k/8) 0:Nat):Int) (128/2 ^ (k%8)))=y
     generalize bits .and .u8 ((X.getD (k/8) 0:Nat):Int) (128/2 ^ (k%8))=y1
     generalize (128/2 ^ (k%8):Int)=y2
     generalize ((k%8:Nat):Int)=y3
     generalize k/8=y4
     generalize L.getD y4 0=y5
     generalize X.getD y4 0=y6
     go_simp
     go_wp2_with fail
     go_roundw
     case rel=>exact ⟨k+1,by go_num,by omega,HF.o⟩
     case measure=>simp;omega
   ·have hkI:¬ (k:Int)<N:=by omega
    have hkn2:k=N:=by omega
    subst hkn2
    have HL:Hid ((hA (cutB X k)).size=32∧(hA (cutB X k)).all (·.oneCell')=true):=⟨jG (cO X k).1,jn _⟩
    obtain ⟨L,hLe⟩:∃ L,cutB X k=L:=⟨_,rfl⟩
    rw [hLe] at HL HR
    have HLe:=hid hLe
    clear hLe
    go_wp2_with (first
     | ((with_reducible refine jE 42 22 (.tmp 6) b4 0 (hA L) _ ?_ ?_ ?_ ?_ ?_ Tryz.underlying22 ?_ ?_ ?_);rfl;rfl;kernel_rfl;rfl;exact Lies.of_heap HR.o.v4;rfl;exact (by rw [jK,HL.o.1]))
     | ((with_reducible refine qj 22 (.tmp 4) (.tmp 42) b2 (hA L) (hA j7) ?_ ?_ ?_ ?_ ?_ ?_ ?_ ?_ ?_ ?_);rfl;rfl;kernel_rfl;rfl;rfl;exact HR.o.v2;exact (by rw [jK,HL.o.1]);exact (hz32.trans HL.o.1.symm);exact HL.o.2;intro w9 H9))
    refine bodyPost_ret (results_cell_row (P:=Tryz.prog) (p:=4) (ty:=22) rfl _ _ b2 22 (hA L) (0,0) _ rfl H9.o.2.1 Tryz.underlying22 rfl (by rw [jK,HL.o.1])) rfl ⟨by rw [HLe.o],?_⟩
    exact ((Kp.of (S:=fun b=>W.heap.size≤b) HR.o.g).trans H9.o.1 fun b hb e=>by have:=HR.o.lo;omega).below (Nat.le_refl _) fun b e=>e
end Go.Proofs.YtdeanahpiigonaaGreatDoor
