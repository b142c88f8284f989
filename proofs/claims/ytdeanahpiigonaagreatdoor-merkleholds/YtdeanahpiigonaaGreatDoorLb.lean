import Derived.Test.YtdeanahpiigonaaGreatDoorLa
set_option maxRecDepth 100000
set_option maxHeartbeats 8000000
namespace Go.Proofs.YtdeanahpiigonaaGreatDoor
open Go.RowKit Hm
attribute [local go_sem] Oper.semAt_some
noncomputable abbrev kU:Array Oper:=kS Tryz.f10 2
theorem vG:gj kU=true:=by kernel_rfl
theorem a2V:dstB kU 34=true:=by kernel_rfl
theorem dS:kU.size=14:=by kernel_rfl
theorem pZ:say kU 0=some (some 21,.move (.tmp 12),none):=by kernel_rfl
theorem qJ:say kU 1=some (some 22,.move (.tmp 21),none):=by kernel_rfl
theorem a03:say kU 2=some (some 23,.load 27 (.tmp 5),some (1,true)):=by kernel_rfl
theorem a04:say kU 3=some (some 24,.move (.tmp 11),some (1,true)):=by kernel_rfl
theorem a05:say kU 4=some (some 25,.move (.tmp 11),some (1,true)):=by kernel_rfl
theorem a06:say kU 5=some (some 26,.call { callee:=.builtin .len,args:=#[.tmp 25],argTypes:=#[31] },some (1,true)):=by kernel_rfl
theorem a07:say kU 6=some (some 27,.binOp .sub 3 (.tmp 26) (.const (.int .i64 1)) 3,some (1,true)):=by kernel_rfl
theorem a08:say kU 7=some (some 28,.indexAddr 31 (.tmp 24) (.tmp 27),some (1,true)):=by kernel_rfl
theorem a09:say kU 8=some (some 29,.load 25 (.tmp 28),some (1,true)):=by kernel_rfl
theorem a0A:say kU 9=some (some 30,.call { callee:=.value (.func 7),args:=#[.tmp 23,.tmp 29],argTypes:=#[27,25] },some (1,true)):=by kernel_rfl
theorem mY:say kU 10=some (some 31,.load 22 (.tmp 6),some (1,true)):=by kernel_rfl
theorem gE:say kU 11=some (some 32,.binOp .eql 22 (.tmp 30) (.tmp 31) 22,some (1,true)):=by kernel_rfl
theorem gF:say kU 12=some (some 33,.pick (.tmp 22) (.tmp 32) (.const (.bool false)),none):=by kernel_rfl
theorem vH:say kU 13=some (some 10,.assign (.tmp 33),none):=by kernel_rfl
def Vhf (_b5:Nat) (_r:Unit):Nat→Value
 | 0=>.bool false
 | 1=>.bool false
 | 2=>undef
 | 3=>undef
 | 4=>undef
 | 5=>undef
 | 6=>undef
 | 7=>undef
 | 8=>undef
 | 9=>undef
 | 10=>undef
 | 11=>undef
 | 12=>.bool false
 | 13=>.bool false
 | _=>undef
theorem reghf (b5:Nat)  (t0:Array Value) (wr:World) {Q:Exit→Act→World→Prop} (ht:t0.size=34) (h12:t0.getD 12 undef=.bool false)
  (hQ:∀ r,Q .normal ⟨fold kU (Vhf b5 r) t0 14,[]⟩ wr.drew):(Code.region 2 kU true).wp Tryz.prog Q ⟨t0,[]⟩ wr:=by
 have hB:dstB kU t0.size=true:=by rw [ht];exact a2V
 refine jL (by kernel_rfl) (IE kU (Vhf b5) t0 ((fun (_:Unit) (_:Nat→Bool) (w:World)=>w=wr.drew) )) vG ⟨(),t0,rfl,⟨rfl,fun _ _=>rfl,fun _ _ _ _ _ h=>by cases h⟩,rfl⟩ ?_ ?_
 rotate_left 1
 ·rintro done a w ⟨r,t,rfl,hS,hM⟩ hall
  rw [hS.end hB hall,dS]
  rw [hM]
  exact hQ r
 ·rintro jz op done a w ho ⟨r,t,rfl,hS,hM⟩ hnd hdep hcl
  have e12:=hS.ol h12
  have hlt:jz<14:=by rw [← dS];exact (ga ho).1
  match jz,hlt,ho,hnd,hdep with
  | 0,_,ho,hnd,hdep=>
   obtain ⟨hd,hop,hgd⟩:=jB pZ ho
   refine jJ r hB ho (j0 hgd) hd hS hM ?_
   unfold execOp;simp [hop,e12,Vhf,go_sem]
  | 1,_,ho,hnd,hdep=>
   obtain ⟨hd,hop,hgd⟩:=jB qJ ho
   have x21:=hS.gt pZ ho hdep
   refine jJ r hB ho (j0 hgd) hd hS hM ?_
   unfold execOp;simp [hop,x21,Vhf,go_sem]
  | 2,_,ho,hnd,hdep=>
   obtain ⟨hd,hop,hgd⟩:=jB a03 ho
   have gx:=hS.gt qJ ho hdep
   simp only [Vhf] at gx
   exact jW r hB ho (jH hgd (sd qJ) gx rfl) hd hS hM rfl
  | 3,_,ho,hnd,hdep=>
   obtain ⟨hd,hop,hgd⟩:=jB a04 ho
   have gx:=hS.gt qJ ho hdep
   simp only [Vhf] at gx
   exact jW r hB ho (jH hgd (sd qJ) gx rfl) hd hS hM rfl
  | 4,_,ho,hnd,hdep=>
   obtain ⟨hd,hop,hgd⟩:=jB a05 ho
   have gx:=hS.gt qJ ho hdep
   simp only [Vhf] at gx
   exact jW r hB ho (jH hgd (sd qJ) gx rfl) hd hS hM rfl
  | 5,_,ho,hnd,hdep=>
   obtain ⟨hd,hop,hgd⟩:=jB a06 ho
   have gx:=hS.gt qJ ho hdep
   simp only [Vhf] at gx
   exact jW r hB ho (jH hgd (sd qJ) gx rfl) hd hS hM rfl
  | 6,_,ho,hnd,hdep=>
   obtain ⟨hd,hop,hgd⟩:=jB a07 ho
   have gx:=hS.gt qJ ho hdep
   simp only [Vhf] at gx
   exact jW r hB ho (jH hgd (sd qJ) gx rfl) hd hS hM rfl
  | 7,_,ho,hnd,hdep=>
   obtain ⟨hd,hop,hgd⟩:=jB a08 ho
   have gx:=hS.gt qJ ho hdep
   simp only [Vhf] at gx
   exact jW r hB ho (jH hgd (sd qJ) gx rfl) hd hS hM rfl
  | 8,_,ho,hnd,hdep=>
   obtain ⟨hd,hop,hgd⟩:=jB a09 ho
   have gx:=hS.gt qJ ho hdep
   simp only [Vhf] at gx
   exact jW r hB ho (jH hgd (sd qJ) gx rfl) hd hS hM rfl
  | 9,_,ho,hnd,hdep=>
   obtain ⟨hd,hop,hgd⟩:=jB a0A ho
   have gx:=hS.gt qJ ho hdep
   simp only [Vhf] at gx
   exact jW r hB ho (jH hgd (sd qJ) gx rfl) hd hS hM rfl
  | 10,_,ho,hnd,hdep=>
   obtain ⟨hd,hop,hgd⟩:=jB mY ho
   have gx:=hS.gt qJ ho hdep
   simp only [Vhf] at gx
   exact jW r hB ho (jH hgd (sd qJ) gx rfl) hd hS hM rfl
  | 11,_,ho,hnd,hdep=>
   obtain ⟨hd,hop,hgd⟩:=jB gE ho
   have gx:=hS.gt qJ ho hdep
   simp only [Vhf] at gx
   exact jW r hB ho (jH hgd (sd qJ) gx rfl) hd hS hM rfl
  | 12,_,ho,hnd,hdep=>
   obtain ⟨hd,hop,hgd⟩:=jB gF ho
   have x22:=hS.gt qJ ho hdep
   have x32:=hS.gt gE ho hdep
   refine jJ r hB ho (j0 hgd) hd hS hM ?_
   unfold execOp;simp [hop,x22,x32,Vhf,go_sem]
  | 13,_,ho,hnd,hdep=>
   obtain ⟨hd,hop,hgd⟩:=jB vH ho
   have x33:=hS.gt gF ho hdep
   refine jJ r hB ho (j0 hgd) hd hS hM ?_
   unfold execOp;simp [hop,x33,Vhf,go_sem]
theorem foldhf (b5:Nat) (r:Unit) (t0:Array Value):fold kU (Vhf b5 r) t0 14=((((((((((((((t0.setIfInBounds 21 (.bool false)).setIfInBounds 22 (.bool false)).setIfInBounds 23 (undef)).setIfInBounds 24 (undef)).setIfInBounds 25 (undef)).setIfInBounds 26 (undef)).setIfInBounds 27 (undef)).setIfInBounds 28 (undef)).setIfInBounds 29 (undef)).setIfInBounds 30 (undef)).setIfInBounds 31 (undef)).setIfInBounds 32 (undef)).setIfInBounds 33 (.bool false)).setIfInBounds 10 (.bool false)):=by kernel_rfl
def Vht (_b5 _b6 h k c:Nat) (uv:Value) (bt:Int) (_zl rl:List Nat) (bb:Bool) (r:Nat→Value):Nat→Value
 | 0=>.bool true
 | 1=>.bool true
 | 2=>.agg #[.int .i64 bt]
 | 3=>.slice (some ⟨h,0,none⟩) (k+1) c
 | 4=>.slice (some ⟨h,0,none⟩) (k+1) c
 | 5=>.int .i64 ((k+1:Nat):Int)
 | 6=>.int .i64 (k:Int)
 | 7=>.pointer (some ⟨h,k,none⟩)
 | 8=>uv
 | 9=>(r 1)
 | 10=>.agg (hA rl)
 | 11=>.bool bb
 | 12=>.bool bb
 | 13=>.bool bb
 | _=>undef
theorem reght (b5 b6 h k c:Nat) (uv:Value) (bt:Int) (zl rl:List Nat) (bb:Bool) (F0 F1:(Nat→Value)→World→Prop) (B:World→Prop)  (t0:Array Value) (wr:World) {Q:Exit→Act→World→Prop} (ht:t0.size=34) (h12:t0.getD 12 undef=.bool true) (h5:t0.getD 5 undef=.pointer (some ⟨b5,0,none⟩)) (h11:t0.getD 11 undef=.slice (some ⟨h,0,none⟩) (k+1) c) (h6:t0.getD 6 undef=.pointer (some ⟨b6,0,none⟩))
  (_:∃ a n k,uv=.slice a n k) (hkw:IntKind.i64.wrap (k:Int)=k) (hix:¬ (k:Int)+1≤k) (hX:(hA rl).size=32) (hzl:zl.length=32) (hrl:rl.length=32) (hbb:decide (zl=rl)=bb) (hF1:∀ r w,F1 r w→r 1=.agg (hA zl))
  (hb0:∀ r w,F0 r w→B w) (hb1:∀ r w,F1 r w→B w)
  (hc1:∀ r w,F0 r w→Calls Tryz.prog 7 #[.agg #[.int .i64 bt],uv] w fun e w'=>∃ u,e=.returned u∧F1 (ups r 1 u) w')
  (hl2:∀ w,B w→Lies w b5 0 #[.int .i64 bt])
  (hl8:∀ w,B w→w.cell? ⟨h,k,none⟩=some (uv))
  (hl10:∀ w,B w→Lies w b6 0 (hA rl))
  (hst0:∀ r,F0 r wr.drew)
  (hQ:∀ r w,F1 r w→Q .normal ⟨fold kU (Vht b5 b6 h k c uv bt zl rl bb r) t0 14,[]⟩ w):(Code.region 2 kU true).wp Tryz.prog Q ⟨t0,[]⟩ wr:=by
 have hB:dstB kU t0.size=true:=by rw [ht];exact a2V
 have hBB:∀ r done w,MC F0 [(9,F1)] r done w→B w:=fun r done w h=>MC.base hb0 (by simp only [List.mem_cons,List.not_mem_nil,or_false];rintro x rfl;assumption) h
 refine jL (by kernel_rfl) (IE kU (Vht b5 b6 h k c uv bt zl rl bb) t0 (MC F0 [(9,F1)] )) vG ⟨(fun _=>undef),t0,rfl,⟨rfl,fun _ _=>rfl,fun _ _ _ _ _ h=>by cases h⟩,MC.start (hst0 _)⟩ ?_ ?_
 rotate_left 1
 ·rintro done a w ⟨r,t,rfl,hS,hM⟩ hall
  rw [hS.end hB hall,dS]
  exact hQ r w (MC.get (hall 9 (by rw [dS];decide)) [] (by simp) hM)
 ·rintro jz op done a w ho ⟨r,t,rfl,hS,hM⟩ hnd hdep hcl
  have e12:=hS.ol h12
  have e5:=hS.ol h5
  have e11:=hS.ol h11
  have e6:=hS.ol h6
  have hlt:jz<14:=by rw [← dS];exact (ga ho).1
  match jz,hlt,ho,hnd,hdep with
  | 0,_,ho,hnd,hdep=>
   refine jM pZ r hB ho hS (hM.step (by rfl)) fun hop=>?_
   unfold execOp;simp [hop,e12,Vht,go_sem]
  | 1,_,ho,hnd,hdep=>
   have x21:=hS.gt pZ ho hdep
   refine jM qJ r hB ho hS (hM.step (by rfl)) fun hop=>?_
   unfold execOp;simp [hop,x21,Vht,go_sem]
  | 2,_,ho,hnd,hdep=>
   obtain ⟨hd,hop,hgd⟩:=jB a03 ho
   have gx:=hS.gt qJ ho hdep
   simp only [Vht] at gx
   refine jJ r hB ho (jN hgd (sd qJ) gx) hd hS (hM.step (by rfl)) ?_
   exact jQ 27 _ hop b5 0 (by show t.getD 5 undef=_;rw [gd];exact e5) #[.int .i64 bt] _ (hl2 w (hBB _ _ _ hM)) Tryz.underlying27 rfl zC
  | 3,_,ho,hnd,hdep=>
   obtain ⟨hd,hop,hgd⟩:=jB a04 ho
   have gx:=hS.gt qJ ho hdep
   simp only [Vht] at gx
   refine jJ r hB ho (jN hgd (sd qJ) gx) hd hS (hM.step (by rfl)) ?_
   unfold execOp;simp [hop,e11,Vht,go_sem]
  | 4,_,ho,hnd,hdep=>
   obtain ⟨hd,hop,hgd⟩:=jB a05 ho
   have gx:=hS.gt qJ ho hdep
   simp only [Vht] at gx
   refine jJ r hB ho (jN hgd (sd qJ) gx) hd hS (hM.step (by rfl)) ?_
   unfold execOp;simp [hop,e11,Vht,go_sem]
  | 5,_,ho,hnd,hdep=>
   obtain ⟨hd,hop,hgd⟩:=jB a06 ho
   have gx:=hS.gt qJ ho hdep
   simp only [Vht] at gx
   have x25:=hS.gt a05 ho hdep
   refine jJ r hB ho (jN hgd (sd qJ) gx) hd hS (hM.step (by rfl)) ?_
   unfold execOp;simp [hop,x25,Vht,go_sem]
  | 6,_,ho,hnd,hdep=>
   obtain ⟨hd,hop,hgd⟩:=jB a07 ho
   have gx:=hS.gt qJ ho hdep
   simp only [Vht] at gx
   have x26:=hS.gt a06 ho hdep
   refine jJ r hB ho (jN hgd (sd qJ) gx) hd hS (hM.step (by rfl)) ?_
   unfold execOp;simp [hop,x26,Vht,hkw,go_sem]
  | 7,_,ho,hnd,hdep=>
   obtain ⟨hd,hop,hgd⟩:=jB a08 ho
   have gx:=hS.gt qJ ho hdep
   simp only [Vht] at gx
   have x24:=hS.gt a04 ho hdep
   have x27:=hS.gt a07 ho hdep
   refine jJ r hB ho (jN hgd (sd qJ) gx) hd hS (hM.step (by rfl)) ?_
   unfold execOp;simp [hop,x24,x27,Vht,hix,go_sem]
  | 8,_,ho,hnd,hdep=>
   obtain ⟨hd,hop,hgd⟩:=jB a09 ho
   have gx:=hS.gt qJ ho hdep
   simp only [Vht] at gx
   have x28:=hS.gt a08 ho hdep
   have cz:=hl8 w (hBB _ _ _ hM)
   refine jJ r hB ho (jN hgd (sd qJ) gx) hd hS (hM.step (by rfl)) ?_
   unfold execOp;simp [hop,x28,Vht,cz,go_sem]
  | 9,_,ho,hnd,hdep=>
   obtain ⟨hd,hop,hgd⟩:=jB a0A ho
   have gx:=hS.gt qJ ho hdep
   simp only [Vht] at gx
   have x23:=hS.gt a03 ho hdep
   simp only [Vht] at x23
   have x29:=hS.gt a09 ho hdep
   simp only [Vht] at x29
   have hF:=MC.get0 [(9,F1)] (by simp [hnd]) hM
   refine jb r 7 #[.agg #[.int .i64 bt],uv] hB ho (jN hgd (sd qJ) gx) hd hS ?_ ?_
   ·skip
    unfold execOp
    simp only [hop]
    simp [x23,x29,go_sem]
   ·skip
    refine (hc1 r w hF).mono ?_
    rintro e w' ⟨u,rfl,hF'⟩
    refine ⟨ups r 1 u,?_,fun k hk=>?_,MC.put hF' [] (by simp)⟩
    ·simp only [Vht,jA]
    ·skip
     have q9:k≠9:=fun e=>by rw [e,hnd] at hk;cases hk
     unfold Vht
     split<;>first | rfl | exact absurd rfl q9
  | 10,_,ho,hnd,hdep=>
   obtain ⟨hd,hop,hgd⟩:=jB mY ho
   have gx:=hS.gt qJ ho hdep
   simp only [Vht] at gx
   refine jJ r hB ho (jN hgd (sd qJ) gx) hd hS (hM.step (by rfl)) ?_
   exact jQ 22 _ hop b6 0 (by show t.getD 6 undef=_;rw [gd];exact e6) (hA rl) _ (hl10 w (hBB _ _ _ hM)) Tryz.underlying22 rfl (by rw [jK,hX])
  | 11,_,ho,hnd,hdep=>
   obtain ⟨hd,hop,hgd⟩:=jB gE ho
   have gx:=hS.gt qJ ho hdep
   simp only [Vht] at gx
   have x30:=hS.gt a0A ho hdep
   simp only [Vht] at x30
   have x31:=hS.gt mY ho hdep
   simp only [Vht] at x31
   have a9:done 9=true:=jy (j:=9) (by kernel_rfl) ho hdep
   have hF:=hF1 r w (MC.get a9 [] (by simp) hM)
   refine jJ r hB ho (jN hgd (sd qJ) gx) hd hS (hM.step (by rfl)) ?_
   show _=Result.ok (Next.value (.bool bb)) w
   rw [← hbb]
   exact dF _ _ hop zl rl hzl hrl (Eq.trans (by show t.getD 30 undef=_;rw [gd];exact x30) hF) (by show t.getD 31 undef=_;rw [gd];exact x31) w
  | 12,_,ho,hnd,hdep=>
   have x22:=hS.gt qJ ho hdep
   have x32:=hS.gt gE ho hdep
   refine jM gF r hB ho hS (hM.step (by rfl)) fun hop=>?_
   unfold execOp;simp [hop,x22,x32,Vht,go_sem]
  | 13,_,ho,hnd,hdep=>
   have x33:=hS.gt gF ho hdep
   refine jM vH r hB ho hS (hM.step (by rfl)) fun hop=>?_
   unfold execOp;simp [hop,x33,Vht,go_sem]
theorem foldht (b5 b6 h k c:Nat) (uv:Value) (bt:Int) (zl rl:List Nat) (bb:Bool) (r:Nat→Value) (t0:Array Value):fold kU (Vht b5 b6 h k c uv bt zl rl bb r) t0 14=((((((((((((((t0.setIfInBounds 21 (.bool true)).setIfInBounds 22 (.bool true)).setIfInBounds 23 (.agg #[.int .i64 bt])).setIfInBounds 24 (.slice (some ⟨h,0,none⟩) (k+1) c)).setIfInBounds 25 (.slice (some ⟨h,0,none⟩) (k+1) c)).setIfInBounds 26 (.int .i64 ((k+1:Nat):Int))).setIfInBounds 27 (.int .i64 (k:Int))).setIfInBounds 28 (.pointer (some ⟨h,k,none⟩))).setIfInBounds 29 (uv)).setIfInBounds 30 ((r 1))).setIfInBounds 31 (.agg (hA rl))).setIfInBounds 32 (.bool bb)).setIfInBounds 33 (.bool bb)).setIfInBounds 10 (.bool bb)):=by kernel_rfl
theorem em (bt:Int) (root:List Nat) (hr:root.length=32) (p:ByteArray) (v:Vd) (pv:Value) (l:List Int) (w:World) (hp:Wi.Has w pv l) (hB:Wire.Bytes l) (hl:l.length≤100000) (hps:p.size≤1048576) (hvs:Su.Bytes v.sum):
  Calls Tryz.prog 10 #[.agg #[.int .i64 bt],.agg (hA root),.string p,.agg (vx v).toArray,pv] w fun e w'=>e=.returned (.bool (au (sumS bt) root (refO (sumS bt) p v l)))∧G w w':=by
 obtain ⟨X,hX⟩:∃ X:Array Value,X=(vx v).toArray:=⟨_,rfl⟩
 have HX:Hid (X=(vx v).toArray∧X.size=35):=⟨hX,by rw [hX];exact jx v⟩
 have C6:Hid (∀ W,G w W→Calls Tryz.prog 6 #[.agg #[.int .i64 bt],.string p,.agg X,pv] W fun e w'=>G W w'∧∃ x b,e=.returned (.tuple #[x,.bool b])∧((b=false∧refO (sumS bt) p v l=none)∨(b=true∧∃ T,refO (sumS bt) p v l=some T∧Tx w' W.heap.size x T 3000∧Su.Bytes T∧T.length≤100000))):=fun W hW=>by
  rw [hX]
  refine (bC bt p v pv l W (hp.below hW) hB hl hps hvs).mono ?_
  rintro e w' ⟨h1,x,⟨h2,rfl⟩ | ⟨T,h2,rfl,h3,h4⟩⟩
  ·exact ⟨h1,x,false,rfl,.inl ⟨rfl,h2⟩⟩
  ·exact ⟨h1,x,true,rfl,.inr ⟨rfl,T,h2,h3,h4⟩⟩
 have hS:=zN bt
 have CO:Hid (∀ W u T,Su.Has W u T→Su.Bytes T→T.length≤100000→Calls Tryz.prog 7 #[.agg #[.int .i64 bt],u] W fun e W'=>e=.returned (.agg (hA (sumS bt T)))∧G W W'):=fun W u T h1 h2 h3=>bp bt u T W h1 h2 h3
 generalize sumS bt=S at *
 rw [← hX]
 obtain ⟨pa,pc,hpe,_⟩:=hp.form
 subst hpe
 have HRo:Hid ((hA root).size=32):=jG hr
 obtain ⟨RO,hRO⟩:∃ RO,refO S p v l=RO:=⟨_,rfl⟩
 rw [hRO] at C6 ⊢
 clear hX hp hRO
 go_enter Tryz.func10,Tryz.ntmps10
 go_upto_region 2 with (first
  | ((with_reducible refine jt 5 27 (.tmp 0) (#[.int .i64 bt]:Array Value) ?_ ?_ ?_ ?_ ?_);rfl;rfl;kernel_rfl;rfl;intro w1 b1 H1)
  | ((with_reducible refine jt 6 22 (.tmp 1) (hA root) ?_ ?_ ?_ ?_ ?_);rfl;rfl;kernel_rfl;rfl;intro w2 b2 H2)
  | ((with_reducible refine jt 8 24 (.tmp 3) X ?_ ?_ ?_ ?_ ?_);rfl;rfl;kernel_rfl;rfl;intro w3 b3 H3;have H0:Hid (G w w3∧w3.heap[b1]?=some (.cells #[.int .i64 bt] 27 (0,0))∧w3.heap[b2]?=some (.cells (hA root) 22 (0,0))∧w3.heap[b3]?=some (.cells X 24 (0,0))):=(by obtain ⟨p1,p2,p3,p4⟩:=H1.o;obtain ⟨t1,t2,t3,t4⟩:=H2.o;obtain ⟨u1,u2,u3,u4⟩:=H3.o;exact ⟨G.trans (G.trans p2 t2) u2,(u2.block b1 (by omega)).trans ((t2.block b1 (by omega)).trans p3),(u2.block b2 (by omega)).trans t3,u3⟩))
  | ((with_reducible refine jE 14 27 (.tmp 5) b1 0 (#[.int .i64 bt]:Array Value) _ ?_ ?_ ?_ ?_ ?_ Tryz.underlying27 ?_ ?_ ?_);rfl;rfl;kernel_rfl;rfl;exact Lies.of_heap H0.o.2.1;rfl;exact zC)
  | ((with_reducible refine jE 16 24 (.tmp 8) b3 0 X _ ?_ ?_ ?_ ?_ ?_ jR ?_ ?_ ?_);rfl;rfl;kernel_rfl;rfl;exact Lies.of_heap H0.o.2.2.2;rfl;exact (by rw [qU,HX.o.2]))
  | (go_at_call 6;refine (C6.o w3 H0.o.1).mono ?_;rintro e w4 ⟨q1,x4,b4,rfl,q2⟩;have H4:=hid (⟨q1,q2⟩:_∧_);clear q1 q2))
 cases b4 with
 | false=>
  have hn:RO=none:=by
   rcases H4.o.2 with ⟨_,h⟩ | ⟨h,_⟩
   ·exact h
   ·cases h
  have HN:=hid hn
  clear hn
  refine reghf 0 _ w4 rfl rfl ?_
  intro r'
  rw [foldhf]
  go_simp
  go_wp2_with fail
  go_ret
  exact ⟨by rw [HN.o];rfl,(G.trans H0.o.1 H4.o.1).trans (G.drew _)⟩
 | true=>
  obtain ⟨T,hro,hTx,hTB⟩:∃ T,RO=some T∧Tx w4 w3.heap.size x4 T 3000∧Su.Bytes T∧T.length≤100000:=by
   rcases H4.o.2 with ⟨h,_⟩ | ⟨_,h⟩
   ·cases h
   ·exact h
  have HRO:=hid hro
  clear hro
  obtain ⟨h,k,c,ua,uc,hxe,hk1,hcell,hown⟩:=hTx.last
  subst hxe
  have g4:G w w4:=G.trans H0.o.1 H4.o.1
  have v1:w4.heap[b1]?=some (.cells #[.int .i64 bt] 27 (0,0)):=(H4.o.1.block b1 (ga H0.o.2.1).1).trans H0.o.2.1
  have v2:w4.heap[b2]?=some (.cells (hA root) 22 (0,0)):=(H4.o.1.block b2 (ga H0.o.2.2.1).1).trans H0.o.2.2.1
  refine reght b1 b2 h k c (.slice ua T.length uc) bt (S T) root (decide (S T=root)) (fun _ W=>G w4 W) (fun r' W=>G w4 W∧r' 1=.agg (hA (S T))) (fun W=>G w4 W) _ w4 rfl rfl rfl rfl rfl ⟨_,_,_,rfl⟩ (kF k (by omega)) (by omega) HRo.o (hS T).1 hr rfl (fun _ _ q=>q.2) (hb0:=fun _ _ q=>q) (hb1:=fun _ _ q=>q.1) (hc1:=?c1) (hl2:=fun W q=>Lies.of_heap ((q.block b1 (ga v1).1).trans v1)) (hl8:=fun W q=>q.cell hcell) (hl10:=fun W q=>Lies.of_heap ((q.block b2 (ga v2).1).trans v2)) (hst0:=fun _=>G.drew _) (hQ:=?q)
  case c1=>
   intro r' W q
   refine (CO.o W _ T ((hown.has).below q) hTB.1 hTB.2).mono ?_
   rintro e W2 ⟨rfl,q2⟩
   exact ⟨_,rfl,q.trans q2,by rw [jA]⟩
  case q=>
   rintro r' w5 ⟨q1,q2⟩
   rw [foldht]
   generalize r' 1=u1
   have H5:=hid (g4.trans q1)
   have HB5:Hid (decide (S T=root)=au S root RO):=by show _=_;rw [HRO.o];rfl
   generalize decide (S T=root)=bb at *
   clear q1 q2
   go_simp
   go_wp2_with fail
   go_ret
   exact ⟨by rw [← HB5.o];rfl,H5.o⟩
def sumF (bt:Int):Value:=if bt<0∨256≤bt then .func (.func 25) #[] #[] else .func (.func 7) #[.agg #[.int .i64 bt]] #[]
theorem i6 {o:Oper} {a:Act} (x y:Operand) (ho:o.op=.binOp .eql 34 x y 34) (hx:a.eval x=.nilFunc) (hy:a.eval y=.nilFunc) (w:World):(execOp a.eval o).run Tryz.prog w=.ok (.value (.bool true)) w:=by
 unfold execOp
 simp only [ho,hx,hy]
 kernel_rfl
theorem i8 {o:Oper} {a:Act} (x y:Operand) (ho:o.op=.binOp .eql 34 x y 34) (f:Fn) (p q:Array Value) (hx:a.eval x=.func f p q) (hy:a.eval y=.nilFunc) (w:World):(execOp a.eval o).run Tryz.prog w=.ok (.value (.bool false)) w:=by
 unfold execOp
 simp only [ho,hx,hy]
 kernel_rfl
theorem mZ (f:Fn) (a b:Array Value) (w:World):(Instr.build 80 #[(0,.func f a b)]).run Tryz.prog w=.ok (.agg #[.func f a b]) w:=by kernel_rfl
theorem ma (w:World):Calls Tryz.prog 8 #[.nilFunc] w fun e w'=>∃ m,e=.returned (.pointer (some ⟨m,0,none⟩))∧w.heap.size≤m∧w'.heap[m]?=some (.cells #[.func (.func 25) #[] #[]] 80 (0,0))∧G w w':=by
 go_enter Tryz.func8,Tryz.ntmps8
 go_wp2_with (first
  | ((with_reducible refine jT 4 (.bool true) w ?_ ?_ ?_ ?_);rfl;kernel_rfl;exact i6 _ _ rfl rfl rfl _)
  | ((with_reducible refine jT 6 (.agg (#[.func (.func 25) #[] #[]]:Array Value)) w ?_ ?_ ?_ ?_);rfl;kernel_rfl;exact eE 80 0 (.tmp 5) rfl (.func (.func 25) #[] #[]) rfl _ (mZ _ _ _ _))
  | ((with_reducible refine jt 7 80 (.tmp 6) (#[.func (.func 25) #[] #[]]:Array Value) ?_ ?_ ?_ ?_ ?_);rfl;rfl;kernel_rfl;rfl;intro w1 b1 H1))
 go_ret
 exact ⟨b1,rfl,by have:=H1.o.1;omega,H1.o.2.2.1,H1.o.2.1⟩
theorem a2W (bt:Int) (w:World):Calls Tryz.prog 8 #[.func (.func 7) #[.agg #[.int .i64 bt]] #[]] w fun e w'=>∃ m,e=.returned (.pointer (some ⟨m,0,none⟩))∧w.heap.size≤m∧w'.heap[m]?=some (.cells #[.func (.func 7) #[.agg #[.int .i64 bt]] #[]] 80 (0,0))∧G w w':=by
 go_enter Tryz.func8,Tryz.ntmps8
 go_wp2_with (first
  | ((with_reducible refine jT 4 (.bool false) w ?_ ?_ ?_ ?_);rfl;kernel_rfl;exact i8 _ _ rfl _ _ _ rfl rfl _)
  | ((with_reducible refine jT 6 (.agg (#[.func (.func 7) #[.agg #[.int .i64 bt]] #[]]:Array Value)) w ?_ ?_ ?_ ?_);rfl;kernel_rfl;exact eE 80 0 (.tmp 5) rfl (.func (.func 7) #[.agg #[.int .i64 bt]] #[]) rfl _ (mZ _ _ _ _))
  | ((with_reducible refine jt 7 80 (.tmp 6) (#[.func (.func 7) #[.agg #[.int .i64 bt]] #[]]:Array Value) ?_ ?_ ?_ ?_ ?_);rfl;rfl;kernel_rfl;rfl;intro w1 b1 H1))
 go_ret
 exact ⟨b1,rfl,by have:=H1.o.1;omega,H1.o.2.2.1,H1.o.2.1⟩
theorem a0B (bt:Int) (w:World):Calls Tryz.prog 4 #[.agg #[.int .i64 bt]] w fun e w'=>∃ m,e=.returned (.pointer (some ⟨m,0,none⟩))∧w.heap.size≤m∧w'.heap[m]?=some (.cells #[sumF bt] 80 (0,0))∧G w w':=by
 unfold sumF
 by_cases hb:bt<0∨256≤bt
 ·rw [if_pos hb]
  by_cases h0:bt<0
  ·clear hb
   go_enter Tryz.func4,Tryz.ntmps4
   go_wp2_with (first
    | ((with_reducible refine jt 1 27 (.tmp 0) (#[.int .i64 bt]:Array Value) ?_ ?_ ?_ ?_ ?_);rfl;rfl;kernel_rfl;rfl;intro w1 b1 H1;have hzc:=show w1.cell? ⟨b1,0,none⟩=some (.int .i64 bt) from (by rw [j9 H1.o.2.2.1];rfl))
    | (go_at_call 8;refine (ma w1).mono ?_;rintro e w2 ⟨m2,rfl,q1,q2,q3⟩;have H2:=hid (⟨q1,q2,q3⟩:_∧_∧_);clear q1 q2 q3))
   go_ret
   exact ⟨m2,rfl,by have:=H2.o.1;have:=H1.o.2.2.2;have:=H1.o.1;omega,H2.o.2.1,G.trans H1.o.2.1 H2.o.2.2⟩
  ·have h1:256≤bt:=by omega
   clear hb
   go_enter Tryz.func4,Tryz.ntmps4
   go_wp2_with (first
    | ((with_reducible refine jt 1 27 (.tmp 0) (#[.int .i64 bt]:Array Value) ?_ ?_ ?_ ?_ ?_);rfl;rfl;kernel_rfl;rfl;intro w1 b1 H1;have hzc:=show w1.cell? ⟨b1,0,none⟩=some (.int .i64 bt) from (by rw [j9 H1.o.2.2.1];rfl))
    | (go_at_call 8;refine (ma w1).mono ?_;rintro e w2 ⟨m2,rfl,q1,q2,q3⟩;have H2:=hid (⟨q1,q2,q3⟩:_∧_∧_);clear q1 q2 q3))
   go_ret
   exact ⟨m2,rfl,by have:=H2.o.1;have:=H1.o.2.2.2;have:=H1.o.1;omega,H2.o.2.1,G.trans H1.o.2.1 H2.o.2.2⟩
 ·rw [if_neg hb]
  have h0:¬ bt<0:=by omega
  have h1:¬ 256≤bt:=by omega
  clear hb
  go_enter Tryz.func4,Tryz.ntmps4
  go_wp2_with (first
   | ((with_reducible refine jt 1 27 (.tmp 0) (#[.int .i64 bt]:Array Value) ?_ ?_ ?_ ?_ ?_);rfl;rfl;kernel_rfl;rfl;intro w1 b1 H1;have hzc:=show w1.cell? ⟨b1,0,none⟩=some (.int .i64 bt) from (by rw [j9 H1.o.2.2.1];rfl))
   | ((with_reducible refine jE 12 27 (.tmp 1) b1 0 (#[.int .i64 bt]:Array Value) _ ?_ ?_ ?_ ?_ ?_ Tryz.underlying27 ?_ ?_ ?_);rfl;rfl;kernel_rfl;rfl;exact Lies.of_heap H1.o.2.2.1;rfl;exact zC)
   | (go_at_call 8;refine (a2W bt w1).mono ?_;rintro e w2 ⟨m2,rfl,q1,q2,q3⟩;have H2:=hid (⟨q1,q2,q3⟩:_∧_∧_);clear q1 q2 q3))
  go_ret
  exact ⟨m2,rfl,by have:=H2.o.1;have:=H1.o.2.2.2;have:=H1.o.1;omega,H2.o.2.1,G.trans H1.o.2.1 H2.o.2.2⟩
end Go.Proofs.YtdeanahpiigonaaGreatDoor
