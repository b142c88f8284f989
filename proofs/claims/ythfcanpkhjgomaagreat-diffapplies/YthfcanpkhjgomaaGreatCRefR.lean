import Derived.Test.YthfcanpkhjgomaaGreatCTurn
import Derived.Test.YthfcanpkhjgomaaGreatVf
import Derived.Test.YthfcanpkhjgomaaGreatRefSplit
set_option maxRecDepth 100000
set_option maxHeartbeats 8000000
namespace Go.Proofs.YthfcanpkhjgomaaGreat.Ch
open Go.RowKit
theorem path_any (s:ByteArray) (w:World) (hs:s.size≤1048576):Calls Tryz.prog 73 #[.string s] w fun e w'=>e=.returned (.bool (decide (splitE (tl s) 64=0)))∧Below w.heap.size w w':=by
 have C:=hid (refSplit_any s 64 w hs)
 obtain ⟨se,hse⟩:∃ se,splitE (tl s) 64=se:=⟨_,rfl⟩
 rw [hse] at C ⊢
 clear hse
 by_cases h:se=0
 ·subst h
  go_enter Tryz.func73,Tryz.ntmps73
  go_wp2_with (go_at_call 108;refine C.out.mono ?_;rintro e w2 ⟨⟨sv,SL,rfl,_,_⟩,hb2⟩)
  go_ret
  exact ⟨rfl,hb2⟩
 ·have h1:(se==0)=false:=by simpa using h
  have h2:decide (se=0)=false:=by simpa using h
  rw [h2]
  go_enter Tryz.func73,Tryz.ntmps73
  go_wp2_with (go_at_call 108;refine C.out.mono ?_;rintro e w2 ⟨⟨sv,SL,rfl,_,_⟩,hb2⟩)
  go_ret
  exact ⟨rfl,hb2⟩
noncomputable abbrev o31x4:Array Oper:=opsAt Tryz.f31 4
theorem backR:backB o31x4=true:=by kernel_rfl
theorem dstR:dstB o31x4 49=true:=by kernel_rfl
theorem sizeR:o31x4.size=39:=by kernel_rfl
theorem freeR0:freeB o31x4 0=true:=by kernel_rfl
theorem freeR3:freeB o31x4 3=true:=by kernel_rfl
theorem sR_0:say o31x4 0=some (some 10,.move (.tmp 0),none):=by kernel_rfl
theorem dR_0:slotB o31x4 0=some 10:=by kernel_rfl
theorem sR_1:say o31x4 1=some (some 11,.move (.tmp 3),none):=by kernel_rfl
theorem dR_1:slotB o31x4 1=some 11:=by kernel_rfl
theorem sR_2:say o31x4 2=some (some 12,.indexAddr 31 (.tmp 10) (.tmp 11),none):=by kernel_rfl
theorem dR_2:slotB o31x4 2=some 12:=by kernel_rfl
theorem sR_3:say o31x4 3=some (some 13,.fieldAddr 66 (.tmp 12) 0,none):=by kernel_rfl
theorem dR_3:slotB o31x4 3=some 13:=by kernel_rfl
theorem sR_4:say o31x4 4=some (some 14,.load 9 (.tmp 13),none):=by kernel_rfl
theorem dR_4:slotB o31x4 4=some 14:=by kernel_rfl
theorem sR_5:say o31x4 5=some (some 15,.call { callee:=.value (.func 73),args:=#[.tmp 14],argTypes:=#[9] },none):=by kernel_rfl
theorem dR_5:slotB o31x4 5=some 15:=by kernel_rfl
theorem sR_6:say o31x4 6=some (some 16,.unOp .not 4 (.tmp 15),none):=by kernel_rfl
theorem dR_6:slotB o31x4 6=some 16:=by kernel_rfl
theorem sR_7:say o31x4 7=some (some 17,.move (.tmp 16),none):=by kernel_rfl
theorem jm:slotB o31x4 7=some 17:=by kernel_rfl
theorem sR_8:say o31x4 8=some (some 18,.move (.tmp 0),some (7,false)):=by kernel_rfl
theorem dR_8:slotB o31x4 8=some 18:=by kernel_rfl
theorem sR_9:say o31x4 9=some (some 19,.move (.tmp 3),some (7,false)):=by kernel_rfl
theorem dR_9:slotB o31x4 9=some 19:=by kernel_rfl
theorem sR_10:say o31x4 10=some (some 20,.indexAddr 31 (.tmp 18) (.tmp 19),some (7,false)):=by kernel_rfl
theorem dR_10:slotB o31x4 10=some 20:=by kernel_rfl
theorem sR_11:say o31x4 11=some (some 21,.fieldAddr 66 (.tmp 20) 1,some (7,false)):=by kernel_rfl
theorem dR_11:slotB o31x4 11=some 21:=by kernel_rfl
theorem sR_12:say o31x4 12=some (some 22,.load 24 (.tmp 21),some (7,false)):=by kernel_rfl
theorem dR_12:slotB o31x4 12=some 22:=by kernel_rfl
theorem sR_13:say o31x4 13=some (some 23,.move (.tmp 0),some (7,false)):=by kernel_rfl
theorem dR_13:slotB o31x4 13=some 23:=by kernel_rfl
theorem sR_14:say o31x4 14=some (some 24,.move (.tmp 3),some (7,false)):=by kernel_rfl
theorem dR_14:slotB o31x4 14=some 24:=by kernel_rfl
theorem sR_15:say o31x4 15=some (some 25,.indexAddr 31 (.tmp 23) (.tmp 24),some (7,false)):=by kernel_rfl
theorem dR_15:slotB o31x4 15=some 25:=by kernel_rfl
theorem sR_16:say o31x4 16=some (some 26,.fieldAddr 66 (.tmp 25) 2,some (7,false)):=by kernel_rfl
theorem dR_16:slotB o31x4 16=some 26:=by kernel_rfl
theorem sR_17:say o31x4 17=some (some 27,.load 24 (.tmp 26),some (7,false)):=by kernel_rfl
theorem dR_17:slotB o31x4 17=some 27:=by kernel_rfl
theorem sR_18:say o31x4 18=some (some 28,.binOp .eql 24 (.tmp 22) (.tmp 27) 24,some (7,false)):=by kernel_rfl
theorem dR_18:slotB o31x4 18=some 28:=by kernel_rfl
theorem sR_19:say o31x4 19=some (some 29,.pick (.tmp 17) (.const (.bool true)) (.tmp 28),none):=by kernel_rfl
theorem dR_19:slotB o31x4 19=some 29:=by kernel_rfl
theorem sR_20:say o31x4 20=some (some 30,.move (.tmp 29),none):=by kernel_rfl
theorem jr:slotB o31x4 20=some 30:=by kernel_rfl
theorem sR_21:say o31x4 21=some (some 31,.move (.tmp 3),some (20,false)):=by kernel_rfl
theorem dR_21:slotB o31x4 21=some 31:=by kernel_rfl
theorem sR_22:say o31x4 22=some (some 32,.binOp .gtr 3 (.tmp 31) (.const (.int .i64 0)) 3,some (20,false)):=by kernel_rfl
theorem dR_22:slotB o31x4 22=some 32:=by kernel_rfl
theorem sR_23:say o31x4 23=some (some 33,.move (.tmp 32),some (20,false)):=by kernel_rfl
theorem jS:slotB o31x4 23=some 33:=by kernel_rfl
theorem sR_24:say o31x4 24=some (some 34,.move (.tmp 0),some (23,true)):=by kernel_rfl
theorem dR_24:slotB o31x4 24=some 34:=by kernel_rfl
theorem sR_25:say o31x4 25=some (some 35,.move (.tmp 3),some (23,true)):=by kernel_rfl
theorem dR_25:slotB o31x4 25=some 35:=by kernel_rfl
theorem sR_26:say o31x4 26=some (some 36,.binOp .sub 3 (.tmp 35) (.const (.int .i64 1)) 3,some (23,true)):=by kernel_rfl
theorem dR_26:slotB o31x4 26=some 36:=by kernel_rfl
theorem sR_27:say o31x4 27=some (some 37,.indexAddr 31 (.tmp 34) (.tmp 36),some (23,true)):=by kernel_rfl
theorem dR_27:slotB o31x4 27=some 37:=by kernel_rfl
theorem sR_28:say o31x4 28=some (some 38,.fieldAddr 66 (.tmp 37) 0,some (23,true)):=by kernel_rfl
theorem dR_28:slotB o31x4 28=some 38:=by kernel_rfl
theorem sR_29:say o31x4 29=some (some 39,.load 9 (.tmp 38),some (23,true)):=by kernel_rfl
theorem dR_29:slotB o31x4 29=some 39:=by kernel_rfl
theorem sR_30:say o31x4 30=some (some 40,.move (.tmp 0),some (23,true)):=by kernel_rfl
theorem dR_30:slotB o31x4 30=some 40:=by kernel_rfl
theorem sR_31:say o31x4 31=some (some 41,.move (.tmp 3),some (23,true)):=by kernel_rfl
theorem dR_31:slotB o31x4 31=some 41:=by kernel_rfl
theorem sR_32:say o31x4 32=some (some 42,.indexAddr 31 (.tmp 40) (.tmp 41),some (23,true)):=by kernel_rfl
theorem dR_32:slotB o31x4 32=some 42:=by kernel_rfl
theorem sR_33:say o31x4 33=some (some 43,.fieldAddr 66 (.tmp 42) 0,some (23,true)):=by kernel_rfl
theorem dR_33:slotB o31x4 33=some 43:=by kernel_rfl
theorem sR_34:say o31x4 34=some (some 44,.load 9 (.tmp 43),some (23,true)):=by kernel_rfl
theorem dR_34:slotB o31x4 34=some 44:=by kernel_rfl
theorem sR_35:say o31x4 35=some (some 45,.call { callee:=.value (.func 34),args:=#[.tmp 39,.tmp 44],argTypes:=#[9,9] },some (23,true)):=by kernel_rfl
theorem dR_35:slotB o31x4 35=some 45:=by kernel_rfl
theorem sR_36:say o31x4 36=some (some 46,.binOp .geq 3 (.tmp 45) (.const (.int .i64 0)) 3,some (23,true)):=by kernel_rfl
theorem dR_36:slotB o31x4 36=some 46:=by kernel_rfl
theorem sR_37:say o31x4 37=some (some 47,.pick (.tmp 33) (.tmp 46) (.const (.bool false)),some (20,false)):=by kernel_rfl
theorem dR_37:slotB o31x4 37=some 47:=by kernel_rfl
theorem sR_38:say o31x4 38=some (some 48,.pick (.tmp 30) (.const (.bool true)) (.tmp 47),none):=by kernel_rfl
def VRA (ga oa n cp k:Nat) (r:Cd):Nat→Value
 | 0=>.slice (some ⟨ga,oa,none⟩) n cp
 | 1=>.int .i64 (k:Int)
 | 2=>.pointer (some ⟨ga,oa+k*71,none⟩)
 | 3=>.pointer (some ⟨ga,oa+k*71,none⟩)
 | 4=>.string r.path
 | 5=>.bool false
 | 6=>.bool true
 | 7=>.bool true
 | 8=>undef
 | 9=>undef
 | 10=>undef
 | 11=>undef
 | 12=>undef
 | 13=>undef
 | 14=>undef
 | 15=>undef
 | 16=>undef
 | 17=>undef
 | 18=>undef
 | 19=>.bool true
 | 20=>.bool true
 | 21=>undef
 | 22=>undef
 | 23=>undef
 | 24=>undef
 | 25=>undef
 | 26=>undef
 | 27=>undef
 | 28=>undef
 | 29=>undef
 | 30=>undef
 | 31=>undef
 | 32=>undef
 | 33=>undef
 | 34=>undef
 | 35=>undef
 | 36=>undef
 | 37=>undef
 | 38=>.bool true
 | _=>undef
theorem regRA (ga oa n cp k:Nat) (r:Cd)  (t0:Array Value) (wr:World) {Q:Exit→Act→World→Prop} (ht:t0.size=49) (h0:t0.getD 0 undef=.slice (some ⟨ga,oa,none⟩) n cp) (h3:t0.getD 3 undef=.int .i64 (k:Int))
  (hk:k<n) (lr:Lies wr ga (oa+k*71) (cc r)) (sr:r.path.size≤1048576) (hpe:decide (splitE (tl r.path) 64=0)=false)
  (hQ:∀ w,Below wr.heap.size wr w→Q .normal ⟨fold o31x4 (VRA ga oa n cp k r) t0 39,[]⟩ w):(Code.region 4 o31x4 true).wp Tryz.prog Q ⟨t0,[]⟩ wr:=by
 have hB:dstB o31x4 t0.size=true:=by rw [ht];exact dstR
 have kI:(k:Int)<(n:Int):=by omega
 have k0:(0:Int)≤(k:Int):=by omega
 have h0M:Below wr.heap.size wr wr.drew:=(Below.refl _ wr).drew
 refine jk (by kernel_rfl) (IV o31x4 (VRA ga oa n cp k r) t0 (fun _ w=>Below wr.heap.size wr w)) backR ⟨t0,rfl,⟨rfl,fun _ _=>rfl,fun _ _ _ _ _ h=>by cases h⟩,h0M⟩ ?_ ?_
 rotate_left 1
 ·rintro done a w ⟨t,rfl,hS,hw⟩ hall
  rw [hS.end hB hall,sizeR]
  exact hQ w hw
 ·rintro j op done a w ho ⟨t,rfl,hS,hw⟩ hnd hdep hcl
  have e0:t[0]?.getD undef=.slice (some ⟨ga,oa,none⟩) n cp:=(hS.old freeR0).trans h0
  have e3:t[3]?.getD undef=.int .i64 (k:Int):=(hS.old freeR3).trans h3
  have hlt:j<39:=by rw [← sizeR];exact (Array.getElem?_eq_some_iff.1 ho).1
  match j,hlt,ho,hnd,hdep with
  | 0,_,ho,hnd,hdep=>
   obtain ⟨hd,hop,hgd⟩:=jC sR_0 ho
   refine jF hB ho (jB hgd) hd hS hw ?_
   unfold execOp
   simp only [hop]
   simp [e0,VRA,go_sem]
  | 1,_,ho,hnd,hdep=>
   obtain ⟨hd,hop,hgd⟩:=jC sR_1 ho
   refine jF hB ho (jB hgd) hd hS hw ?_
   unfold execOp
   simp only [hop]
   simp [e3,VRA,go_sem]
  | 2,_,ho,hnd,hdep=>
   obtain ⟨hd,hop,hgd⟩:=jC sR_2 ho
   have x10:=hS.gt dR_0 ho hdep
   simp only [VRA] at x10
   have x11:=hS.gt dR_1 ho hdep
   simp only [VRA] at x11
   refine jF hB ho (jB hgd) hd hS hw ?_
   unfold execOp
   simp only [hop]
   simp [x10,x11,VRA,kI,k0,addr_add,go_sem]
  | 3,_,ho,hnd,hdep=>
   obtain ⟨hd,hop,hgd⟩:=jC sR_3 ho
   have x12:=hS.gt dR_2 ho hdep
   simp only [VRA] at x12
   refine jF hB ho (jB hgd) hd hS hw ?_
   unfold execOp
   simp only [hop]
   simp [x12,VRA,go_sem]
  | 4,_,ho,hnd,hdep=>
   obtain ⟨hd,hop,hgd⟩:=jC sR_4 ho
   have x13:=hS.gt dR_3 ho hdep
   simp only [VRA] at x13
   refine jF hB ho (jB hgd) hd hS hw ?_
   have cP:=((lr.below hw).path)
   unfold execOp
   simp only [hop]
   simp [x13,cP,VRA,go_sem]
  | 5,_,ho,hnd,hdep=>
   obtain ⟨hd,hop,hgd⟩:=jC sR_5 ho
   have x14:=hS.gt dR_4 ho hdep
   simp only [VRA] at x14
   refine iv_callG 73 #[.string r.path] hB ho (jB hgd) hd hS ?_ ?_
   ·skip
    unfold execOp
    simp only [hop]
    simp [x14,go_sem]
   ·exact (path_any r.path w sr).mono fun e w2 h=>⟨by rw [h.1,hpe];rfl,Below.up hw h.2⟩
  | 6,_,ho,hnd,hdep=>
   obtain ⟨hd,hop,hgd⟩:=jC sR_6 ho
   have x15:=hS.gt dR_5 ho hdep
   simp only [VRA] at x15
   refine jF hB ho (jB hgd) hd hS hw ?_
   unfold execOp
   simp only [hop]
   simp [x15,VRA,go_sem]
  | 7,_,ho,hnd,hdep=>
   obtain ⟨hd,hop,hgd⟩:=jC sR_7 ho
   have x16:=hS.gt dR_6 ho hdep
   simp only [VRA] at x16
   refine jF hB ho (jB hgd) hd hS hw ?_
   unfold execOp
   simp only [hop]
   simp [x16,VRA,go_sem]
  | 8,_,ho,hnd,hdep=>
   obtain ⟨hd,hop,hgd⟩:=jC sR_8 ho
   have gx:=hS.gt jm ho hdep
   simp only [VRA] at gx
   exact jW hB ho (jL hgd jm gx rfl) hd hS hw rfl
  | 9,_,ho,hnd,hdep=>
   obtain ⟨hd,hop,hgd⟩:=jC sR_9 ho
   have gx:=hS.gt jm ho hdep
   simp only [VRA] at gx
   exact jW hB ho (jL hgd jm gx rfl) hd hS hw rfl
  | 10,_,ho,hnd,hdep=>
   obtain ⟨hd,hop,hgd⟩:=jC sR_10 ho
   have gx:=hS.gt jm ho hdep
   simp only [VRA] at gx
   exact jW hB ho (jL hgd jm gx rfl) hd hS hw rfl
  | 11,_,ho,hnd,hdep=>
   obtain ⟨hd,hop,hgd⟩:=jC sR_11 ho
   have gx:=hS.gt jm ho hdep
   simp only [VRA] at gx
   exact jW hB ho (jL hgd jm gx rfl) hd hS hw rfl
  | 12,_,ho,hnd,hdep=>
   obtain ⟨hd,hop,hgd⟩:=jC sR_12 ho
   have gx:=hS.gt jm ho hdep
   simp only [VRA] at gx
   exact jW hB ho (jL hgd jm gx rfl) hd hS hw rfl
  | 13,_,ho,hnd,hdep=>
   obtain ⟨hd,hop,hgd⟩:=jC sR_13 ho
   have gx:=hS.gt jm ho hdep
   simp only [VRA] at gx
   exact jW hB ho (jL hgd jm gx rfl) hd hS hw rfl
  | 14,_,ho,hnd,hdep=>
   obtain ⟨hd,hop,hgd⟩:=jC sR_14 ho
   have gx:=hS.gt jm ho hdep
   simp only [VRA] at gx
   exact jW hB ho (jL hgd jm gx rfl) hd hS hw rfl
  | 15,_,ho,hnd,hdep=>
   obtain ⟨hd,hop,hgd⟩:=jC sR_15 ho
   have gx:=hS.gt jm ho hdep
   simp only [VRA] at gx
   exact jW hB ho (jL hgd jm gx rfl) hd hS hw rfl
  | 16,_,ho,hnd,hdep=>
   obtain ⟨hd,hop,hgd⟩:=jC sR_16 ho
   have gx:=hS.gt jm ho hdep
   simp only [VRA] at gx
   exact jW hB ho (jL hgd jm gx rfl) hd hS hw rfl
  | 17,_,ho,hnd,hdep=>
   obtain ⟨hd,hop,hgd⟩:=jC sR_17 ho
   have gx:=hS.gt jm ho hdep
   simp only [VRA] at gx
   exact jW hB ho (jL hgd jm gx rfl) hd hS hw rfl
  | 18,_,ho,hnd,hdep=>
   obtain ⟨hd,hop,hgd⟩:=jC sR_18 ho
   have gx:=hS.gt jm ho hdep
   simp only [VRA] at gx
   exact jW hB ho (jL hgd jm gx rfl) hd hS hw rfl
  | 19,_,ho,hnd,hdep=>
   obtain ⟨hd,hop,hgd⟩:=jC sR_19 ho
   have x17:=hS.gt jm ho hdep
   simp only [VRA] at x17
   refine jF hB ho (jB hgd) hd hS hw ?_
   unfold execOp
   simp only [hop]
   simp [x17,VRA,go_sem]
  | 20,_,ho,hnd,hdep=>
   obtain ⟨hd,hop,hgd⟩:=jC sR_20 ho
   have x29:=hS.gt dR_19 ho hdep
   simp only [VRA] at x29
   refine jF hB ho (jB hgd) hd hS hw ?_
   unfold execOp
   simp only [hop]
   simp [x29,VRA,go_sem]
  | 21,_,ho,hnd,hdep=>
   obtain ⟨hd,hop,hgd⟩:=jC sR_21 ho
   have gx:=hS.gt jr ho hdep
   simp only [VRA] at gx
   exact jW hB ho (jL hgd jr gx rfl) hd hS hw rfl
  | 22,_,ho,hnd,hdep=>
   obtain ⟨hd,hop,hgd⟩:=jC sR_22 ho
   have gx:=hS.gt jr ho hdep
   simp only [VRA] at gx
   exact jW hB ho (jL hgd jr gx rfl) hd hS hw rfl
  | 23,_,ho,hnd,hdep=>
   obtain ⟨hd,hop,hgd⟩:=jC sR_23 ho
   have gx:=hS.gt jr ho hdep
   simp only [VRA] at gx
   exact jW hB ho (jL hgd jr gx rfl) hd hS hw rfl
  | 24,_,ho,hnd,hdep=>
   obtain ⟨hd,hop,hgd⟩:=jC sR_24 ho
   have gx:=hS.gt jS ho hdep
   simp only [VRA] at gx
   exact jW hB ho (jc hgd jS gx) hd hS hw rfl
  | 25,_,ho,hnd,hdep=>
   obtain ⟨hd,hop,hgd⟩:=jC sR_25 ho
   have gx:=hS.gt jS ho hdep
   simp only [VRA] at gx
   exact jW hB ho (jc hgd jS gx) hd hS hw rfl
  | 26,_,ho,hnd,hdep=>
   obtain ⟨hd,hop,hgd⟩:=jC sR_26 ho
   have gx:=hS.gt jS ho hdep
   simp only [VRA] at gx
   exact jW hB ho (jc hgd jS gx) hd hS hw rfl
  | 27,_,ho,hnd,hdep=>
   obtain ⟨hd,hop,hgd⟩:=jC sR_27 ho
   have gx:=hS.gt jS ho hdep
   simp only [VRA] at gx
   exact jW hB ho (jc hgd jS gx) hd hS hw rfl
  | 28,_,ho,hnd,hdep=>
   obtain ⟨hd,hop,hgd⟩:=jC sR_28 ho
   have gx:=hS.gt jS ho hdep
   simp only [VRA] at gx
   exact jW hB ho (jc hgd jS gx) hd hS hw rfl
  | 29,_,ho,hnd,hdep=>
   obtain ⟨hd,hop,hgd⟩:=jC sR_29 ho
   have gx:=hS.gt jS ho hdep
   simp only [VRA] at gx
   exact jW hB ho (jc hgd jS gx) hd hS hw rfl
  | 30,_,ho,hnd,hdep=>
   obtain ⟨hd,hop,hgd⟩:=jC sR_30 ho
   have gx:=hS.gt jS ho hdep
   simp only [VRA] at gx
   exact jW hB ho (jc hgd jS gx) hd hS hw rfl
  | 31,_,ho,hnd,hdep=>
   obtain ⟨hd,hop,hgd⟩:=jC sR_31 ho
   have gx:=hS.gt jS ho hdep
   simp only [VRA] at gx
   exact jW hB ho (jc hgd jS gx) hd hS hw rfl
  | 32,_,ho,hnd,hdep=>
   obtain ⟨hd,hop,hgd⟩:=jC sR_32 ho
   have gx:=hS.gt jS ho hdep
   simp only [VRA] at gx
   exact jW hB ho (jc hgd jS gx) hd hS hw rfl
  | 33,_,ho,hnd,hdep=>
   obtain ⟨hd,hop,hgd⟩:=jC sR_33 ho
   have gx:=hS.gt jS ho hdep
   simp only [VRA] at gx
   exact jW hB ho (jc hgd jS gx) hd hS hw rfl
  | 34,_,ho,hnd,hdep=>
   obtain ⟨hd,hop,hgd⟩:=jC sR_34 ho
   have gx:=hS.gt jS ho hdep
   simp only [VRA] at gx
   exact jW hB ho (jc hgd jS gx) hd hS hw rfl
  | 35,_,ho,hnd,hdep=>
   obtain ⟨hd,hop,hgd⟩:=jC sR_35 ho
   have gx:=hS.gt jS ho hdep
   simp only [VRA] at gx
   exact jW hB ho (jc hgd jS gx) hd hS hw rfl
  | 36,_,ho,hnd,hdep=>
   obtain ⟨hd,hop,hgd⟩:=jC sR_36 ho
   have gx:=hS.gt jS ho hdep
   simp only [VRA] at gx
   exact jW hB ho (jc hgd jS gx) hd hS hw rfl
  | 37,_,ho,hnd,hdep=>
   obtain ⟨hd,hop,hgd⟩:=jC sR_37 ho
   have gx:=hS.gt jr ho hdep
   simp only [VRA] at gx
   exact jW hB ho (jL hgd jr gx rfl) hd hS hw rfl
  | 38,_,ho,hnd,hdep=>
   obtain ⟨hd,hop,hgd⟩:=jC sR_38 ho
   have x30:=hS.gt jr ho hdep
   simp only [VRA] at x30
   refine jF hB ho (jB hgd) hd hS hw ?_
   unfold execOp
   simp only [hop]
   simp [x30,VRA,go_sem]
theorem foldRA (ga oa n cp k:Nat) (r:Cd) (t0:Array Value):fold o31x4 (VRA ga oa n cp k r) t0 39=(((((((((((((((((((((((((((((((((((((((t0.setIfInBounds 10 (.slice (some ⟨ga,oa,none⟩) n cp)).setIfInBounds 11 (.int .i64 (k:Int))).setIfInBounds 12 (.pointer (some ⟨ga,oa+k*71,none⟩))).setIfInBounds 13 (.pointer (some ⟨ga,oa+k*71,none⟩))).setIfInBounds 14 (.string r.path)).setIfInBounds 15 (.bool false)).setIfInBounds 16 (.bool true)).setIfInBounds 17 (.bool true)).setIfInBounds 18 (undef)).setIfInBounds 19 (undef)).setIfInBounds 20 (undef)).setIfInBounds 21 (undef)).setIfInBounds 22 (undef)).setIfInBounds 23 (undef)).setIfInBounds 24 (undef)).setIfInBounds 25 (undef)).setIfInBounds 26 (undef)).setIfInBounds 27 (undef)).setIfInBounds 28 (undef)).setIfInBounds 29 (.bool true)).setIfInBounds 30 (.bool true)).setIfInBounds 31 (undef)).setIfInBounds 32 (undef)).setIfInBounds 33 (undef)).setIfInBounds 34 (undef)).setIfInBounds 35 (undef)).setIfInBounds 36 (undef)).setIfInBounds 37 (undef)).setIfInBounds 38 (undef)).setIfInBounds 39 (undef)).setIfInBounds 40 (undef)).setIfInBounds 41 (undef)).setIfInBounds 42 (undef)).setIfInBounds 43 (undef)).setIfInBounds 44 (undef)).setIfInBounds 45 (undef)).setIfInBounds 46 (undef)).setIfInBounds 47 (undef)).setIfInBounds 48 (.bool true)):=by kernel_rfl
def VRB (ga oa n cp k:Nat) (r:Cd) (YO YN:Array Value):Nat→Value
 | 0=>.slice (some ⟨ga,oa,none⟩) n cp
 | 1=>.int .i64 (k:Int)
 | 2=>.pointer (some ⟨ga,oa+k*71,none⟩)
 | 3=>.pointer (some ⟨ga,oa+k*71,none⟩)
 | 4=>.string r.path
 | 5=>.bool true
 | 6=>.bool false
 | 7=>.bool false
 | 8=>.slice (some ⟨ga,oa,none⟩) n cp
 | 9=>.int .i64 (k:Int)
 | 10=>.pointer (some ⟨ga,oa+k*71,none⟩)
 | 11=>.pointer (some ⟨ga,oa+k*71+1,none⟩)
 | 12=>.agg YO
 | 13=>.slice (some ⟨ga,oa,none⟩) n cp
 | 14=>.int .i64 (k:Int)
 | 15=>.pointer (some ⟨ga,oa+k*71,none⟩)
 | 16=>.pointer (some ⟨ga,oa+k*71+36,none⟩)
 | 17=>.agg YN
 | 18=>.bool true
 | 19=>.bool true
 | 20=>.bool true
 | 21=>undef
 | 22=>undef
 | 23=>undef
 | 24=>undef
 | 25=>undef
 | 26=>undef
 | 27=>undef
 | 28=>undef
 | 29=>undef
 | 30=>undef
 | 31=>undef
 | 32=>undef
 | 33=>undef
 | 34=>undef
 | 35=>undef
 | 36=>undef
 | 37=>undef
 | 38=>.bool true
 | _=>undef
theorem regRB (ga oa n cp k:Nat) (r:Cd) (YO YN:Array Value)  (t0:Array Value) (wr:World) {Q:Exit→Act→World→Prop} (ht:t0.size=49) (h0:t0.getD 0 undef=.slice (some ⟨ga,oa,none⟩) n cp) (h3:t0.getD 3 undef=.int .i64 (k:Int))
  (hk:k<n) (lr:Lies wr ga (oa+k*71) (cc r)) (sr:r.path.size≤1048576) (hpe:decide (splitE (tl r.path) 64=0)=true) (hO:YO=(vx r.old).toArray) (hN:YN=(vx r.new).toArray) (hb:decide (r.old=r.new)=true)
  (hQ:∀ w,Below wr.heap.size wr w→Q .normal ⟨fold o31x4 (VRB ga oa n cp k r YO YN) t0 39,[]⟩ w):(Code.region 4 o31x4 true).wp Tryz.prog Q ⟨t0,[]⟩ wr:=by
 have hB:dstB o31x4 t0.size=true:=by rw [ht];exact dstR
 have kI:(k:Int)<(n:Int):=by omega
 have k0:(0:Int)≤(k:Int):=by omega
 have h0M:Below wr.heap.size wr wr.drew:=(Below.refl _ wr).drew
 have sO:YO.size=35:=by rw [hO];simp [jQ]
 have sN:YN.size=35:=by rw [hN];simp [jQ]
 have lO:Lies wr ga (oa+k*71+1) YO:=by rw [hO];exact lr.old
 have lN:Lies wr ga (oa+k*71+36) YN:=by rw [hN];exact lr.new
 refine jk (by kernel_rfl) (IV o31x4 (VRB ga oa n cp k r YO YN) t0 (fun _ w=>Below wr.heap.size wr w)) backR ⟨t0,rfl,⟨rfl,fun _ _=>rfl,fun _ _ _ _ _ h=>by cases h⟩,h0M⟩ ?_ ?_
 rotate_left 1
 ·rintro done a w ⟨t,rfl,hS,hw⟩ hall
  rw [hS.end hB hall,sizeR]
  exact hQ w hw
 ·rintro j op done a w ho ⟨t,rfl,hS,hw⟩ hnd hdep hcl
  have e0:t[0]?.getD undef=.slice (some ⟨ga,oa,none⟩) n cp:=(hS.old freeR0).trans h0
  have e3:t[3]?.getD undef=.int .i64 (k:Int):=(hS.old freeR3).trans h3
  have hlt:j<39:=by rw [← sizeR];exact (Array.getElem?_eq_some_iff.1 ho).1
  match j,hlt,ho,hnd,hdep with
  | 0,_,ho,hnd,hdep=>
   obtain ⟨hd,hop,hgd⟩:=jC sR_0 ho
   refine jF hB ho (jB hgd) hd hS hw ?_
   unfold execOp
   simp only [hop]
   simp [e0,VRB,go_sem]
  | 1,_,ho,hnd,hdep=>
   obtain ⟨hd,hop,hgd⟩:=jC sR_1 ho
   refine jF hB ho (jB hgd) hd hS hw ?_
   unfold execOp
   simp only [hop]
   simp [e3,VRB,go_sem]
  | 2,_,ho,hnd,hdep=>
   obtain ⟨hd,hop,hgd⟩:=jC sR_2 ho
   have x10:=hS.gt dR_0 ho hdep
   simp only [VRB] at x10
   have x11:=hS.gt dR_1 ho hdep
   simp only [VRB] at x11
   refine jF hB ho (jB hgd) hd hS hw ?_
   unfold execOp
   simp only [hop]
   simp [x10,x11,VRB,kI,k0,addr_add,go_sem]
  | 3,_,ho,hnd,hdep=>
   obtain ⟨hd,hop,hgd⟩:=jC sR_3 ho
   have x12:=hS.gt dR_2 ho hdep
   simp only [VRB] at x12
   refine jF hB ho (jB hgd) hd hS hw ?_
   unfold execOp
   simp only [hop]
   simp [x12,VRB,go_sem]
  | 4,_,ho,hnd,hdep=>
   obtain ⟨hd,hop,hgd⟩:=jC sR_4 ho
   have x13:=hS.gt dR_3 ho hdep
   simp only [VRB] at x13
   refine jF hB ho (jB hgd) hd hS hw ?_
   have cP:=((lr.below hw).path)
   unfold execOp
   simp only [hop]
   simp [x13,cP,VRB,go_sem]
  | 5,_,ho,hnd,hdep=>
   obtain ⟨hd,hop,hgd⟩:=jC sR_5 ho
   have x14:=hS.gt dR_4 ho hdep
   simp only [VRB] at x14
   refine iv_callG 73 #[.string r.path] hB ho (jB hgd) hd hS ?_ ?_
   ·skip
    unfold execOp
    simp only [hop]
    simp [x14,go_sem]
   ·exact (path_any r.path w sr).mono fun e w2 h=>⟨by rw [h.1,hpe];rfl,Below.up hw h.2⟩
  | 6,_,ho,hnd,hdep=>
   obtain ⟨hd,hop,hgd⟩:=jC sR_6 ho
   have x15:=hS.gt dR_5 ho hdep
   simp only [VRB] at x15
   refine jF hB ho (jB hgd) hd hS hw ?_
   unfold execOp
   simp only [hop]
   simp [x15,VRB,go_sem]
  | 7,_,ho,hnd,hdep=>
   obtain ⟨hd,hop,hgd⟩:=jC sR_7 ho
   have x16:=hS.gt dR_6 ho hdep
   simp only [VRB] at x16
   refine jF hB ho (jB hgd) hd hS hw ?_
   unfold execOp
   simp only [hop]
   simp [x16,VRB,go_sem]
  | 8,_,ho,hnd,hdep=>
   obtain ⟨hd,hop,hgd⟩:=jC sR_8 ho
   have gx:=hS.gt jm ho hdep
   simp only [VRB] at gx
   refine jF hB ho (jD hgd jm gx) hd hS hw ?_
   unfold execOp
   simp only [hop]
   simp [e0,VRB,go_sem]
  | 9,_,ho,hnd,hdep=>
   obtain ⟨hd,hop,hgd⟩:=jC sR_9 ho
   have gx:=hS.gt jm ho hdep
   simp only [VRB] at gx
   refine jF hB ho (jD hgd jm gx) hd hS hw ?_
   unfold execOp
   simp only [hop]
   simp [e3,VRB,go_sem]
  | 10,_,ho,hnd,hdep=>
   obtain ⟨hd,hop,hgd⟩:=jC sR_10 ho
   have gx:=hS.gt jm ho hdep
   simp only [VRB] at gx
   have x18:=hS.gt dR_8 ho hdep
   simp only [VRB] at x18
   have x19:=hS.gt dR_9 ho hdep
   simp only [VRB] at x19
   refine jF hB ho (jD hgd jm gx) hd hS hw ?_
   unfold execOp
   simp only [hop]
   simp [x18,x19,VRB,kI,k0,addr_add,go_sem]
  | 11,_,ho,hnd,hdep=>
   obtain ⟨hd,hop,hgd⟩:=jC sR_11 ho
   have gx:=hS.gt jm ho hdep
   simp only [VRB] at gx
   have x20:=hS.gt dR_10 ho hdep
   simp only [VRB] at x20
   refine jF hB ho (jD hgd jm gx) hd hS hw ?_
   unfold execOp
   simp only [hop]
   simp [x20,VRB,go_sem]
  | 12,_,ho,hnd,hdep=>
   obtain ⟨hd,hop,hgd⟩:=jC sR_12 ho
   have gx:=hS.gt jm ho hdep
   simp only [VRB] at gx
   have x21:=hS.gt dR_11 ho hdep
   simp only [VRB] at x21
   refine jF hB ho (jD hgd jm gx) hd hS hw ?_
   exact jq (a:=⟨t,[]⟩) _ hop ga (oa+k*71+1) (by show t.getD 21 undef=_;rw [Array.getD_eq_getD_getElem?];exact x21) _ sO (lO.below hw)
  | 13,_,ho,hnd,hdep=>
   obtain ⟨hd,hop,hgd⟩:=jC sR_13 ho
   have gx:=hS.gt jm ho hdep
   simp only [VRB] at gx
   refine jF hB ho (jD hgd jm gx) hd hS hw ?_
   unfold execOp
   simp only [hop]
   simp [e0,VRB,go_sem]
  | 14,_,ho,hnd,hdep=>
   obtain ⟨hd,hop,hgd⟩:=jC sR_14 ho
   have gx:=hS.gt jm ho hdep
   simp only [VRB] at gx
   refine jF hB ho (jD hgd jm gx) hd hS hw ?_
   unfold execOp
   simp only [hop]
   simp [e3,VRB,go_sem]
  | 15,_,ho,hnd,hdep=>
   obtain ⟨hd,hop,hgd⟩:=jC sR_15 ho
   have gx:=hS.gt jm ho hdep
   simp only [VRB] at gx
   have x23:=hS.gt dR_13 ho hdep
   simp only [VRB] at x23
   have x24:=hS.gt dR_14 ho hdep
   simp only [VRB] at x24
   refine jF hB ho (jD hgd jm gx) hd hS hw ?_
   unfold execOp
   simp only [hop]
   simp [x23,x24,VRB,kI,k0,addr_add,go_sem]
  | 16,_,ho,hnd,hdep=>
   obtain ⟨hd,hop,hgd⟩:=jC sR_16 ho
   have gx:=hS.gt jm ho hdep
   simp only [VRB] at gx
   have x25:=hS.gt dR_15 ho hdep
   simp only [VRB] at x25
   refine jF hB ho (jD hgd jm gx) hd hS hw ?_
   unfold execOp
   simp only [hop]
   simp [x25,VRB,go_sem]
  | 17,_,ho,hnd,hdep=>
   obtain ⟨hd,hop,hgd⟩:=jC sR_17 ho
   have gx:=hS.gt jm ho hdep
   simp only [VRB] at gx
   have x26:=hS.gt dR_16 ho hdep
   simp only [VRB] at x26
   refine jF hB ho (jD hgd jm gx) hd hS hw ?_
   exact jq (a:=⟨t,[]⟩) _ hop ga (oa+k*71+36) (by show t.getD 26 undef=_;rw [Array.getD_eq_getD_getElem?];exact x26) _ sN (lN.below hw)
  | 18,_,ho,hnd,hdep=>
   obtain ⟨hd,hop,hgd⟩:=jC sR_18 ho
   have gx:=hS.gt jm ho hdep
   simp only [VRB] at gx
   have x22:=hS.gt dR_12 ho hdep
   simp only [VRB] at x22
   have x27:=hS.gt dR_17 ho hdep
   simp only [VRB] at x27
   refine jF hB ho (jD hgd jm gx) hd hS hw ?_
   exact exec_eq53' (a:=⟨t,[]⟩) _ _ hop YO YN (by show t.getD 22 undef=_;rw [Array.getD_eq_getD_getElem?];exact x22) (by show t.getD 27 undef=_;rw [Array.getD_eq_getD_getElem?];exact x27) r.old r.new hO hN _ hb _
  | 19,_,ho,hnd,hdep=>
   obtain ⟨hd,hop,hgd⟩:=jC sR_19 ho
   have x17:=hS.gt jm ho hdep
   simp only [VRB] at x17
   have x28:=hS.gt dR_18 ho hdep
   simp only [VRB] at x28
   refine jF hB ho (jB hgd) hd hS hw ?_
   unfold execOp
   simp only [hop]
   simp [x17,x28,VRB,go_sem]
  | 20,_,ho,hnd,hdep=>
   obtain ⟨hd,hop,hgd⟩:=jC sR_20 ho
   have x29:=hS.gt dR_19 ho hdep
   simp only [VRB] at x29
   refine jF hB ho (jB hgd) hd hS hw ?_
   unfold execOp
   simp only [hop]
   simp [x29,VRB,go_sem]
  | 21,_,ho,hnd,hdep=>
   obtain ⟨hd,hop,hgd⟩:=jC sR_21 ho
   have gx:=hS.gt jr ho hdep
   simp only [VRB] at gx
   exact jW hB ho (jL hgd jr gx rfl) hd hS hw rfl
  | 22,_,ho,hnd,hdep=>
   obtain ⟨hd,hop,hgd⟩:=jC sR_22 ho
   have gx:=hS.gt jr ho hdep
   simp only [VRB] at gx
   exact jW hB ho (jL hgd jr gx rfl) hd hS hw rfl
  | 23,_,ho,hnd,hdep=>
   obtain ⟨hd,hop,hgd⟩:=jC sR_23 ho
   have gx:=hS.gt jr ho hdep
   simp only [VRB] at gx
   exact jW hB ho (jL hgd jr gx rfl) hd hS hw rfl
  | 24,_,ho,hnd,hdep=>
   obtain ⟨hd,hop,hgd⟩:=jC sR_24 ho
   have gx:=hS.gt jS ho hdep
   simp only [VRB] at gx
   exact jW hB ho (jc hgd jS gx) hd hS hw rfl
  | 25,_,ho,hnd,hdep=>
   obtain ⟨hd,hop,hgd⟩:=jC sR_25 ho
   have gx:=hS.gt jS ho hdep
   simp only [VRB] at gx
   exact jW hB ho (jc hgd jS gx) hd hS hw rfl
  | 26,_,ho,hnd,hdep=>
   obtain ⟨hd,hop,hgd⟩:=jC sR_26 ho
   have gx:=hS.gt jS ho hdep
   simp only [VRB] at gx
   exact jW hB ho (jc hgd jS gx) hd hS hw rfl
  | 27,_,ho,hnd,hdep=>
   obtain ⟨hd,hop,hgd⟩:=jC sR_27 ho
   have gx:=hS.gt jS ho hdep
   simp only [VRB] at gx
   exact jW hB ho (jc hgd jS gx) hd hS hw rfl
  | 28,_,ho,hnd,hdep=>
   obtain ⟨hd,hop,hgd⟩:=jC sR_28 ho
   have gx:=hS.gt jS ho hdep
   simp only [VRB] at gx
   exact jW hB ho (jc hgd jS gx) hd hS hw rfl
  | 29,_,ho,hnd,hdep=>
   obtain ⟨hd,hop,hgd⟩:=jC sR_29 ho
   have gx:=hS.gt jS ho hdep
   simp only [VRB] at gx
   exact jW hB ho (jc hgd jS gx) hd hS hw rfl
  | 30,_,ho,hnd,hdep=>
   obtain ⟨hd,hop,hgd⟩:=jC sR_30 ho
   have gx:=hS.gt jS ho hdep
   simp only [VRB] at gx
   exact jW hB ho (jc hgd jS gx) hd hS hw rfl
  | 31,_,ho,hnd,hdep=>
   obtain ⟨hd,hop,hgd⟩:=jC sR_31 ho
   have gx:=hS.gt jS ho hdep
   simp only [VRB] at gx
   exact jW hB ho (jc hgd jS gx) hd hS hw rfl
  | 32,_,ho,hnd,hdep=>
   obtain ⟨hd,hop,hgd⟩:=jC sR_32 ho
   have gx:=hS.gt jS ho hdep
   simp only [VRB] at gx
   exact jW hB ho (jc hgd jS gx) hd hS hw rfl
  | 33,_,ho,hnd,hdep=>
   obtain ⟨hd,hop,hgd⟩:=jC sR_33 ho
   have gx:=hS.gt jS ho hdep
   simp only [VRB] at gx
   exact jW hB ho (jc hgd jS gx) hd hS hw rfl
  | 34,_,ho,hnd,hdep=>
   obtain ⟨hd,hop,hgd⟩:=jC sR_34 ho
   have gx:=hS.gt jS ho hdep
   simp only [VRB] at gx
   exact jW hB ho (jc hgd jS gx) hd hS hw rfl
  | 35,_,ho,hnd,hdep=>
   obtain ⟨hd,hop,hgd⟩:=jC sR_35 ho
   have gx:=hS.gt jS ho hdep
   simp only [VRB] at gx
   exact jW hB ho (jc hgd jS gx) hd hS hw rfl
  | 36,_,ho,hnd,hdep=>
   obtain ⟨hd,hop,hgd⟩:=jC sR_36 ho
   have gx:=hS.gt jS ho hdep
   simp only [VRB] at gx
   exact jW hB ho (jc hgd jS gx) hd hS hw rfl
  | 37,_,ho,hnd,hdep=>
   obtain ⟨hd,hop,hgd⟩:=jC sR_37 ho
   have gx:=hS.gt jr ho hdep
   simp only [VRB] at gx
   exact jW hB ho (jL hgd jr gx rfl) hd hS hw rfl
  | 38,_,ho,hnd,hdep=>
   obtain ⟨hd,hop,hgd⟩:=jC sR_38 ho
   have x30:=hS.gt jr ho hdep
   simp only [VRB] at x30
   refine jF hB ho (jB hgd) hd hS hw ?_
   unfold execOp
   simp only [hop]
   simp [x30,VRB,go_sem]
theorem foldRB (ga oa n cp k:Nat) (r:Cd) (YO YN:Array Value) (t0:Array Value):fold o31x4 (VRB ga oa n cp k r YO YN) t0 39=(((((((((((((((((((((((((((((((((((((((t0.setIfInBounds 10 (.slice (some ⟨ga,oa,none⟩) n cp)).setIfInBounds 11 (.int .i64 (k:Int))).setIfInBounds 12 (.pointer (some ⟨ga,oa+k*71,none⟩))).setIfInBounds 13 (.pointer (some ⟨ga,oa+k*71,none⟩))).setIfInBounds 14 (.string r.path)).setIfInBounds 15 (.bool true)).setIfInBounds 16 (.bool false)).setIfInBounds 17 (.bool false)).setIfInBounds 18 (.slice (some ⟨ga,oa,none⟩) n cp)).setIfInBounds 19 (.int .i64 (k:Int))).setIfInBounds 20 (.pointer (some ⟨ga,oa+k*71,none⟩))).setIfInBounds 21 (.pointer (some ⟨ga,oa+k*71+1,none⟩))).setIfInBounds 22 (.agg YO)).setIfInBounds 23 (.slice (some ⟨ga,oa,none⟩) n cp)).setIfInBounds 24 (.int .i64 (k:Int))).setIfInBounds 25 (.pointer (some ⟨ga,oa+k*71,none⟩))).setIfInBounds 26 (.pointer (some ⟨ga,oa+k*71+36,none⟩))).setIfInBounds 27 (.agg YN)).setIfInBounds 28 (.bool true)).setIfInBounds 29 (.bool true)).setIfInBounds 30 (.bool true)).setIfInBounds 31 (undef)).setIfInBounds 32 (undef)).setIfInBounds 33 (undef)).setIfInBounds 34 (undef)).setIfInBounds 35 (undef)).setIfInBounds 36 (undef)).setIfInBounds 37 (undef)).setIfInBounds 38 (undef)).setIfInBounds 39 (undef)).setIfInBounds 40 (undef)).setIfInBounds 41 (undef)).setIfInBounds 42 (undef)).setIfInBounds 43 (undef)).setIfInBounds 44 (undef)).setIfInBounds 45 (undef)).setIfInBounds 46 (undef)).setIfInBounds 47 (undef)).setIfInBounds 48 (.bool true)):=by kernel_rfl
def VRC (ga oa n cp k:Nat) (r:Cd) (YO YN:Array Value):Nat→Value
 | 0=>.slice (some ⟨ga,oa,none⟩) n cp
 | 1=>.int .i64 (k:Int)
 | 2=>.pointer (some ⟨ga,oa+k*71,none⟩)
 | 3=>.pointer (some ⟨ga,oa+k*71,none⟩)
 | 4=>.string r.path
 | 5=>.bool true
 | 6=>.bool false
 | 7=>.bool false
 | 8=>.slice (some ⟨ga,oa,none⟩) n cp
 | 9=>.int .i64 (k:Int)
 | 10=>.pointer (some ⟨ga,oa+k*71,none⟩)
 | 11=>.pointer (some ⟨ga,oa+k*71+1,none⟩)
 | 12=>.agg YO
 | 13=>.slice (some ⟨ga,oa,none⟩) n cp
 | 14=>.int .i64 (k:Int)
 | 15=>.pointer (some ⟨ga,oa+k*71,none⟩)
 | 16=>.pointer (some ⟨ga,oa+k*71+36,none⟩)
 | 17=>.agg YN
 | 18=>.bool false
 | 19=>.bool false
 | 20=>.bool false
 | 21=>.int .i64 (k:Int)
 | 22=>.bool false
 | 23=>.bool false
 | 24=>undef
 | 25=>undef
 | 26=>undef
 | 27=>undef
 | 28=>undef
 | 29=>undef
 | 30=>undef
 | 31=>undef
 | 32=>undef
 | 33=>undef
 | 34=>undef
 | 35=>undef
 | 36=>undef
 | 37=>.bool false
 | 38=>.bool false
 | _=>undef
theorem regRC (ga oa n cp k:Nat) (r:Cd) (YO YN:Array Value)  (t0:Array Value) (wr:World) {Q:Exit→Act→World→Prop} (ht:t0.size=49) (h0:t0.getD 0 undef=.slice (some ⟨ga,oa,none⟩) n cp) (h3:t0.getD 3 undef=.int .i64 (k:Int))
  (hk:k<n) (lr:Lies wr ga (oa+k*71) (cc r)) (sr:r.path.size≤1048576) (hpe:decide (splitE (tl r.path) 64=0)=true) (hO:YO=(vx r.old).toArray) (hN:YN=(vx r.new).toArray) (hb:decide (r.old=r.new)=false) (hkz:k=0)
  (hQ:∀ w,Below wr.heap.size wr w→Q .normal ⟨fold o31x4 (VRC ga oa n cp k r YO YN) t0 39,[]⟩ w):(Code.region 4 o31x4 true).wp Tryz.prog Q ⟨t0,[]⟩ wr:=by
 have hB:dstB o31x4 t0.size=true:=by rw [ht];exact dstR
 have kI:(k:Int)<(n:Int):=by omega
 have k0:(0:Int)≤(k:Int):=by omega
 have h0M:Below wr.heap.size wr wr.drew:=(Below.refl _ wr).drew
 have sO:YO.size=35:=by rw [hO];simp [jQ]
 have sN:YN.size=35:=by rw [hN];simp [jQ]
 have lO:Lies wr ga (oa+k*71+1) YO:=by rw [hO];exact lr.old
 have lN:Lies wr ga (oa+k*71+36) YN:=by rw [hN];exact lr.new
 refine jk (by kernel_rfl) (IV o31x4 (VRC ga oa n cp k r YO YN) t0 (fun _ w=>Below wr.heap.size wr w)) backR ⟨t0,rfl,⟨rfl,fun _ _=>rfl,fun _ _ _ _ _ h=>by cases h⟩,h0M⟩ ?_ ?_
 rotate_left 1
 ·rintro done a w ⟨t,rfl,hS,hw⟩ hall
  rw [hS.end hB hall,sizeR]
  exact hQ w hw
 ·rintro j op done a w ho ⟨t,rfl,hS,hw⟩ hnd hdep hcl
  have e0:t[0]?.getD undef=.slice (some ⟨ga,oa,none⟩) n cp:=(hS.old freeR0).trans h0
  have e3:t[3]?.getD undef=.int .i64 (k:Int):=(hS.old freeR3).trans h3
  have hlt:j<39:=by rw [← sizeR];exact (Array.getElem?_eq_some_iff.1 ho).1
  match j,hlt,ho,hnd,hdep with
  | 0,_,ho,hnd,hdep=>
   obtain ⟨hd,hop,hgd⟩:=jC sR_0 ho
   refine jF hB ho (jB hgd) hd hS hw ?_
   unfold execOp
   simp only [hop]
   simp [e0,VRC,go_sem]
  | 1,_,ho,hnd,hdep=>
   obtain ⟨hd,hop,hgd⟩:=jC sR_1 ho
   refine jF hB ho (jB hgd) hd hS hw ?_
   unfold execOp
   simp only [hop]
   simp [e3,VRC,go_sem]
  | 2,_,ho,hnd,hdep=>
   obtain ⟨hd,hop,hgd⟩:=jC sR_2 ho
   have x10:=hS.gt dR_0 ho hdep
   simp only [VRC] at x10
   have x11:=hS.gt dR_1 ho hdep
   simp only [VRC] at x11
   refine jF hB ho (jB hgd) hd hS hw ?_
   unfold execOp
   simp only [hop]
   simp [x10,x11,VRC,kI,k0,addr_add,go_sem]
  | 3,_,ho,hnd,hdep=>
   obtain ⟨hd,hop,hgd⟩:=jC sR_3 ho
   have x12:=hS.gt dR_2 ho hdep
   simp only [VRC] at x12
   refine jF hB ho (jB hgd) hd hS hw ?_
   unfold execOp
   simp only [hop]
   simp [x12,VRC,go_sem]
  | 4,_,ho,hnd,hdep=>
   obtain ⟨hd,hop,hgd⟩:=jC sR_4 ho
   have x13:=hS.gt dR_3 ho hdep
   simp only [VRC] at x13
   refine jF hB ho (jB hgd) hd hS hw ?_
   have cP:=((lr.below hw).path)
   unfold execOp
   simp only [hop]
   simp [x13,cP,VRC,go_sem]
  | 5,_,ho,hnd,hdep=>
   obtain ⟨hd,hop,hgd⟩:=jC sR_5 ho
   have x14:=hS.gt dR_4 ho hdep
   simp only [VRC] at x14
   refine iv_callG 73 #[.string r.path] hB ho (jB hgd) hd hS ?_ ?_
   ·skip
    unfold execOp
    simp only [hop]
    simp [x14,go_sem]
   ·exact (path_any r.path w sr).mono fun e w2 h=>⟨by rw [h.1,hpe];rfl,Below.up hw h.2⟩
  | 6,_,ho,hnd,hdep=>
   obtain ⟨hd,hop,hgd⟩:=jC sR_6 ho
   have x15:=hS.gt dR_5 ho hdep
   simp only [VRC] at x15
   refine jF hB ho (jB hgd) hd hS hw ?_
   unfold execOp
   simp only [hop]
   simp [x15,VRC,go_sem]
  | 7,_,ho,hnd,hdep=>
   obtain ⟨hd,hop,hgd⟩:=jC sR_7 ho
   have x16:=hS.gt dR_6 ho hdep
   simp only [VRC] at x16
   refine jF hB ho (jB hgd) hd hS hw ?_
   unfold execOp
   simp only [hop]
   simp [x16,VRC,go_sem]
  | 8,_,ho,hnd,hdep=>
   obtain ⟨hd,hop,hgd⟩:=jC sR_8 ho
   have gx:=hS.gt jm ho hdep
   simp only [VRC] at gx
   refine jF hB ho (jD hgd jm gx) hd hS hw ?_
   unfold execOp
   simp only [hop]
   simp [e0,VRC,go_sem]
  | 9,_,ho,hnd,hdep=>
   obtain ⟨hd,hop,hgd⟩:=jC sR_9 ho
   have gx:=hS.gt jm ho hdep
   simp only [VRC] at gx
   refine jF hB ho (jD hgd jm gx) hd hS hw ?_
   unfold execOp
   simp only [hop]
   simp [e3,VRC,go_sem]
  | 10,_,ho,hnd,hdep=>
   obtain ⟨hd,hop,hgd⟩:=jC sR_10 ho
   have gx:=hS.gt jm ho hdep
   simp only [VRC] at gx
   have x18:=hS.gt dR_8 ho hdep
   simp only [VRC] at x18
   have x19:=hS.gt dR_9 ho hdep
   simp only [VRC] at x19
   refine jF hB ho (jD hgd jm gx) hd hS hw ?_
   unfold execOp
   simp only [hop]
   simp [x18,x19,VRC,kI,k0,addr_add,go_sem]
  | 11,_,ho,hnd,hdep=>
   obtain ⟨hd,hop,hgd⟩:=jC sR_11 ho
   have gx:=hS.gt jm ho hdep
   simp only [VRC] at gx
   have x20:=hS.gt dR_10 ho hdep
   simp only [VRC] at x20
   refine jF hB ho (jD hgd jm gx) hd hS hw ?_
   unfold execOp
   simp only [hop]
   simp [x20,VRC,go_sem]
  | 12,_,ho,hnd,hdep=>
   obtain ⟨hd,hop,hgd⟩:=jC sR_12 ho
   have gx:=hS.gt jm ho hdep
   simp only [VRC] at gx
   have x21:=hS.gt dR_11 ho hdep
   simp only [VRC] at x21
   refine jF hB ho (jD hgd jm gx) hd hS hw ?_
   exact jq (a:=⟨t,[]⟩) _ hop ga (oa+k*71+1) (by show t.getD 21 undef=_;rw [Array.getD_eq_getD_getElem?];exact x21) _ sO (lO.below hw)
  | 13,_,ho,hnd,hdep=>
   obtain ⟨hd,hop,hgd⟩:=jC sR_13 ho
   have gx:=hS.gt jm ho hdep
   simp only [VRC] at gx
   refine jF hB ho (jD hgd jm gx) hd hS hw ?_
   unfold execOp
   simp only [hop]
   simp [e0,VRC,go_sem]
  | 14,_,ho,hnd,hdep=>
   obtain ⟨hd,hop,hgd⟩:=jC sR_14 ho
   have gx:=hS.gt jm ho hdep
   simp only [VRC] at gx
   refine jF hB ho (jD hgd jm gx) hd hS hw ?_
   unfold execOp
   simp only [hop]
   simp [e3,VRC,go_sem]
  | 15,_,ho,hnd,hdep=>
   obtain ⟨hd,hop,hgd⟩:=jC sR_15 ho
   have gx:=hS.gt jm ho hdep
   simp only [VRC] at gx
   have x23:=hS.gt dR_13 ho hdep
   simp only [VRC] at x23
   have x24:=hS.gt dR_14 ho hdep
   simp only [VRC] at x24
   refine jF hB ho (jD hgd jm gx) hd hS hw ?_
   unfold execOp
   simp only [hop]
   simp [x23,x24,VRC,kI,k0,addr_add,go_sem]
  | 16,_,ho,hnd,hdep=>
   obtain ⟨hd,hop,hgd⟩:=jC sR_16 ho
   have gx:=hS.gt jm ho hdep
   simp only [VRC] at gx
   have x25:=hS.gt dR_15 ho hdep
   simp only [VRC] at x25
   refine jF hB ho (jD hgd jm gx) hd hS hw ?_
   unfold execOp
   simp only [hop]
   simp [x25,VRC,go_sem]
  | 17,_,ho,hnd,hdep=>
   obtain ⟨hd,hop,hgd⟩:=jC sR_17 ho
   have gx:=hS.gt jm ho hdep
   simp only [VRC] at gx
   have x26:=hS.gt dR_16 ho hdep
   simp only [VRC] at x26
   refine jF hB ho (jD hgd jm gx) hd hS hw ?_
   exact jq (a:=⟨t,[]⟩) _ hop ga (oa+k*71+36) (by show t.getD 26 undef=_;rw [Array.getD_eq_getD_getElem?];exact x26) _ sN (lN.below hw)
  | 18,_,ho,hnd,hdep=>
   obtain ⟨hd,hop,hgd⟩:=jC sR_18 ho
   have gx:=hS.gt jm ho hdep
   simp only [VRC] at gx
   have x22:=hS.gt dR_12 ho hdep
   simp only [VRC] at x22
   have x27:=hS.gt dR_17 ho hdep
   simp only [VRC] at x27
   refine jF hB ho (jD hgd jm gx) hd hS hw ?_
   exact exec_eq53' (a:=⟨t,[]⟩) _ _ hop YO YN (by show t.getD 22 undef=_;rw [Array.getD_eq_getD_getElem?];exact x22) (by show t.getD 27 undef=_;rw [Array.getD_eq_getD_getElem?];exact x27) r.old r.new hO hN _ hb _
  | 19,_,ho,hnd,hdep=>
   obtain ⟨hd,hop,hgd⟩:=jC sR_19 ho
   have x17:=hS.gt jm ho hdep
   simp only [VRC] at x17
   have x28:=hS.gt dR_18 ho hdep
   simp only [VRC] at x28
   refine jF hB ho (jB hgd) hd hS hw ?_
   unfold execOp
   simp only [hop]
   simp [x17,x28,VRC,go_sem]
  | 20,_,ho,hnd,hdep=>
   obtain ⟨hd,hop,hgd⟩:=jC sR_20 ho
   have x29:=hS.gt dR_19 ho hdep
   simp only [VRC] at x29
   refine jF hB ho (jB hgd) hd hS hw ?_
   unfold execOp
   simp only [hop]
   simp [x29,VRC,go_sem]
  | 21,_,ho,hnd,hdep=>
   obtain ⟨hd,hop,hgd⟩:=jC sR_21 ho
   have gx:=hS.gt jr ho hdep
   simp only [VRC] at gx
   refine jF hB ho (jD hgd jr gx) hd hS hw ?_
   unfold execOp
   simp only [hop]
   simp [e3,VRC,go_sem]
  | 22,_,ho,hnd,hdep=>
   obtain ⟨hd,hop,hgd⟩:=jC sR_22 ho
   have gx:=hS.gt jr ho hdep
   simp only [VRC] at gx
   have x31:=hS.gt dR_21 ho hdep
   simp only [VRC] at x31
   refine jF hB ho (jD hgd jr gx) hd hS hw ?_
   unfold execOp
   simp only [hop]
   simp [x31,VRC,hkz,go_sem]
  | 23,_,ho,hnd,hdep=>
   obtain ⟨hd,hop,hgd⟩:=jC sR_23 ho
   have gx:=hS.gt jr ho hdep
   simp only [VRC] at gx
   have x32:=hS.gt dR_22 ho hdep
   simp only [VRC] at x32
   refine jF hB ho (jD hgd jr gx) hd hS hw ?_
   unfold execOp
   simp only [hop]
   simp [x32,VRC,go_sem]
  | 24,_,ho,hnd,hdep=>
   obtain ⟨hd,hop,hgd⟩:=jC sR_24 ho
   have gx:=hS.gt jS ho hdep
   simp only [VRC] at gx
   exact jW hB ho (jL hgd jS gx rfl) hd hS hw rfl
  | 25,_,ho,hnd,hdep=>
   obtain ⟨hd,hop,hgd⟩:=jC sR_25 ho
   have gx:=hS.gt jS ho hdep
   simp only [VRC] at gx
   exact jW hB ho (jL hgd jS gx rfl) hd hS hw rfl
  | 26,_,ho,hnd,hdep=>
   obtain ⟨hd,hop,hgd⟩:=jC sR_26 ho
   have gx:=hS.gt jS ho hdep
   simp only [VRC] at gx
   exact jW hB ho (jL hgd jS gx rfl) hd hS hw rfl
  | 27,_,ho,hnd,hdep=>
   obtain ⟨hd,hop,hgd⟩:=jC sR_27 ho
   have gx:=hS.gt jS ho hdep
   simp only [VRC] at gx
   exact jW hB ho (jL hgd jS gx rfl) hd hS hw rfl
  | 28,_,ho,hnd,hdep=>
   obtain ⟨hd,hop,hgd⟩:=jC sR_28 ho
   have gx:=hS.gt jS ho hdep
   simp only [VRC] at gx
   exact jW hB ho (jL hgd jS gx rfl) hd hS hw rfl
  | 29,_,ho,hnd,hdep=>
   obtain ⟨hd,hop,hgd⟩:=jC sR_29 ho
   have gx:=hS.gt jS ho hdep
   simp only [VRC] at gx
   exact jW hB ho (jL hgd jS gx rfl) hd hS hw rfl
  | 30,_,ho,hnd,hdep=>
   obtain ⟨hd,hop,hgd⟩:=jC sR_30 ho
   have gx:=hS.gt jS ho hdep
   simp only [VRC] at gx
   exact jW hB ho (jL hgd jS gx rfl) hd hS hw rfl
  | 31,_,ho,hnd,hdep=>
   obtain ⟨hd,hop,hgd⟩:=jC sR_31 ho
   have gx:=hS.gt jS ho hdep
   simp only [VRC] at gx
   exact jW hB ho (jL hgd jS gx rfl) hd hS hw rfl
  | 32,_,ho,hnd,hdep=>
   obtain ⟨hd,hop,hgd⟩:=jC sR_32 ho
   have gx:=hS.gt jS ho hdep
   simp only [VRC] at gx
   exact jW hB ho (jL hgd jS gx rfl) hd hS hw rfl
  | 33,_,ho,hnd,hdep=>
   obtain ⟨hd,hop,hgd⟩:=jC sR_33 ho
   have gx:=hS.gt jS ho hdep
   simp only [VRC] at gx
   exact jW hB ho (jL hgd jS gx rfl) hd hS hw rfl
  | 34,_,ho,hnd,hdep=>
   obtain ⟨hd,hop,hgd⟩:=jC sR_34 ho
   have gx:=hS.gt jS ho hdep
   simp only [VRC] at gx
   exact jW hB ho (jL hgd jS gx rfl) hd hS hw rfl
  | 35,_,ho,hnd,hdep=>
   obtain ⟨hd,hop,hgd⟩:=jC sR_35 ho
   have gx:=hS.gt jS ho hdep
   simp only [VRC] at gx
   exact jW hB ho (jL hgd jS gx rfl) hd hS hw rfl
  | 36,_,ho,hnd,hdep=>
   obtain ⟨hd,hop,hgd⟩:=jC sR_36 ho
   have gx:=hS.gt jS ho hdep
   simp only [VRC] at gx
   exact jW hB ho (jL hgd jS gx rfl) hd hS hw rfl
  | 37,_,ho,hnd,hdep=>
   obtain ⟨hd,hop,hgd⟩:=jC sR_37 ho
   have gx:=hS.gt jr ho hdep
   simp only [VRC] at gx
   have x33:=hS.gt jS ho hdep
   simp only [VRC] at x33
   refine jF hB ho (jD hgd jr gx) hd hS hw ?_
   unfold execOp
   simp only [hop]
   simp [x33,VRC,go_sem]
  | 38,_,ho,hnd,hdep=>
   obtain ⟨hd,hop,hgd⟩:=jC sR_38 ho
   have x30:=hS.gt jr ho hdep
   simp only [VRC] at x30
   have x47:=hS.gt dR_37 ho hdep
   simp only [VRC] at x47
   refine jF hB ho (jB hgd) hd hS hw ?_
   unfold execOp
   simp only [hop]
   simp [x30,x47,VRC,go_sem]
theorem foldRC (ga oa n cp k:Nat) (r:Cd) (YO YN:Array Value) (t0:Array Value):fold o31x4 (VRC ga oa n cp k r YO YN) t0 39=(((((((((((((((((((((((((((((((((((((((t0.setIfInBounds 10 (.slice (some ⟨ga,oa,none⟩) n cp)).setIfInBounds 11 (.int .i64 (k:Int))).setIfInBounds 12 (.pointer (some ⟨ga,oa+k*71,none⟩))).setIfInBounds 13 (.pointer (some ⟨ga,oa+k*71,none⟩))).setIfInBounds 14 (.string r.path)).setIfInBounds 15 (.bool true)).setIfInBounds 16 (.bool false)).setIfInBounds 17 (.bool false)).setIfInBounds 18 (.slice (some ⟨ga,oa,none⟩) n cp)).setIfInBounds 19 (.int .i64 (k:Int))).setIfInBounds 20 (.pointer (some ⟨ga,oa+k*71,none⟩))).setIfInBounds 21 (.pointer (some ⟨ga,oa+k*71+1,none⟩))).setIfInBounds 22 (.agg YO)).setIfInBounds 23 (.slice (some ⟨ga,oa,none⟩) n cp)).setIfInBounds 24 (.int .i64 (k:Int))).setIfInBounds 25 (.pointer (some ⟨ga,oa+k*71,none⟩))).setIfInBounds 26 (.pointer (some ⟨ga,oa+k*71+36,none⟩))).setIfInBounds 27 (.agg YN)).setIfInBounds 28 (.bool false)).setIfInBounds 29 (.bool false)).setIfInBounds 30 (.bool false)).setIfInBounds 31 (.int .i64 (k:Int))).setIfInBounds 32 (.bool false)).setIfInBounds 33 (.bool false)).setIfInBounds 34 (undef)).setIfInBounds 35 (undef)).setIfInBounds 36 (undef)).setIfInBounds 37 (undef)).setIfInBounds 38 (undef)).setIfInBounds 39 (undef)).setIfInBounds 40 (undef)).setIfInBounds 41 (undef)).setIfInBounds 42 (undef)).setIfInBounds 43 (undef)).setIfInBounds 44 (undef)).setIfInBounds 45 (undef)).setIfInBounds 46 (undef)).setIfInBounds 47 (.bool false)).setIfInBounds 48 (.bool false)):=by kernel_rfl
def VRD (ga oa n cp k:Nat) (r:Cd) (YO YN:Array Value) (p:Cd) (cm:Int):Nat→Value
 | 0=>.slice (some ⟨ga,oa,none⟩) n cp
 | 1=>.int .i64 (k:Int)
 | 2=>.pointer (some ⟨ga,oa+k*71,none⟩)
 | 3=>.pointer (some ⟨ga,oa+k*71,none⟩)
 | 4=>.string r.path
 | 5=>.bool true
 | 6=>.bool false
 | 7=>.bool false
 | 8=>.slice (some ⟨ga,oa,none⟩) n cp
 | 9=>.int .i64 (k:Int)
 | 10=>.pointer (some ⟨ga,oa+k*71,none⟩)
 | 11=>.pointer (some ⟨ga,oa+k*71+1,none⟩)
 | 12=>.agg YO
 | 13=>.slice (some ⟨ga,oa,none⟩) n cp
 | 14=>.int .i64 (k:Int)
 | 15=>.pointer (some ⟨ga,oa+k*71,none⟩)
 | 16=>.pointer (some ⟨ga,oa+k*71+36,none⟩)
 | 17=>.agg YN
 | 18=>.bool false
 | 19=>.bool false
 | 20=>.bool false
 | 21=>.int .i64 (k:Int)
 | 22=>.bool true
 | 23=>.bool true
 | 24=>.slice (some ⟨ga,oa,none⟩) n cp
 | 25=>.int .i64 (k:Int)
 | 26=>.int .i64 ((k:Int)-1)
 | 27=>.pointer (some ⟨ga,oa+(k-1)*71,none⟩)
 | 28=>.pointer (some ⟨ga,oa+(k-1)*71,none⟩)
 | 29=>.string p.path
 | 30=>.slice (some ⟨ga,oa,none⟩) n cp
 | 31=>.int .i64 (k:Int)
 | 32=>.pointer (some ⟨ga,oa+k*71,none⟩)
 | 33=>.pointer (some ⟨ga,oa+k*71,none⟩)
 | 34=>.string r.path
 | 35=>.int .i64 cm
 | 36=>.bool true
 | 37=>.bool true
 | 38=>.bool true
 | _=>undef
theorem regRD (ga oa n cp k:Nat) (r:Cd) (YO YN:Array Value) (p:Cd) (cm:Int)  (t0:Array Value) (wr:World) {Q:Exit→Act→World→Prop} (ht:t0.size=49) (h0:t0.getD 0 undef=.slice (some ⟨ga,oa,none⟩) n cp) (h3:t0.getD 3 undef=.int .i64 (k:Int))
  (hk:k<n) (lr:Lies wr ga (oa+k*71) (cc r)) (sr:r.path.size≤1048576) (hpe:decide (splitE (tl r.path) 64=0)=true) (hO:YO=(vx r.old).toArray) (hN:YN=(vx r.new).toArray) (hb:decide (r.old=r.new)=false) (hn:n≤1000000) (hkz:0<k) (lp:Lies wr ga (oa+(k-1)*71) (cc p)) (sp:p.path.size≤1048576) (hcm:cmpL (tl p.path) (tl r.path)=cm) (hge:(0:Int)≤cm)
  (hQ:∀ w,Below wr.heap.size wr w→Q .normal ⟨fold o31x4 (VRD ga oa n cp k r YO YN p cm) t0 39,[]⟩ w):(Code.region 4 o31x4 true).wp Tryz.prog Q ⟨t0,[]⟩ wr:=by
 have hB:dstB o31x4 t0.size=true:=by rw [ht];exact dstR
 have kI:(k:Int)<(n:Int):=by omega
 have k0:(0:Int)≤(k:Int):=by omega
 have h0M:Below wr.heap.size wr wr.drew:=(Below.refl _ wr).drew
 have sO:YO.size=35:=by rw [hO];simp [jQ]
 have sN:YN.size=35:=by rw [hN];simp [jQ]
 have lO:Lies wr ga (oa+k*71+1) YO:=by rw [hO];exact lr.old
 have lN:Lies wr ga (oa+k*71+36) YN:=by rw [hN];exact lr.new
 have k1:(k:Int)-1<(n:Int):=by omega
 have kt:((k:Int)-1).toNat=k-1:=by omega
 have kw:IntKind.i64.wrap ((k:Int)-1)=(k:Int)-1:=by rw [IntKind.wrap_i64]<;>omega
 refine jk (by kernel_rfl) (IV o31x4 (VRD ga oa n cp k r YO YN p cm) t0 (fun _ w=>Below wr.heap.size wr w)) backR ⟨t0,rfl,⟨rfl,fun _ _=>rfl,fun _ _ _ _ _ h=>by cases h⟩,h0M⟩ ?_ ?_
 rotate_left 1
 ·rintro done a w ⟨t,rfl,hS,hw⟩ hall
  rw [hS.end hB hall,sizeR]
  exact hQ w hw
 ·rintro j op done a w ho ⟨t,rfl,hS,hw⟩ hnd hdep hcl
  have e0:t[0]?.getD undef=.slice (some ⟨ga,oa,none⟩) n cp:=(hS.old freeR0).trans h0
  have e3:t[3]?.getD undef=.int .i64 (k:Int):=(hS.old freeR3).trans h3
  have hlt:j<39:=by rw [← sizeR];exact (Array.getElem?_eq_some_iff.1 ho).1
  match j,hlt,ho,hnd,hdep with
  | 0,_,ho,hnd,hdep=>
   obtain ⟨hd,hop,hgd⟩:=jC sR_0 ho
   refine jF hB ho (jB hgd) hd hS hw ?_
   unfold execOp
   simp only [hop]
   simp [e0,VRD,go_sem]
  | 1,_,ho,hnd,hdep=>
   obtain ⟨hd,hop,hgd⟩:=jC sR_1 ho
   refine jF hB ho (jB hgd) hd hS hw ?_
   unfold execOp
   simp only [hop]
   simp [e3,VRD,go_sem]
  | 2,_,ho,hnd,hdep=>
   obtain ⟨hd,hop,hgd⟩:=jC sR_2 ho
   have x10:=hS.gt dR_0 ho hdep
   simp only [VRD] at x10
   have x11:=hS.gt dR_1 ho hdep
   simp only [VRD] at x11
   refine jF hB ho (jB hgd) hd hS hw ?_
   unfold execOp
   simp only [hop]
   simp [x10,x11,VRD,kI,k0,addr_add,go_sem]
  | 3,_,ho,hnd,hdep=>
   obtain ⟨hd,hop,hgd⟩:=jC sR_3 ho
   have x12:=hS.gt dR_2 ho hdep
   simp only [VRD] at x12
   refine jF hB ho (jB hgd) hd hS hw ?_
   unfold execOp
   simp only [hop]
   simp [x12,VRD,go_sem]
  | 4,_,ho,hnd,hdep=>
   obtain ⟨hd,hop,hgd⟩:=jC sR_4 ho
   have x13:=hS.gt dR_3 ho hdep
   simp only [VRD] at x13
   refine jF hB ho (jB hgd) hd hS hw ?_
   have cP:=((lr.below hw).path)
   unfold execOp
   simp only [hop]
   simp [x13,cP,VRD,go_sem]
  | 5,_,ho,hnd,hdep=>
   obtain ⟨hd,hop,hgd⟩:=jC sR_5 ho
   have x14:=hS.gt dR_4 ho hdep
   simp only [VRD] at x14
   refine iv_callG 73 #[.string r.path] hB ho (jB hgd) hd hS ?_ ?_
   ·skip
    unfold execOp
    simp only [hop]
    simp [x14,go_sem]
   ·exact (path_any r.path w sr).mono fun e w2 h=>⟨by rw [h.1,hpe];rfl,Below.up hw h.2⟩
  | 6,_,ho,hnd,hdep=>
   obtain ⟨hd,hop,hgd⟩:=jC sR_6 ho
   have x15:=hS.gt dR_5 ho hdep
   simp only [VRD] at x15
   refine jF hB ho (jB hgd) hd hS hw ?_
   unfold execOp
   simp only [hop]
   simp [x15,VRD,go_sem]
  | 7,_,ho,hnd,hdep=>
   obtain ⟨hd,hop,hgd⟩:=jC sR_7 ho
   have x16:=hS.gt dR_6 ho hdep
   simp only [VRD] at x16
   refine jF hB ho (jB hgd) hd hS hw ?_
   unfold execOp
   simp only [hop]
   simp [x16,VRD,go_sem]
  | 8,_,ho,hnd,hdep=>
   obtain ⟨hd,hop,hgd⟩:=jC sR_8 ho
   have gx:=hS.gt jm ho hdep
   simp only [VRD] at gx
   refine jF hB ho (jD hgd jm gx) hd hS hw ?_
   unfold execOp
   simp only [hop]
   simp [e0,VRD,go_sem]
  | 9,_,ho,hnd,hdep=>
   obtain ⟨hd,hop,hgd⟩:=jC sR_9 ho
   have gx:=hS.gt jm ho hdep
   simp only [VRD] at gx
   refine jF hB ho (jD hgd jm gx) hd hS hw ?_
   unfold execOp
   simp only [hop]
   simp [e3,VRD,go_sem]
  | 10,_,ho,hnd,hdep=>
   obtain ⟨hd,hop,hgd⟩:=jC sR_10 ho
   have gx:=hS.gt jm ho hdep
   simp only [VRD] at gx
   have x18:=hS.gt dR_8 ho hdep
   simp only [VRD] at x18
   have x19:=hS.gt dR_9 ho hdep
   simp only [VRD] at x19
   refine jF hB ho (jD hgd jm gx) hd hS hw ?_
   unfold execOp
   simp only [hop]
   simp [x18,x19,VRD,kI,k0,addr_add,go_sem]
  | 11,_,ho,hnd,hdep=>
   obtain ⟨hd,hop,hgd⟩:=jC sR_11 ho
   have gx:=hS.gt jm ho hdep
   simp only [VRD] at gx
   have x20:=hS.gt dR_10 ho hdep
   simp only [VRD] at x20
   refine jF hB ho (jD hgd jm gx) hd hS hw ?_
   unfold execOp
   simp only [hop]
   simp [x20,VRD,go_sem]
  | 12,_,ho,hnd,hdep=>
   obtain ⟨hd,hop,hgd⟩:=jC sR_12 ho
   have gx:=hS.gt jm ho hdep
   simp only [VRD] at gx
   have x21:=hS.gt dR_11 ho hdep
   simp only [VRD] at x21
   refine jF hB ho (jD hgd jm gx) hd hS hw ?_
   exact jq (a:=⟨t,[]⟩) _ hop ga (oa+k*71+1) (by show t.getD 21 undef=_;rw [Array.getD_eq_getD_getElem?];exact x21) _ sO (lO.below hw)
  | 13,_,ho,hnd,hdep=>
   obtain ⟨hd,hop,hgd⟩:=jC sR_13 ho
   have gx:=hS.gt jm ho hdep
   simp only [VRD] at gx
   refine jF hB ho (jD hgd jm gx) hd hS hw ?_
   unfold execOp
   simp only [hop]
   simp [e0,VRD,go_sem]
  | 14,_,ho,hnd,hdep=>
   obtain ⟨hd,hop,hgd⟩:=jC sR_14 ho
   have gx:=hS.gt jm ho hdep
   simp only [VRD] at gx
   refine jF hB ho (jD hgd jm gx) hd hS hw ?_
   unfold execOp
   simp only [hop]
   simp [e3,VRD,go_sem]
  | 15,_,ho,hnd,hdep=>
   obtain ⟨hd,hop,hgd⟩:=jC sR_15 ho
   have gx:=hS.gt jm ho hdep
   simp only [VRD] at gx
   have x23:=hS.gt dR_13 ho hdep
   simp only [VRD] at x23
   have x24:=hS.gt dR_14 ho hdep
   simp only [VRD] at x24
   refine jF hB ho (jD hgd jm gx) hd hS hw ?_
   unfold execOp
   simp only [hop]
   simp [x23,x24,VRD,kI,k0,addr_add,go_sem]
  | 16,_,ho,hnd,hdep=>
   obtain ⟨hd,hop,hgd⟩:=jC sR_16 ho
   have gx:=hS.gt jm ho hdep
   simp only [VRD] at gx
   have x25:=hS.gt dR_15 ho hdep
   simp only [VRD] at x25
   refine jF hB ho (jD hgd jm gx) hd hS hw ?_
   unfold execOp
   simp only [hop]
   simp [x25,VRD,go_sem]
  | 17,_,ho,hnd,hdep=>
   obtain ⟨hd,hop,hgd⟩:=jC sR_17 ho
   have gx:=hS.gt jm ho hdep
   simp only [VRD] at gx
   have x26:=hS.gt dR_16 ho hdep
   simp only [VRD] at x26
   refine jF hB ho (jD hgd jm gx) hd hS hw ?_
   exact jq (a:=⟨t,[]⟩) _ hop ga (oa+k*71+36) (by show t.getD 26 undef=_;rw [Array.getD_eq_getD_getElem?];exact x26) _ sN (lN.below hw)
  | 18,_,ho,hnd,hdep=>
   obtain ⟨hd,hop,hgd⟩:=jC sR_18 ho
   have gx:=hS.gt jm ho hdep
   simp only [VRD] at gx
   have x22:=hS.gt dR_12 ho hdep
   simp only [VRD] at x22
   have x27:=hS.gt dR_17 ho hdep
   simp only [VRD] at x27
   refine jF hB ho (jD hgd jm gx) hd hS hw ?_
   exact exec_eq53' (a:=⟨t,[]⟩) _ _ hop YO YN (by show t.getD 22 undef=_;rw [Array.getD_eq_getD_getElem?];exact x22) (by show t.getD 27 undef=_;rw [Array.getD_eq_getD_getElem?];exact x27) r.old r.new hO hN _ hb _
  | 19,_,ho,hnd,hdep=>
   obtain ⟨hd,hop,hgd⟩:=jC sR_19 ho
   have x17:=hS.gt jm ho hdep
   simp only [VRD] at x17
   have x28:=hS.gt dR_18 ho hdep
   simp only [VRD] at x28
   refine jF hB ho (jB hgd) hd hS hw ?_
   unfold execOp
   simp only [hop]
   simp [x17,x28,VRD,go_sem]
  | 20,_,ho,hnd,hdep=>
   obtain ⟨hd,hop,hgd⟩:=jC sR_20 ho
   have x29:=hS.gt dR_19 ho hdep
   simp only [VRD] at x29
   refine jF hB ho (jB hgd) hd hS hw ?_
   unfold execOp
   simp only [hop]
   simp [x29,VRD,go_sem]
  | 21,_,ho,hnd,hdep=>
   obtain ⟨hd,hop,hgd⟩:=jC sR_21 ho
   have gx:=hS.gt jr ho hdep
   simp only [VRD] at gx
   refine jF hB ho (jD hgd jr gx) hd hS hw ?_
   unfold execOp
   simp only [hop]
   simp [e3,VRD,go_sem]
  | 22,_,ho,hnd,hdep=>
   obtain ⟨hd,hop,hgd⟩:=jC sR_22 ho
   have gx:=hS.gt jr ho hdep
   simp only [VRD] at gx
   have x31:=hS.gt dR_21 ho hdep
   simp only [VRD] at x31
   refine jF hB ho (jD hgd jr gx) hd hS hw ?_
   unfold execOp
   simp only [hop]
   simp [x31,VRD,hkz,go_sem]
  | 23,_,ho,hnd,hdep=>
   obtain ⟨hd,hop,hgd⟩:=jC sR_23 ho
   have gx:=hS.gt jr ho hdep
   simp only [VRD] at gx
   have x32:=hS.gt dR_22 ho hdep
   simp only [VRD] at x32
   refine jF hB ho (jD hgd jr gx) hd hS hw ?_
   unfold execOp
   simp only [hop]
   simp [x32,VRD,go_sem]
  | 24,_,ho,hnd,hdep=>
   obtain ⟨hd,hop,hgd⟩:=jC sR_24 ho
   have gx:=hS.gt jS ho hdep
   simp only [VRD] at gx
   refine jF hB ho (jD hgd jS gx) hd hS hw ?_
   unfold execOp
   simp only [hop]
   simp [e0,VRD,go_sem]
  | 25,_,ho,hnd,hdep=>
   obtain ⟨hd,hop,hgd⟩:=jC sR_25 ho
   have gx:=hS.gt jS ho hdep
   simp only [VRD] at gx
   refine jF hB ho (jD hgd jS gx) hd hS hw ?_
   unfold execOp
   simp only [hop]
   simp [e3,VRD,go_sem]
  | 26,_,ho,hnd,hdep=>
   obtain ⟨hd,hop,hgd⟩:=jC sR_26 ho
   have gx:=hS.gt jS ho hdep
   simp only [VRD] at gx
   have x35:=hS.gt dR_25 ho hdep
   simp only [VRD] at x35
   refine jF hB ho (jD hgd jS gx) hd hS hw ?_
   unfold execOp
   simp only [hop]
   simp [x35,kw,VRD,go_sem]
  | 27,_,ho,hnd,hdep=>
   obtain ⟨hd,hop,hgd⟩:=jC sR_27 ho
   have gx:=hS.gt jS ho hdep
   simp only [VRD] at gx
   have x34:=hS.gt dR_24 ho hdep
   simp only [VRD] at x34
   have x36:=hS.gt dR_26 ho hdep
   simp only [VRD] at x36
   refine jF hB ho (jD hgd jS gx) hd hS hw ?_
   unfold execOp
   simp only [hop]
   simp [x34,x36,k1,kt,addr_add,VRD,go_sem]
   intro h
   omega
  | 28,_,ho,hnd,hdep=>
   obtain ⟨hd,hop,hgd⟩:=jC sR_28 ho
   have gx:=hS.gt jS ho hdep
   simp only [VRD] at gx
   have x37:=hS.gt dR_27 ho hdep
   simp only [VRD] at x37
   refine jF hB ho (jD hgd jS gx) hd hS hw ?_
   unfold execOp
   simp only [hop]
   simp [x37,VRD,go_sem]
  | 29,_,ho,hnd,hdep=>
   obtain ⟨hd,hop,hgd⟩:=jC sR_29 ho
   have gx:=hS.gt jS ho hdep
   simp only [VRD] at gx
   have x38:=hS.gt dR_28 ho hdep
   simp only [VRD] at x38
   refine jF hB ho (jD hgd jS gx) hd hS hw ?_
   have cP:=((lp.below hw).path)
   unfold execOp
   simp only [hop]
   simp [x38,cP,VRD,go_sem]
  | 30,_,ho,hnd,hdep=>
   obtain ⟨hd,hop,hgd⟩:=jC sR_30 ho
   have gx:=hS.gt jS ho hdep
   simp only [VRD] at gx
   refine jF hB ho (jD hgd jS gx) hd hS hw ?_
   unfold execOp
   simp only [hop]
   simp [e0,VRD,go_sem]
  | 31,_,ho,hnd,hdep=>
   obtain ⟨hd,hop,hgd⟩:=jC sR_31 ho
   have gx:=hS.gt jS ho hdep
   simp only [VRD] at gx
   refine jF hB ho (jD hgd jS gx) hd hS hw ?_
   unfold execOp
   simp only [hop]
   simp [e3,VRD,go_sem]
  | 32,_,ho,hnd,hdep=>
   obtain ⟨hd,hop,hgd⟩:=jC sR_32 ho
   have gx:=hS.gt jS ho hdep
   simp only [VRD] at gx
   have x40:=hS.gt dR_30 ho hdep
   simp only [VRD] at x40
   have x41:=hS.gt dR_31 ho hdep
   simp only [VRD] at x41
   refine jF hB ho (jD hgd jS gx) hd hS hw ?_
   unfold execOp
   simp only [hop]
   simp [x40,x41,VRD,kI,k0,addr_add,go_sem]
  | 33,_,ho,hnd,hdep=>
   obtain ⟨hd,hop,hgd⟩:=jC sR_33 ho
   have gx:=hS.gt jS ho hdep
   simp only [VRD] at gx
   have x42:=hS.gt dR_32 ho hdep
   simp only [VRD] at x42
   refine jF hB ho (jD hgd jS gx) hd hS hw ?_
   unfold execOp
   simp only [hop]
   simp [x42,VRD,go_sem]
  | 34,_,ho,hnd,hdep=>
   obtain ⟨hd,hop,hgd⟩:=jC sR_34 ho
   have gx:=hS.gt jS ho hdep
   simp only [VRD] at gx
   have x43:=hS.gt dR_33 ho hdep
   simp only [VRD] at x43
   refine jF hB ho (jD hgd jS gx) hd hS hw ?_
   have cP:=((lr.below hw).path)
   unfold execOp
   simp only [hop]
   simp [x43,cP,VRD,go_sem]
  | 35,_,ho,hnd,hdep=>
   obtain ⟨hd,hop,hgd⟩:=jC sR_35 ho
   have gx:=hS.gt jS ho hdep
   simp only [VRD] at gx
   have x39:=hS.gt dR_29 ho hdep
   simp only [VRD] at x39
   have x44:=hS.gt dR_34 ho hdep
   simp only [VRD] at x44
   refine iv_callG 34 #[.string p.path,.string r.path] hB ho (jD hgd jS gx) hd hS ?_ ?_
   ·skip
    unfold execOp
    simp only [hop]
    simp [x39,x44,go_sem]
   ·exact (refCompare_any p.path r.path w sp sr).mono fun e w2 h=>⟨by rw [h.1,hcm];rfl,Below.up hw h.2⟩
  | 36,_,ho,hnd,hdep=>
   obtain ⟨hd,hop,hgd⟩:=jC sR_36 ho
   have gx:=hS.gt jS ho hdep
   simp only [VRD] at gx
   have x45:=hS.gt dR_35 ho hdep
   simp only [VRD] at x45
   refine jF hB ho (jD hgd jS gx) hd hS hw ?_
   unfold execOp
   simp only [hop]
   simp [x45,hge,VRD,go_sem]
  | 37,_,ho,hnd,hdep=>
   obtain ⟨hd,hop,hgd⟩:=jC sR_37 ho
   have gx:=hS.gt jr ho hdep
   simp only [VRD] at gx
   have x33:=hS.gt jS ho hdep
   simp only [VRD] at x33
   have x46:=hS.gt dR_36 ho hdep
   simp only [VRD] at x46
   refine jF hB ho (jD hgd jr gx) hd hS hw ?_
   unfold execOp
   simp only [hop]
   simp [x33,x46,VRD,go_sem]
  | 38,_,ho,hnd,hdep=>
   obtain ⟨hd,hop,hgd⟩:=jC sR_38 ho
   have x30:=hS.gt jr ho hdep
   simp only [VRD] at x30
   have x47:=hS.gt dR_37 ho hdep
   simp only [VRD] at x47
   refine jF hB ho (jB hgd) hd hS hw ?_
   unfold execOp
   simp only [hop]
   simp [x30,x47,VRD,go_sem]
theorem foldRD (ga oa n cp k:Nat) (r:Cd) (YO YN:Array Value) (p:Cd) (cm:Int) (t0:Array Value):fold o31x4 (VRD ga oa n cp k r YO YN p cm) t0 39=(((((((((((((((((((((((((((((((((((((((t0.setIfInBounds 10 (.slice (some ⟨ga,oa,none⟩) n cp)).setIfInBounds 11 (.int .i64 (k:Int))).setIfInBounds 12 (.pointer (some ⟨ga,oa+k*71,none⟩))).setIfInBounds 13 (.pointer (some ⟨ga,oa+k*71,none⟩))).setIfInBounds 14 (.string r.path)).setIfInBounds 15 (.bool true)).setIfInBounds 16 (.bool false)).setIfInBounds 17 (.bool false)).setIfInBounds 18 (.slice (some ⟨ga,oa,none⟩) n cp)).setIfInBounds 19 (.int .i64 (k:Int))).setIfInBounds 20 (.pointer (some ⟨ga,oa+k*71,none⟩))).setIfInBounds 21 (.pointer (some ⟨ga,oa+k*71+1,none⟩))).setIfInBounds 22 (.agg YO)).setIfInBounds 23 (.slice (some ⟨ga,oa,none⟩) n cp)).setIfInBounds 24 (.int .i64 (k:Int))).setIfInBounds 25 (.pointer (some ⟨ga,oa+k*71,none⟩))).setIfInBounds 26 (.pointer (some ⟨ga,oa+k*71+36,none⟩))).setIfInBounds 27 (.agg YN)).setIfInBounds 28 (.bool false)).setIfInBounds 29 (.bool false)).setIfInBounds 30 (.bool false)).setIfInBounds 31 (.int .i64 (k:Int))).setIfInBounds 32 (.bool true)).setIfInBounds 33 (.bool true)).setIfInBounds 34 (.slice (some ⟨ga,oa,none⟩) n cp)).setIfInBounds 35 (.int .i64 (k:Int))).setIfInBounds 36 (.int .i64 ((k:Int)-1))).setIfInBounds 37 (.pointer (some ⟨ga,oa+(k-1)*71,none⟩))).setIfInBounds 38 (.pointer (some ⟨ga,oa+(k-1)*71,none⟩))).setIfInBounds 39 (.string p.path)).setIfInBounds 40 (.slice (some ⟨ga,oa,none⟩) n cp)).setIfInBounds 41 (.int .i64 (k:Int))).setIfInBounds 42 (.pointer (some ⟨ga,oa+k*71,none⟩))).setIfInBounds 43 (.pointer (some ⟨ga,oa+k*71,none⟩))).setIfInBounds 44 (.string r.path)).setIfInBounds 45 (.int .i64 cm)).setIfInBounds 46 (.bool true)).setIfInBounds 47 (.bool true)).setIfInBounds 48 (.bool true)):=by kernel_rfl
def VRE (ga oa n cp k:Nat) (r:Cd) (YO YN:Array Value) (p:Cd) (cm:Int):Nat→Value
 | 0=>.slice (some ⟨ga,oa,none⟩) n cp
 | 1=>.int .i64 (k:Int)
 | 2=>.pointer (some ⟨ga,oa+k*71,none⟩)
 | 3=>.pointer (some ⟨ga,oa+k*71,none⟩)
 | 4=>.string r.path
 | 5=>.bool true
 | 6=>.bool false
 | 7=>.bool false
 | 8=>.slice (some ⟨ga,oa,none⟩) n cp
 | 9=>.int .i64 (k:Int)
 | 10=>.pointer (some ⟨ga,oa+k*71,none⟩)
 | 11=>.pointer (some ⟨ga,oa+k*71+1,none⟩)
 | 12=>.agg YO
 | 13=>.slice (some ⟨ga,oa,none⟩) n cp
 | 14=>.int .i64 (k:Int)
 | 15=>.pointer (some ⟨ga,oa+k*71,none⟩)
 | 16=>.pointer (some ⟨ga,oa+k*71+36,none⟩)
 | 17=>.agg YN
 | 18=>.bool false
 | 19=>.bool false
 | 20=>.bool false
 | 21=>.int .i64 (k:Int)
 | 22=>.bool true
 | 23=>.bool true
 | 24=>.slice (some ⟨ga,oa,none⟩) n cp
 | 25=>.int .i64 (k:Int)
 | 26=>.int .i64 ((k:Int)-1)
 | 27=>.pointer (some ⟨ga,oa+(k-1)*71,none⟩)
 | 28=>.pointer (some ⟨ga,oa+(k-1)*71,none⟩)
 | 29=>.string p.path
 | 30=>.slice (some ⟨ga,oa,none⟩) n cp
 | 31=>.int .i64 (k:Int)
 | 32=>.pointer (some ⟨ga,oa+k*71,none⟩)
 | 33=>.pointer (some ⟨ga,oa+k*71,none⟩)
 | 34=>.string r.path
 | 35=>.int .i64 cm
 | 36=>.bool false
 | 37=>.bool false
 | 38=>.bool false
 | _=>undef
theorem regRE (ga oa n cp k:Nat) (r:Cd) (YO YN:Array Value) (p:Cd) (cm:Int)  (t0:Array Value) (wr:World) {Q:Exit→Act→World→Prop} (ht:t0.size=49) (h0:t0.getD 0 undef=.slice (some ⟨ga,oa,none⟩) n cp) (h3:t0.getD 3 undef=.int .i64 (k:Int))
  (hk:k<n) (lr:Lies wr ga (oa+k*71) (cc r)) (sr:r.path.size≤1048576) (hpe:decide (splitE (tl r.path) 64=0)=true) (hO:YO=(vx r.old).toArray) (hN:YN=(vx r.new).toArray) (hb:decide (r.old=r.new)=false) (hn:n≤1000000) (hkz:0<k) (lp:Lies wr ga (oa+(k-1)*71) (cc p)) (sp:p.path.size≤1048576) (hcm:cmpL (tl p.path) (tl r.path)=cm) (hge:¬ (0:Int)≤cm)
  (hQ:∀ w,Below wr.heap.size wr w→Q .normal ⟨fold o31x4 (VRE ga oa n cp k r YO YN p cm) t0 39,[]⟩ w):(Code.region 4 o31x4 true).wp Tryz.prog Q ⟨t0,[]⟩ wr:=by
 have hB:dstB o31x4 t0.size=true:=by rw [ht];exact dstR
 have kI:(k:Int)<(n:Int):=by omega
 have k0:(0:Int)≤(k:Int):=by omega
 have h0M:Below wr.heap.size wr wr.drew:=(Below.refl _ wr).drew
 have sO:YO.size=35:=by rw [hO];simp [jQ]
 have sN:YN.size=35:=by rw [hN];simp [jQ]
 have lO:Lies wr ga (oa+k*71+1) YO:=by rw [hO];exact lr.old
 have lN:Lies wr ga (oa+k*71+36) YN:=by rw [hN];exact lr.new
 have k1:(k:Int)-1<(n:Int):=by omega
 have kt:((k:Int)-1).toNat=k-1:=by omega
 have kw:IntKind.i64.wrap ((k:Int)-1)=(k:Int)-1:=by rw [IntKind.wrap_i64]<;>omega
 refine jk (by kernel_rfl) (IV o31x4 (VRE ga oa n cp k r YO YN p cm) t0 (fun _ w=>Below wr.heap.size wr w)) backR ⟨t0,rfl,⟨rfl,fun _ _=>rfl,fun _ _ _ _ _ h=>by cases h⟩,h0M⟩ ?_ ?_
 rotate_left 1
 ·rintro done a w ⟨t,rfl,hS,hw⟩ hall
  rw [hS.end hB hall,sizeR]
  exact hQ w hw
 ·rintro j op done a w ho ⟨t,rfl,hS,hw⟩ hnd hdep hcl
  have e0:t[0]?.getD undef=.slice (some ⟨ga,oa,none⟩) n cp:=(hS.old freeR0).trans h0
  have e3:t[3]?.getD undef=.int .i64 (k:Int):=(hS.old freeR3).trans h3
  have hlt:j<39:=by rw [← sizeR];exact (Array.getElem?_eq_some_iff.1 ho).1
  match j,hlt,ho,hnd,hdep with
  | 0,_,ho,hnd,hdep=>
   obtain ⟨hd,hop,hgd⟩:=jC sR_0 ho
   refine jF hB ho (jB hgd) hd hS hw ?_
   unfold execOp
   simp only [hop]
   simp [e0,VRE,go_sem]
  | 1,_,ho,hnd,hdep=>
   obtain ⟨hd,hop,hgd⟩:=jC sR_1 ho
   refine jF hB ho (jB hgd) hd hS hw ?_
   unfold execOp
   simp only [hop]
   simp [e3,VRE,go_sem]
  | 2,_,ho,hnd,hdep=>
   obtain ⟨hd,hop,hgd⟩:=jC sR_2 ho
   have x10:=hS.gt dR_0 ho hdep
   simp only [VRE] at x10
   have x11:=hS.gt dR_1 ho hdep
   simp only [VRE] at x11
   refine jF hB ho (jB hgd) hd hS hw ?_
   unfold execOp
   simp only [hop]
   simp [x10,x11,VRE,kI,k0,addr_add,go_sem]
  | 3,_,ho,hnd,hdep=>
   obtain ⟨hd,hop,hgd⟩:=jC sR_3 ho
   have x12:=hS.gt dR_2 ho hdep
   simp only [VRE] at x12
   refine jF hB ho (jB hgd) hd hS hw ?_
   unfold execOp
   simp only [hop]
   simp [x12,VRE,go_sem]
  | 4,_,ho,hnd,hdep=>
   obtain ⟨hd,hop,hgd⟩:=jC sR_4 ho
   have x13:=hS.gt dR_3 ho hdep
   simp only [VRE] at x13
   refine jF hB ho (jB hgd) hd hS hw ?_
   have cP:=((lr.below hw).path)
   unfold execOp
   simp only [hop]
   simp [x13,cP,VRE,go_sem]
  | 5,_,ho,hnd,hdep=>
   obtain ⟨hd,hop,hgd⟩:=jC sR_5 ho
   have x14:=hS.gt dR_4 ho hdep
   simp only [VRE] at x14
   refine iv_callG 73 #[.string r.path] hB ho (jB hgd) hd hS ?_ ?_
   ·skip
    unfold execOp
    simp only [hop]
    simp [x14,go_sem]
   ·exact (path_any r.path w sr).mono fun e w2 h=>⟨by rw [h.1,hpe];rfl,Below.up hw h.2⟩
  | 6,_,ho,hnd,hdep=>
   obtain ⟨hd,hop,hgd⟩:=jC sR_6 ho
   have x15:=hS.gt dR_5 ho hdep
   simp only [VRE] at x15
   refine jF hB ho (jB hgd) hd hS hw ?_
   unfold execOp
   simp only [hop]
   simp [x15,VRE,go_sem]
  | 7,_,ho,hnd,hdep=>
   obtain ⟨hd,hop,hgd⟩:=jC sR_7 ho
   have x16:=hS.gt dR_6 ho hdep
   simp only [VRE] at x16
   refine jF hB ho (jB hgd) hd hS hw ?_
   unfold execOp
   simp only [hop]
   simp [x16,VRE,go_sem]
  | 8,_,ho,hnd,hdep=>
   obtain ⟨hd,hop,hgd⟩:=jC sR_8 ho
   have gx:=hS.gt jm ho hdep
   simp only [VRE] at gx
   refine jF hB ho (jD hgd jm gx) hd hS hw ?_
   unfold execOp
   simp only [hop]
   simp [e0,VRE,go_sem]
  | 9,_,ho,hnd,hdep=>
   obtain ⟨hd,hop,hgd⟩:=jC sR_9 ho
   have gx:=hS.gt jm ho hdep
   simp only [VRE] at gx
   refine jF hB ho (jD hgd jm gx) hd hS hw ?_
   unfold execOp
   simp only [hop]
   simp [e3,VRE,go_sem]
  | 10,_,ho,hnd,hdep=>
   obtain ⟨hd,hop,hgd⟩:=jC sR_10 ho
   have gx:=hS.gt jm ho hdep
   simp only [VRE] at gx
   have x18:=hS.gt dR_8 ho hdep
   simp only [VRE] at x18
   have x19:=hS.gt dR_9 ho hdep
   simp only [VRE] at x19
   refine jF hB ho (jD hgd jm gx) hd hS hw ?_
   unfold execOp
   simp only [hop]
   simp [x18,x19,VRE,kI,k0,addr_add,go_sem]
  | 11,_,ho,hnd,hdep=>
   obtain ⟨hd,hop,hgd⟩:=jC sR_11 ho
   have gx:=hS.gt jm ho hdep
   simp only [VRE] at gx
   have x20:=hS.gt dR_10 ho hdep
   simp only [VRE] at x20
   refine jF hB ho (jD hgd jm gx) hd hS hw ?_
   unfold execOp
   simp only [hop]
   simp [x20,VRE,go_sem]
  | 12,_,ho,hnd,hdep=>
   obtain ⟨hd,hop,hgd⟩:=jC sR_12 ho
   have gx:=hS.gt jm ho hdep
   simp only [VRE] at gx
   have x21:=hS.gt dR_11 ho hdep
   simp only [VRE] at x21
   refine jF hB ho (jD hgd jm gx) hd hS hw ?_
   exact jq (a:=⟨t,[]⟩) _ hop ga (oa+k*71+1) (by show t.getD 21 undef=_;rw [Array.getD_eq_getD_getElem?];exact x21) _ sO (lO.below hw)
  | 13,_,ho,hnd,hdep=>
   obtain ⟨hd,hop,hgd⟩:=jC sR_13 ho
   have gx:=hS.gt jm ho hdep
   simp only [VRE] at gx
   refine jF hB ho (jD hgd jm gx) hd hS hw ?_
   unfold execOp
   simp only [hop]
   simp [e0,VRE,go_sem]
  | 14,_,ho,hnd,hdep=>
   obtain ⟨hd,hop,hgd⟩:=jC sR_14 ho
   have gx:=hS.gt jm ho hdep
   simp only [VRE] at gx
   refine jF hB ho (jD hgd jm gx) hd hS hw ?_
   unfold execOp
   simp only [hop]
   simp [e3,VRE,go_sem]
  | 15,_,ho,hnd,hdep=>
   obtain ⟨hd,hop,hgd⟩:=jC sR_15 ho
   have gx:=hS.gt jm ho hdep
   simp only [VRE] at gx
   have x23:=hS.gt dR_13 ho hdep
   simp only [VRE] at x23
   have x24:=hS.gt dR_14 ho hdep
   simp only [VRE] at x24
   refine jF hB ho (jD hgd jm gx) hd hS hw ?_
   unfold execOp
   simp only [hop]
   simp [x23,x24,VRE,kI,k0,addr_add,go_sem]
  | 16,_,ho,hnd,hdep=>
   obtain ⟨hd,hop,hgd⟩:=jC sR_16 ho
   have gx:=hS.gt jm ho hdep
   simp only [VRE] at gx
   have x25:=hS.gt dR_15 ho hdep
   simp only [VRE] at x25
   refine jF hB ho (jD hgd jm gx) hd hS hw ?_
   unfold execOp
   simp only [hop]
   simp [x25,VRE,go_sem]
  | 17,_,ho,hnd,hdep=>
   obtain ⟨hd,hop,hgd⟩:=jC sR_17 ho
   have gx:=hS.gt jm ho hdep
   simp only [VRE] at gx
   have x26:=hS.gt dR_16 ho hdep
   simp only [VRE] at x26
   refine jF hB ho (jD hgd jm gx) hd hS hw ?_
   exact jq (a:=⟨t,[]⟩) _ hop ga (oa+k*71+36) (by show t.getD 26 undef=_;rw [Array.getD_eq_getD_getElem?];exact x26) _ sN (lN.below hw)
  | 18,_,ho,hnd,hdep=>
   obtain ⟨hd,hop,hgd⟩:=jC sR_18 ho
   have gx:=hS.gt jm ho hdep
   simp only [VRE] at gx
   have x22:=hS.gt dR_12 ho hdep
   simp only [VRE] at x22
   have x27:=hS.gt dR_17 ho hdep
   simp only [VRE] at x27
   refine jF hB ho (jD hgd jm gx) hd hS hw ?_
   exact exec_eq53' (a:=⟨t,[]⟩) _ _ hop YO YN (by show t.getD 22 undef=_;rw [Array.getD_eq_getD_getElem?];exact x22) (by show t.getD 27 undef=_;rw [Array.getD_eq_getD_getElem?];exact x27) r.old r.new hO hN _ hb _
  | 19,_,ho,hnd,hdep=>
   obtain ⟨hd,hop,hgd⟩:=jC sR_19 ho
   have x17:=hS.gt jm ho hdep
   simp only [VRE] at x17
   have x28:=hS.gt dR_18 ho hdep
   simp only [VRE] at x28
   refine jF hB ho (jB hgd) hd hS hw ?_
   unfold execOp
   simp only [hop]
   simp [x17,x28,VRE,go_sem]
  | 20,_,ho,hnd,hdep=>
   obtain ⟨hd,hop,hgd⟩:=jC sR_20 ho
   have x29:=hS.gt dR_19 ho hdep
   simp only [VRE] at x29
   refine jF hB ho (jB hgd) hd hS hw ?_
   unfold execOp
   simp only [hop]
   simp [x29,VRE,go_sem]
  | 21,_,ho,hnd,hdep=>
   obtain ⟨hd,hop,hgd⟩:=jC sR_21 ho
   have gx:=hS.gt jr ho hdep
   simp only [VRE] at gx
   refine jF hB ho (jD hgd jr gx) hd hS hw ?_
   unfold execOp
   simp only [hop]
   simp [e3,VRE,go_sem]
  | 22,_,ho,hnd,hdep=>
   obtain ⟨hd,hop,hgd⟩:=jC sR_22 ho
   have gx:=hS.gt jr ho hdep
   simp only [VRE] at gx
   have x31:=hS.gt dR_21 ho hdep
   simp only [VRE] at x31
   refine jF hB ho (jD hgd jr gx) hd hS hw ?_
   unfold execOp
   simp only [hop]
   simp [x31,VRE,hkz,go_sem]
  | 23,_,ho,hnd,hdep=>
   obtain ⟨hd,hop,hgd⟩:=jC sR_23 ho
   have gx:=hS.gt jr ho hdep
   simp only [VRE] at gx
   have x32:=hS.gt dR_22 ho hdep
   simp only [VRE] at x32
   refine jF hB ho (jD hgd jr gx) hd hS hw ?_
   unfold execOp
   simp only [hop]
   simp [x32,VRE,go_sem]
  | 24,_,ho,hnd,hdep=>
   obtain ⟨hd,hop,hgd⟩:=jC sR_24 ho
   have gx:=hS.gt jS ho hdep
   simp only [VRE] at gx
   refine jF hB ho (jD hgd jS gx) hd hS hw ?_
   unfold execOp
   simp only [hop]
   simp [e0,VRE,go_sem]
  | 25,_,ho,hnd,hdep=>
   obtain ⟨hd,hop,hgd⟩:=jC sR_25 ho
   have gx:=hS.gt jS ho hdep
   simp only [VRE] at gx
   refine jF hB ho (jD hgd jS gx) hd hS hw ?_
   unfold execOp
   simp only [hop]
   simp [e3,VRE,go_sem]
  | 26,_,ho,hnd,hdep=>
   obtain ⟨hd,hop,hgd⟩:=jC sR_26 ho
   have gx:=hS.gt jS ho hdep
   simp only [VRE] at gx
   have x35:=hS.gt dR_25 ho hdep
   simp only [VRE] at x35
   refine jF hB ho (jD hgd jS gx) hd hS hw ?_
   unfold execOp
   simp only [hop]
   simp [x35,kw,VRE,go_sem]
  | 27,_,ho,hnd,hdep=>
   obtain ⟨hd,hop,hgd⟩:=jC sR_27 ho
   have gx:=hS.gt jS ho hdep
   simp only [VRE] at gx
   have x34:=hS.gt dR_24 ho hdep
   simp only [VRE] at x34
   have x36:=hS.gt dR_26 ho hdep
   simp only [VRE] at x36
   refine jF hB ho (jD hgd jS gx) hd hS hw ?_
   unfold execOp
   simp only [hop]
   simp [x34,x36,k1,kt,addr_add,VRE,go_sem]
   intro h
   omega
  | 28,_,ho,hnd,hdep=>
   obtain ⟨hd,hop,hgd⟩:=jC sR_28 ho
   have gx:=hS.gt jS ho hdep
   simp only [VRE] at gx
   have x37:=hS.gt dR_27 ho hdep
   simp only [VRE] at x37
   refine jF hB ho (jD hgd jS gx) hd hS hw ?_
   unfold execOp
   simp only [hop]
   simp [x37,VRE,go_sem]
  | 29,_,ho,hnd,hdep=>
   obtain ⟨hd,hop,hgd⟩:=jC sR_29 ho
   have gx:=hS.gt jS ho hdep
   simp only [VRE] at gx
   have x38:=hS.gt dR_28 ho hdep
   simp only [VRE] at x38
   refine jF hB ho (jD hgd jS gx) hd hS hw ?_
   have cP:=((lp.below hw).path)
   unfold execOp
   simp only [hop]
   simp [x38,cP,VRE,go_sem]
  | 30,_,ho,hnd,hdep=>
   obtain ⟨hd,hop,hgd⟩:=jC sR_30 ho
   have gx:=hS.gt jS ho hdep
   simp only [VRE] at gx
   refine jF hB ho (jD hgd jS gx) hd hS hw ?_
   unfold execOp
   simp only [hop]
   simp [e0,VRE,go_sem]
  | 31,_,ho,hnd,hdep=>
   obtain ⟨hd,hop,hgd⟩:=jC sR_31 ho
   have gx:=hS.gt jS ho hdep
   simp only [VRE] at gx
   refine jF hB ho (jD hgd jS gx) hd hS hw ?_
   unfold execOp
   simp only [hop]
   simp [e3,VRE,go_sem]
  | 32,_,ho,hnd,hdep=>
   obtain ⟨hd,hop,hgd⟩:=jC sR_32 ho
   have gx:=hS.gt jS ho hdep
   simp only [VRE] at gx
   have x40:=hS.gt dR_30 ho hdep
   simp only [VRE] at x40
   have x41:=hS.gt dR_31 ho hdep
   simp only [VRE] at x41
   refine jF hB ho (jD hgd jS gx) hd hS hw ?_
   unfold execOp
   simp only [hop]
   simp [x40,x41,VRE,kI,k0,addr_add,go_sem]
  | 33,_,ho,hnd,hdep=>
   obtain ⟨hd,hop,hgd⟩:=jC sR_33 ho
   have gx:=hS.gt jS ho hdep
   simp only [VRE] at gx
   have x42:=hS.gt dR_32 ho hdep
   simp only [VRE] at x42
   refine jF hB ho (jD hgd jS gx) hd hS hw ?_
   unfold execOp
   simp only [hop]
   simp [x42,VRE,go_sem]
  | 34,_,ho,hnd,hdep=>
   obtain ⟨hd,hop,hgd⟩:=jC sR_34 ho
   have gx:=hS.gt jS ho hdep
   simp only [VRE] at gx
   have x43:=hS.gt dR_33 ho hdep
   simp only [VRE] at x43
   refine jF hB ho (jD hgd jS gx) hd hS hw ?_
   have cP:=((lr.below hw).path)
   unfold execOp
   simp only [hop]
   simp [x43,cP,VRE,go_sem]
  | 35,_,ho,hnd,hdep=>
   obtain ⟨hd,hop,hgd⟩:=jC sR_35 ho
   have gx:=hS.gt jS ho hdep
   simp only [VRE] at gx
   have x39:=hS.gt dR_29 ho hdep
   simp only [VRE] at x39
   have x44:=hS.gt dR_34 ho hdep
   simp only [VRE] at x44
   refine iv_callG 34 #[.string p.path,.string r.path] hB ho (jD hgd jS gx) hd hS ?_ ?_
   ·skip
    unfold execOp
    simp only [hop]
    simp [x39,x44,go_sem]
   ·exact (refCompare_any p.path r.path w sp sr).mono fun e w2 h=>⟨by rw [h.1,hcm];rfl,Below.up hw h.2⟩
  | 36,_,ho,hnd,hdep=>
   obtain ⟨hd,hop,hgd⟩:=jC sR_36 ho
   have gx:=hS.gt jS ho hdep
   simp only [VRE] at gx
   have x45:=hS.gt dR_35 ho hdep
   simp only [VRE] at x45
   refine jF hB ho (jD hgd jS gx) hd hS hw ?_
   unfold execOp
   simp only [hop]
   simp [x45,hge,VRE,go_sem]
  | 37,_,ho,hnd,hdep=>
   obtain ⟨hd,hop,hgd⟩:=jC sR_37 ho
   have gx:=hS.gt jr ho hdep
   simp only [VRE] at gx
   have x33:=hS.gt jS ho hdep
   simp only [VRE] at x33
   have x46:=hS.gt dR_36 ho hdep
   simp only [VRE] at x46
   refine jF hB ho (jD hgd jr gx) hd hS hw ?_
   unfold execOp
   simp only [hop]
   simp [x33,x46,VRE,go_sem]
  | 38,_,ho,hnd,hdep=>
   obtain ⟨hd,hop,hgd⟩:=jC sR_38 ho
   have x30:=hS.gt jr ho hdep
   simp only [VRE] at x30
   have x47:=hS.gt dR_37 ho hdep
   simp only [VRE] at x47
   refine jF hB ho (jB hgd) hd hS hw ?_
   unfold execOp
   simp only [hop]
   simp [x30,x47,VRE,go_sem]
theorem foldRE (ga oa n cp k:Nat) (r:Cd) (YO YN:Array Value) (p:Cd) (cm:Int) (t0:Array Value):fold o31x4 (VRE ga oa n cp k r YO YN p cm) t0 39=(((((((((((((((((((((((((((((((((((((((t0.setIfInBounds 10 (.slice (some ⟨ga,oa,none⟩) n cp)).setIfInBounds 11 (.int .i64 (k:Int))).setIfInBounds 12 (.pointer (some ⟨ga,oa+k*71,none⟩))).setIfInBounds 13 (.pointer (some ⟨ga,oa+k*71,none⟩))).setIfInBounds 14 (.string r.path)).setIfInBounds 15 (.bool true)).setIfInBounds 16 (.bool false)).setIfInBounds 17 (.bool false)).setIfInBounds 18 (.slice (some ⟨ga,oa,none⟩) n cp)).setIfInBounds 19 (.int .i64 (k:Int))).setIfInBounds 20 (.pointer (some ⟨ga,oa+k*71,none⟩))).setIfInBounds 21 (.pointer (some ⟨ga,oa+k*71+1,none⟩))).setIfInBounds 22 (.agg YO)).setIfInBounds 23 (.slice (some ⟨ga,oa,none⟩) n cp)).setIfInBounds 24 (.int .i64 (k:Int))).setIfInBounds 25 (.pointer (some ⟨ga,oa+k*71,none⟩))).setIfInBounds 26 (.pointer (some ⟨ga,oa+k*71+36,none⟩))).setIfInBounds 27 (.agg YN)).setIfInBounds 28 (.bool false)).setIfInBounds 29 (.bool false)).setIfInBounds 30 (.bool false)).setIfInBounds 31 (.int .i64 (k:Int))).setIfInBounds 32 (.bool true)).setIfInBounds 33 (.bool true)).setIfInBounds 34 (.slice (some ⟨ga,oa,none⟩) n cp)).setIfInBounds 35 (.int .i64 (k:Int))).setIfInBounds 36 (.int .i64 ((k:Int)-1))).setIfInBounds 37 (.pointer (some ⟨ga,oa+(k-1)*71,none⟩))).setIfInBounds 38 (.pointer (some ⟨ga,oa+(k-1)*71,none⟩))).setIfInBounds 39 (.string p.path)).setIfInBounds 40 (.slice (some ⟨ga,oa,none⟩) n cp)).setIfInBounds 41 (.int .i64 (k:Int))).setIfInBounds 42 (.pointer (some ⟨ga,oa+k*71,none⟩))).setIfInBounds 43 (.pointer (some ⟨ga,oa+k*71,none⟩))).setIfInBounds 44 (.string r.path)).setIfInBounds 45 (.int .i64 cm)).setIfInBounds 46 (.bool false)).setIfInBounds 47 (.bool false)).setIfInBounds 48 (.bool false)):=by kernel_rfl
end Go.Proofs.YthfcanpkhjgomaaGreat.Ch
