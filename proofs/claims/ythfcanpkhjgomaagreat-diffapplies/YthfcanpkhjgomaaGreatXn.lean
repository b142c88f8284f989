import Derived.Test.YthfcanpkhjgomaaGreatXj
set_option maxRecDepth 100000
set_option maxHeartbeats 8000000
namespace Go.Proofs.YthfcanpkhjgomaaGreat
open Go.RowKit Ch
attribute [local go_sem] Oper.semAt_some
theorem ie_skip {P:Program} {ops:Array Oper} {Q:Exit→Act→World→Prop} {α:Type} {V:α→Nat→Value} {t0 t:Array Value} {done:Nat→Bool} {Mem:α→(Nat→Bool)→World→Prop} {i d:Nat} {o:Oper} {w:World} (r:α) (hB:dstB ops t0.size=true) (ho:ops[i]?=some o) (hg:Region.wanted o (yielded ops t)=false) (hd:o.dst=some d) (hs:Slots ops (V r) t0 t done) (hM:Mem r (upd done i) w) (hV:V r i=undef):wpOp P ops Q i (IE ops V t0 Mem (upd done i)) ⟨t,[]⟩ w:=by
 unfold wpOp
 rw [ho]
 simp only
 rw [if_neg (by rw [hg];simp)]
 show IE ops V t0 Mem (upd done i) (Act.put ⟨t,[]⟩ o.dst undef) w
 rw [hd,← hV]
 exact ⟨r,_,rfl,hs.put hB ho hd,hM⟩
structure L1 where
 n1:Array Value
def M1 (F1:Array Value→World→Prop) (wr:World) (r:L1) (done:Nat→Bool) (w:World):Prop:=Below wr.heap.size wr w∧(done 4=true→F1 r.n1 w)
theorem M1.step {F1:Array Value→World→Prop} {wr:World} {r:L1} {done:Nat→Bool} {w:World} (h:M1 F1 wr r done w) {j:Nat} (h4:j≠4):M1 F1 wr r (upd done j) w:=by
 unfold M1 at *
 rw [upd_ne done (Ne.symm h4)]
 exact h
theorem M1.grow {F1:Array Value→World→Prop} {wr:World} {r:L1} {done:Nat→Bool} {w w2:World} (h:M1 F1 wr r done w) (hF1:∀ c w w',F1 c w→Below w.heap.size w w'→F1 c w') (hb:Below w.heap.size w w2):M1 F1 wr r done w2:=
 ⟨h.1.trans (hb.mono h.1.size),fun q=>hF1 _ _ _ (h.2 q) hb⟩
noncomputable abbrev o3x16:Array Oper:=opsAt Tryz.f3 16
theorem backN16:backB o3x16=true:=by kernel_rfl
theorem dstN16:dstB o3x16 113=true:=by kernel_rfl
theorem sizeN16:o3x16.size=9:=by kernel_rfl
theorem freeN1613:freeB o3x16 13=true:=by kernel_rfl
theorem freeN169:freeB o3x16 9=true:=by kernel_rfl
theorem sN16_0:say o3x16 0=some (some 74,.move (.tmp 13),none):=by kernel_rfl
theorem dN16_0:slotB o3x16 0=some 74:=by kernel_rfl
theorem sN16_1:say o3x16 1=some (some 75,.binOp .neq 34 (.tmp 74) (.const (.pointer none)) 34,none):=by kernel_rfl
theorem dN16_1:slotB o3x16 1=some 75:=by kernel_rfl
theorem sN16_2:say o3x16 2=some (some 76,.move (.tmp 75),none):=by kernel_rfl
theorem qG:slotB o3x16 2=some 76:=by kernel_rfl
theorem sN16_3:say o3x16 3=some (some 77,.move (.tmp 13),some (2,true)):=by kernel_rfl
theorem dN16_3:slotB o3x16 3=some 77:=by kernel_rfl
theorem sN16_4:say o3x16 4=some (some 78,.call { callee:=.value (.func 16),args:=#[.tmp 77],argTypes:=#[34] },some (2,true)):=by kernel_rfl
theorem dN16_4:slotB o3x16 4=some 78:=by kernel_rfl
theorem sN16_5:say o3x16 5=some (some 79,.load 30 (.tmp 9),some (2,true)):=by kernel_rfl
theorem dN16_5:slotB o3x16 5=some 79:=by kernel_rfl
theorem sN16_6:say o3x16 6=some (some 80,.call { callee:=.value (.func 15),args:=#[.tmp 78,.tmp 79],argTypes:=#[30,30] },some (2,true)):=by kernel_rfl
theorem dN16_6:slotB o3x16 6=some 80:=by kernel_rfl
theorem sN16_7:say o3x16 7=some (some 81,.unOp .not 4 (.tmp 80),some (2,true)):=by kernel_rfl
theorem dN16_7:slotB o3x16 7=some 81:=by kernel_rfl
theorem sN16_8:say o3x16 8=some (some 82,.pick (.tmp 76) (.tmp 81) (.const (.bool false)),none):=by kernel_rfl
def VN16 (_T p1:Nat) (cw:Array Value) (r:L1):Nat→Value
 | 0=>.pointer (some ⟨p1,0,none⟩)
 | 1=>.bool true
 | 2=>.bool true
 | 3=>.pointer (some ⟨p1,0,none⟩)
 | 4=>.agg r.n1
 | 5=>.agg cw
 | 6=>.bool true
 | 7=>.bool false
 | 8=>.bool false
 | _=>undef
theorem regN16 (T p1:Nat) (cw:Array Value) (F1:Array Value→World→Prop) (t0:Array Value) (wr:World) {Q:Exit→Act→World→Prop} (ht:t0.size=113) (h13:t0.getD 13 undef=.pointer (some ⟨p1,0,none⟩)) (h9:t0.getD 9 undef=.pointer (some ⟨T,0,none⟩))
  (lw:Lies wr T 0 cw) (sw:cw.size=41) (hF1:∀ c w w',F1 c w→Below w.heap.size w w'→F1 c w')
  (hC1:∀ w,Below wr.heap.size wr w→Calls Tryz.prog 16 #[.pointer (some ⟨p1,0,none⟩)] w fun e w'=>∃ c',e=.returned (.agg c')∧F1 c' w'∧Below w.heap.size w w') (hE1:∀ a w,Below wr.heap.size wr w→F1 a w→Calls Tryz.prog 15 #[.agg a,.agg cw] w fun e w'=>e=.returned (.bool true)∧Below w.heap.size w w')
  (hQ:∀ r w,Below wr.heap.size wr w→Q .normal ⟨fold o3x16 (VN16 T p1 cw r) t0 9,[]⟩ w):(Code.region 16 o3x16 true).wp Tryz.prog Q ⟨t0,[]⟩ wr:=by
 have hB:dstB o3x16 t0.size=true:=by rw [ht];exact dstN16
 refine jk (by kernel_rfl) (IE o3x16 (VN16 T p1 cw) t0 (M1 F1 wr)) backN16 ⟨⟨#[]⟩,t0,rfl,⟨rfl,fun _ _=>rfl,fun _ _ _ _ _ h=>by cases h⟩,Below.drews (Below.refl _ wr) ⟨1,rfl⟩,(fun h=>by cases h)⟩ ?_ ?_
 rotate_left 1
 ·rintro done a w ⟨r,t,rfl,hS,hM⟩ hall
  rw [hS.end hB hall,sizeN16]
  exact hQ r w hM.1
 ·rintro jz op done a w ho ⟨r,t,rfl,hS,hM⟩ hnd hdep hcl
  have e13:t[13]?.getD undef=.pointer (some ⟨p1,0,none⟩):=(hS.old freeN1613).trans h13
  have e9:t[9]?.getD undef=.pointer (some ⟨T,0,none⟩):=(hS.old freeN169).trans h9
  have hlt:jz<9:=by rw [← sizeN16];exact (Array.getElem?_eq_some_iff.1 ho).1
  match jz,hlt,ho,hnd,hdep with
  | 0,_,ho,hnd,hdep=>
   obtain ⟨hd,hop,hgd⟩:=jC sN16_0 ho
   refine jK r hB ho (jB hgd) hd hS (hM.step (by decide)) ?_
   unfold execOp
   simp only [hop]
   simp [e13,VN16,go_sem]
  | 1,_,ho,hnd,hdep=>
   obtain ⟨hd,hop,hgd⟩:=jC sN16_1 ho
   have x74:=hS.gt dN16_0 ho hdep
   simp only [VN16] at x74
   refine jK r hB ho (jB hgd) hd hS (hM.step (by decide)) ?_
   unfold execOp
   simp only [hop]
   simp [x74,VN16,go_sem]
  | 2,_,ho,hnd,hdep=>
   obtain ⟨hd,hop,hgd⟩:=jC sN16_2 ho
   have x75:=hS.gt dN16_1 ho hdep
   simp only [VN16] at x75
   refine jK r hB ho (jB hgd) hd hS (hM.step (by decide)) ?_
   unfold execOp
   simp only [hop]
   simp [x75,VN16,go_sem]
  | 3,_,ho,hnd,hdep=>
   obtain ⟨hd,hop,hgd⟩:=jC sN16_3 ho
   have gx:=hS.gt qG ho hdep
   simp only [VN16] at gx
   refine jK r hB ho (jD hgd qG gx) hd hS (hM.step (by decide)) ?_
   unfold execOp
   simp only [hop]
   simp [e13,VN16,go_sem]
  | 4,_,ho,hnd,hdep=>
   obtain ⟨hd,hop,hgd⟩:=jC sN16_4 ho
   have gx:=hS.gt qG ho hdep
   simp only [VN16] at gx
   have x77:=hS.gt dN16_3 ho hdep
   simp only [VN16] at x77
   refine qI r 16 #[.pointer (some ⟨p1,0,none⟩)] hB ho (jD hgd qG gx) hd hS ?_ ?_
   ·skip
    unfold execOp
    simp only [hop]
    simp [x77,go_sem]
   ·skip
    refine (hC1 w hM.1).mono ?_
    rintro e w' ⟨c',rfl,hc',hg'⟩
    refine ⟨{ r with n1:=c' },rfl,fun k hk=>?_,hM.1.trans (hg'.mono hM.1.size),fun _=>hc'⟩
    ·skip
     have h4:k≠4:=fun e=>by rw [e,hnd] at hk;cases hk
     unfold VN16
     split<;>first | rfl | exact absurd rfl h4
  | 5,_,ho,hnd,hdep=>
   obtain ⟨hd,hop,hgd⟩:=jC sN16_5 ho
   have gx:=hS.gt qG ho hdep
   simp only [VN16] at gx
   refine jK r hB ho (jD hgd qG gx) hd hS (hM.step (by decide)) ?_
   exact jH (a:=⟨t,[]⟩) _ hop T 0 (by show t.getD 9 undef=_;rw [Array.getD_eq_getD_getElem?];exact e9) cw sw (lw.below hM.1)
  | 6,_,ho,hnd,hdep=>
   obtain ⟨hd,hop,hgd⟩:=jC sN16_6 ho
   have gx:=hS.gt qG ho hdep
   simp only [VN16] at gx
   have x78:=hS.gt dN16_4 ho hdep
   simp only [VN16] at x78
   have x79:=hS.gt dN16_5 ho hdep
   simp only [VN16] at x79
   have a4:done 4=true:=waits (j:=4) (by kernel_rfl) ho hdep
   refine qI r 15 #[.agg r.n1,.agg cw] hB ho (jD hgd qG gx) hd hS ?_ ?_
   ·skip
    unfold execOp
    simp only [hop]
    simp [x78,x79,go_sem]
   ·skip
    refine (hE1 _ w hM.1 (hM.2 a4)).mono ?_
    rintro e w' ⟨rfl,hg'⟩
    exact ⟨r,rfl,fun _ _=>rfl,(hM.grow hF1 hg').step (by decide)⟩
  | 7,_,ho,hnd,hdep=>
   obtain ⟨hd,hop,hgd⟩:=jC sN16_7 ho
   have gx:=hS.gt qG ho hdep
   simp only [VN16] at gx
   have x80:=hS.gt dN16_6 ho hdep
   simp only [VN16] at x80
   refine jK r hB ho (jD hgd qG gx) hd hS (hM.step (by decide)) ?_
   unfold execOp
   simp only [hop]
   simp [x80,VN16,go_sem]
  | 8,_,ho,hnd,hdep=>
   obtain ⟨hd,hop,hgd⟩:=jC sN16_8 ho
   have x76:=hS.gt qG ho hdep
   simp only [VN16] at x76
   have x81:=hS.gt dN16_7 ho hdep
   simp only [VN16] at x81
   refine jK r hB ho (jB hgd) hd hS (hM.step (by decide)) ?_
   unfold execOp
   simp only [hop]
   simp [x76,x81,VN16,go_sem]
theorem foldN16 (T p1:Nat) (cw:Array Value) (r:L1) (t0:Array Value):fold o3x16 (VN16 T p1 cw r) t0 9=(((((((((t0.setIfInBounds 74 (.pointer (some ⟨p1,0,none⟩))).setIfInBounds 75 (.bool true)).setIfInBounds 76 (.bool true)).setIfInBounds 77 (.pointer (some ⟨p1,0,none⟩))).setIfInBounds 78 (.agg r.n1)).setIfInBounds 79 (.agg cw)).setIfInBounds 80 (.bool true)).setIfInBounds 81 (.bool false)).setIfInBounds 82 (.bool false)):=by kernel_rfl
def VZ16 (__q:Unit) (_r:Unit):Nat→Value
 | 0=>.pointer none
 | 1=>.bool false
 | 2=>.bool false
 | 3=>undef
 | 4=>undef
 | 5=>undef
 | 6=>undef
 | 7=>undef
 | 8=>.bool false
 | _=>undef
theorem regZ16 (_q:Unit)  (t0:Array Value) (wr:World) {Q:Exit→Act→World→Prop} (ht:t0.size=113) (h13:t0.getD 13 undef=.pointer none)
  (hQ:∀ w,Below wr.heap.size wr w→Q .normal ⟨fold o3x16 (VZ16 () ()) t0 9,[]⟩ w):(Code.region 16 o3x16 true).wp Tryz.prog Q ⟨t0,[]⟩ wr:=by
 have hB:dstB o3x16 t0.size=true:=by rw [ht];exact dstN16
 refine jk (by kernel_rfl) (IE o3x16 (VZ16 _q) t0 ((fun (_:Unit) (_:Nat→Bool) (w:World)=>Below wr.heap.size wr w) )) backN16 ⟨(),t0,rfl,⟨rfl,fun _ _=>rfl,fun _ _ _ _ _ h=>by cases h⟩,Below.drews (Below.refl _ wr) ⟨1,rfl⟩⟩ ?_ ?_
 rotate_left 1
 ·rintro done a w ⟨r,t,rfl,hS,hM⟩ hall
  rw [hS.end hB hall,sizeN16]
  exact hQ w hM
 ·rintro jz op done a w ho ⟨r,t,rfl,hS,hM⟩ hnd hdep hcl
  have e13:t[13]?.getD undef=.pointer none:=(hS.old freeN1613).trans h13
  have hlt:jz<9:=by rw [← sizeN16];exact (Array.getElem?_eq_some_iff.1 ho).1
  match jz,hlt,ho,hnd,hdep with
  | 0,_,ho,hnd,hdep=>
   obtain ⟨hd,hop,hgd⟩:=jC sN16_0 ho
   refine jK r hB ho (jB hgd) hd hS hM ?_
   unfold execOp
   simp only [hop]
   simp [e13,VZ16,go_sem]
  | 1,_,ho,hnd,hdep=>
   obtain ⟨hd,hop,hgd⟩:=jC sN16_1 ho
   have x74:=hS.gt dN16_0 ho hdep
   simp only [VZ16] at x74
   refine jK r hB ho (jB hgd) hd hS hM ?_
   unfold execOp
   simp only [hop]
   simp [x74,VZ16,go_sem]
  | 2,_,ho,hnd,hdep=>
   obtain ⟨hd,hop,hgd⟩:=jC sN16_2 ho
   have x75:=hS.gt dN16_1 ho hdep
   simp only [VZ16] at x75
   refine jK r hB ho (jB hgd) hd hS hM ?_
   unfold execOp
   simp only [hop]
   simp [x75,VZ16,go_sem]
  | 3,_,ho,hnd,hdep=>
   obtain ⟨hd,hop,hgd⟩:=jC sN16_3 ho
   have gx:=hS.gt qG ho hdep
   simp only [VZ16] at gx
   exact ie_skip r hB ho (jL hgd qG gx rfl) hd hS hM rfl
  | 4,_,ho,hnd,hdep=>
   obtain ⟨hd,hop,hgd⟩:=jC sN16_4 ho
   have gx:=hS.gt qG ho hdep
   simp only [VZ16] at gx
   exact ie_skip r hB ho (jL hgd qG gx rfl) hd hS hM rfl
  | 5,_,ho,hnd,hdep=>
   obtain ⟨hd,hop,hgd⟩:=jC sN16_5 ho
   have gx:=hS.gt qG ho hdep
   simp only [VZ16] at gx
   exact ie_skip r hB ho (jL hgd qG gx rfl) hd hS hM rfl
  | 6,_,ho,hnd,hdep=>
   obtain ⟨hd,hop,hgd⟩:=jC sN16_6 ho
   have gx:=hS.gt qG ho hdep
   simp only [VZ16] at gx
   exact ie_skip r hB ho (jL hgd qG gx rfl) hd hS hM rfl
  | 7,_,ho,hnd,hdep=>
   obtain ⟨hd,hop,hgd⟩:=jC sN16_7 ho
   have gx:=hS.gt qG ho hdep
   simp only [VZ16] at gx
   exact ie_skip r hB ho (jL hgd qG gx rfl) hd hS hM rfl
  | 8,_,ho,hnd,hdep=>
   obtain ⟨hd,hop,hgd⟩:=jC sN16_8 ho
   have x76:=hS.gt qG ho hdep
   simp only [VZ16] at x76
   have x81:=hS.gt dN16_7 ho hdep
   simp only [VZ16] at x81
   refine jK r hB ho (jB hgd) hd hS hM ?_
   unfold execOp
   simp only [hop]
   simp [x76,x81,VZ16,go_sem]
theorem foldZ16 (_q:Unit) (r:Unit) (t0:Array Value):fold o3x16 (VZ16 _q r) t0 9=(((((((((t0.setIfInBounds 74 (.pointer none)).setIfInBounds 75 (.bool false)).setIfInBounds 76 (.bool false)).setIfInBounds 77 (undef)).setIfInBounds 78 (undef)).setIfInBounds 79 (undef)).setIfInBounds 80 (undef)).setIfInBounds 81 (undef)).setIfInBounds 82 (.bool false)):=by kernel_rfl
structure L3 where
 n1:Array Value
 n2:Array Value
 f2:Array Value
def M3 (F1 F2 G2:Array Value→World→Prop) (wr:World) (r:L3) (done:Nat→Bool) (w:World):Prop:=Below wr.heap.size wr w∧(done 4=true→F1 r.n1 w)∧(done 10=true→F2 r.n2 w)∧(done 12=true→G2 r.f2 w)
theorem M3.step {F1 F2 G2:Array Value→World→Prop} {wr:World} {r:L3} {done:Nat→Bool} {w:World} (h:M3 F1 F2 G2 wr r done w) {j:Nat} (h4:j≠4) (h10:j≠10) (h12:j≠12):M3 F1 F2 G2 wr r (upd done j) w:=by
 unfold M3 at *
 rw [upd_ne done (Ne.symm h4),upd_ne done (Ne.symm h10),upd_ne done (Ne.symm h12)]
 exact h
theorem M3.grow {F1 F2 G2:Array Value→World→Prop} {wr:World} {r:L3} {done:Nat→Bool} {w w2:World} (h:M3 F1 F2 G2 wr r done w) (hF1:∀ c w w',F1 c w→Below w.heap.size w w'→F1 c w') (hF2:∀ c w w',F2 c w→Below w.heap.size w w'→F2 c w') (hG2:∀ c w w',G2 c w→Below w.heap.size w w'→G2 c w') (hb:Below w.heap.size w w2):M3 F1 F2 G2 wr r done w2:=
 ⟨h.1.trans (hb.mono h.1.size),fun q=>hF1 _ _ _ (h.2.1 q) hb,fun q=>hF2 _ _ _ (h.2.2.1 q) hb,fun q=>hG2 _ _ _ (h.2.2.2 q) hb⟩
noncomputable abbrev o3x23:Array Oper:=opsAt Tryz.f3 23
theorem backS23:backB o3x23=true:=by kernel_rfl
theorem dstS23:dstB o3x23 113=true:=by kernel_rfl
theorem sizeS23:o3x23.size=20:=by kernel_rfl
theorem freeS2311:freeB o3x23 11=true:=by kernel_rfl
theorem freeS235:freeB o3x23 5=true:=by kernel_rfl
theorem freeS232:freeB o3x23 2=true:=by kernel_rfl
theorem freeS237:freeB o3x23 7=true:=by kernel_rfl
theorem freeS239:freeB o3x23 9=true:=by kernel_rfl
theorem sS23_0:say o3x23 0=some (some 94,.move (.tmp 11),none):=by kernel_rfl
theorem dS23_0:slotB o3x23 0=some 94:=by kernel_rfl
theorem sS23_1:say o3x23 1=some (some 95,.binOp .eql 34 (.tmp 94) (.const (.pointer none)) 34,none):=by kernel_rfl
theorem dS23_1:slotB o3x23 1=some 95:=by kernel_rfl
theorem sS23_2:say o3x23 2=some (some 96,.move (.tmp 95),none):=by kernel_rfl
theorem qP:slotB o3x23 2=some 96:=by kernel_rfl
theorem sS23_3:say o3x23 3=some (some 97,.move (.tmp 11),some (2,false)):=by kernel_rfl
theorem dS23_3:slotB o3x23 3=some 97:=by kernel_rfl
theorem sS23_4:say o3x23 4=some (some 98,.call { callee:=.value (.func 16),args:=#[.tmp 97],argTypes:=#[34] },some (2,false)):=by kernel_rfl
theorem dS23_4:slotB o3x23 4=some 98:=by kernel_rfl
theorem sS23_5:say o3x23 5=some (some 99,.load 30 (.tmp 9),some (2,false)):=by kernel_rfl
theorem dS23_5:slotB o3x23 5=some 99:=by kernel_rfl
theorem sS23_6:say o3x23 6=some (some 100,.call { callee:=.value (.func 15),args:=#[.tmp 98,.tmp 99],argTypes:=#[30,30] },some (2,false)):=by kernel_rfl
theorem dS23_6:slotB o3x23 6=some 100:=by kernel_rfl
theorem sS23_7:say o3x23 7=some (some 101,.pick (.tmp 96) (.const (.bool true)) (.tmp 100),none):=by kernel_rfl
theorem dS23_7:slotB o3x23 7=some 101:=by kernel_rfl
theorem sS23_8:say o3x23 8=some (some 102,.move (.tmp 101),none):=by kernel_rfl
theorem qH:slotB o3x23 8=some 102:=by kernel_rfl
theorem sS23_9:say o3x23 9=some (some 103,.move (.tmp 5),some (8,true)):=by kernel_rfl
theorem dS23_9:slotB o3x23 9=some 103:=by kernel_rfl
theorem sS23_10:say o3x23 10=some (some 104,.call { callee:=.value (.func 16),args:=#[.tmp 103],argTypes:=#[34] },some (8,true)):=by kernel_rfl
theorem dS23_10:slotB o3x23 10=some 104:=by kernel_rfl
theorem sS23_11:say o3x23 11=some (some 105,.load 30 (.tmp 2),some (8,true)):=by kernel_rfl
theorem dS23_11:slotB o3x23 11=some 105:=by kernel_rfl
theorem sS23_12:say o3x23 12=some (some 106,.call { callee:=.value (.func 17),args:=#[.tmp 105],argTypes:=#[30] },some (8,true)):=by kernel_rfl
theorem dS23_12:slotB o3x23 12=some 106:=by kernel_rfl
theorem sS23_13:say o3x23 13=some (some 107,.call { callee:=.value (.func 15),args:=#[.tmp 104,.tmp 106],argTypes:=#[30,30] },some (8,true)):=by kernel_rfl
theorem dS23_13:slotB o3x23 13=some 107:=by kernel_rfl
theorem sS23_14:say o3x23 14=some (some 108,.pick (.tmp 102) (.tmp 107) (.const (.bool false)),none):=by kernel_rfl
theorem dS23_14:slotB o3x23 14=some 108:=by kernel_rfl
theorem sS23_15:say o3x23 15=some (some 109,.move (.tmp 108),none):=by kernel_rfl
theorem dS23_15:slotB o3x23 15=some 109:=by kernel_rfl
theorem sS23_16:say o3x23 16=some (some 110,.move (.tmp 7),some (15,true)):=by kernel_rfl
theorem dS23_16:slotB o3x23 16=some 110:=by kernel_rfl
theorem sS23_17:say o3x23 17=some (some 111,.call { callee:=.value (.func 14),args:=#[.tmp 110],argTypes:=#[37] },some (15,true)):=by kernel_rfl
theorem dS23_17:slotB o3x23 17=some 111:=by kernel_rfl
theorem sS23_18:say o3x23 18=some (some 112,.pick (.tmp 109) (.tmp 111) (.const (.bool false)),none):=by kernel_rfl
theorem dS23_18:slotB o3x23 18=some 112:=by kernel_rfl
theorem sS23_19:say o3x23 19=some (some 4,.assign (.tmp 112),none):=by kernel_rfl
def VS23 (_T _B R p1 p3:Nat) (cw c1:Array Value) (r:L3):Nat→Value
 | 0=>.pointer (some ⟨p3,0,none⟩)
 | 1=>.bool false
 | 2=>.bool false
 | 3=>.pointer (some ⟨p3,0,none⟩)
 | 4=>.agg r.n1
 | 5=>.agg cw
 | 6=>.bool true
 | 7=>.bool true
 | 8=>.bool true
 | 9=>.pointer (some ⟨p1,0,none⟩)
 | 10=>.agg r.n2
 | 11=>.agg c1
 | 12=>.agg r.f2
 | 13=>.bool true
 | 14=>.bool true
 | 15=>.bool true
 | 16=>.pointer (some ⟨R,0,none⟩)
 | 17=>.bool true
 | 18=>.bool true
 | 19=>.bool true
 | _=>undef
theorem regS23 (T B R p1 p3:Nat) (cw c1:Array Value) (F1 F2 G2:Array Value→World→Prop) (t0:Array Value) (wr:World) {Q:Exit→Act→World→Prop} (ht:t0.size=113) (h11:t0.getD 11 undef=.pointer (some ⟨p3,0,none⟩)) (h5:t0.getD 5 undef=.pointer (some ⟨p1,0,none⟩)) (h2:t0.getD 2 undef=.pointer (some ⟨B,0,none⟩)) (h7:t0.getD 7 undef=.pointer (some ⟨R,0,none⟩)) (h9:t0.getD 9 undef=.pointer (some ⟨T,0,none⟩))
  (lw:Lies wr T 0 cw) (sw:cw.size=41) (hF1:∀ c w w',F1 c w→Below w.heap.size w w'→F1 c w') (hC1:∀ w,Below wr.heap.size wr w→Calls Tryz.prog 16 #[.pointer (some ⟨p3,0,none⟩)] w fun e w'=>∃ c',e=.returned (.agg c')∧F1 c' w'∧Below w.heap.size w w') (hE1:∀ a w,Below wr.heap.size wr w→F1 a w→Calls Tryz.prog 15 #[.agg a,.agg cw] w fun e w'=>e=.returned (.bool true)∧Below w.heap.size w w')
  (l1:Lies wr B 0 c1) (s1:c1.size=41) (hF2:∀ c w w',F2 c w→Below w.heap.size w w'→F2 c w') (hG2:∀ c w w',G2 c w→Below w.heap.size w w'→G2 c w')
  (hC2:∀ w,Below wr.heap.size wr w→Calls Tryz.prog 16 #[.pointer (some ⟨p1,0,none⟩)] w fun e w'=>∃ c',e=.returned (.agg c')∧F2 c' w'∧Below w.heap.size w w') (hD2:∀ w,Below wr.heap.size wr w→Calls Tryz.prog 17 #[.agg c1] w fun e w'=>∃ c',e=.returned (.agg c')∧G2 c' w'∧Below w.heap.size w w') (hE2:∀ a b w,F2 a w→G2 b w→Calls Tryz.prog 15 #[.agg a,.agg b] w fun e w'=>e=.returned (.bool true)∧Below w.heap.size w w') (hH:∀ w,Below wr.heap.size wr w→Calls Tryz.prog 14 #[.pointer (some ⟨R,0,none⟩)] w fun e w'=>e=.returned (.bool true)∧Below w.heap.size w w')
  (hQ:∀ r w,Below wr.heap.size wr w→Q .normal ⟨fold o3x23 (VS23 T B R p1 p3 cw c1 r) t0 20,[]⟩ w):(Code.region 23 o3x23 true).wp Tryz.prog Q ⟨t0,[]⟩ wr:=by
 have hB:dstB o3x23 t0.size=true:=by rw [ht];exact dstS23
 refine jk (by kernel_rfl) (IE o3x23 (VS23 T B R p1 p3 cw c1) t0 (M3 F1 F2 G2 wr)) backS23 ⟨⟨#[],#[],#[]⟩,t0,rfl,⟨rfl,fun _ _=>rfl,fun _ _ _ _ _ h=>by cases h⟩,Below.drews (Below.refl _ wr) ⟨1,rfl⟩,(fun h=>by cases h),(fun h=>by cases h),(fun h=>by cases h)⟩ ?_ ?_
 rotate_left 1
 ·rintro done a w ⟨r,t,rfl,hS,hM⟩ hall
  rw [hS.end hB hall,sizeS23]
  exact hQ r w hM.1
 ·rintro jz op done a w ho ⟨r,t,rfl,hS,hM⟩ hnd hdep hcl
  have e11:t[11]?.getD undef=.pointer (some ⟨p3,0,none⟩):=(hS.old freeS2311).trans h11
  have e5:t[5]?.getD undef=.pointer (some ⟨p1,0,none⟩):=(hS.old freeS235).trans h5
  have e2:t[2]?.getD undef=.pointer (some ⟨B,0,none⟩):=(hS.old freeS232).trans h2
  have e7:t[7]?.getD undef=.pointer (some ⟨R,0,none⟩):=(hS.old freeS237).trans h7
  have e9:t[9]?.getD undef=.pointer (some ⟨T,0,none⟩):=(hS.old freeS239).trans h9
  have hlt:jz<20:=by rw [← sizeS23];exact (Array.getElem?_eq_some_iff.1 ho).1
  match jz,hlt,ho,hnd,hdep with
  | 0,_,ho,hnd,hdep=>
   obtain ⟨hd,hop,hgd⟩:=jC sS23_0 ho
   refine jK r hB ho (jB hgd) hd hS (hM.step (by decide) (by decide) (by decide)) ?_
   unfold execOp
   simp only [hop]
   simp [e11,VS23,go_sem]
  | 1,_,ho,hnd,hdep=>
   obtain ⟨hd,hop,hgd⟩:=jC sS23_1 ho
   have x94:=hS.gt dS23_0 ho hdep
   simp only [VS23] at x94
   refine jK r hB ho (jB hgd) hd hS (hM.step (by decide) (by decide) (by decide)) ?_
   unfold execOp
   simp only [hop]
   simp [x94,VS23,go_sem]
  | 2,_,ho,hnd,hdep=>
   obtain ⟨hd,hop,hgd⟩:=jC sS23_2 ho
   have x95:=hS.gt dS23_1 ho hdep
   simp only [VS23] at x95
   refine jK r hB ho (jB hgd) hd hS (hM.step (by decide) (by decide) (by decide)) ?_
   unfold execOp
   simp only [hop]
   simp [x95,VS23,go_sem]
  | 3,_,ho,hnd,hdep=>
   obtain ⟨hd,hop,hgd⟩:=jC sS23_3 ho
   have gx:=hS.gt qP ho hdep
   simp only [VS23] at gx
   refine jK r hB ho (jD hgd qP gx) hd hS (hM.step (by decide) (by decide) (by decide)) ?_
   unfold execOp
   simp only [hop]
   simp [e11,VS23,go_sem]
  | 4,_,ho,hnd,hdep=>
   obtain ⟨hd,hop,hgd⟩:=jC sS23_4 ho
   have gx:=hS.gt qP ho hdep
   simp only [VS23] at gx
   have x97:=hS.gt dS23_3 ho hdep
   simp only [VS23] at x97
   have ny6:done 6=false:=jM (k:=4) (j:=6) (by kernel_rfl) hcl hnd
   have ny8:done 8=false:=jM (k:=6) (j:=8) (by kernel_rfl) hcl ny6
   have ny10:done 10=false:=jM (k:=8) (j:=10) (by kernel_rfl) hcl ny8
   have ny12:done 12=false:=jM (k:=8) (j:=12) (by kernel_rfl) hcl ny8
   refine qI r 16 #[.pointer (some ⟨p3,0,none⟩)] hB ho (jD hgd qP gx) hd hS ?_ ?_
   ·skip
    unfold execOp
    simp only [hop]
    simp [x97,go_sem]
   ·skip
    refine (hC1 w hM.1).mono ?_
    rintro e w' ⟨c',rfl,hc',hg'⟩
    refine ⟨{ r with n1:=c' },rfl,fun k hk=>?_,hM.1.trans (hg'.mono hM.1.size),fun _=>hc',fun h=>absurd (show done 10=true from h) (by rw [ny10];simp),fun h=>absurd (show done 12=true from h) (by rw [ny12];simp)⟩
    ·skip
     have h4:k≠4:=fun e=>by rw [e,hnd] at hk;cases hk
     have h10:k≠10:=fun e=>by rw [e,ny10] at hk;cases hk
     have h12:k≠12:=fun e=>by rw [e,ny12] at hk;cases hk
     unfold VS23
     split<;>first | rfl | exact absurd rfl h4 | exact absurd rfl h10 | exact absurd rfl h12
  | 5,_,ho,hnd,hdep=>
   obtain ⟨hd,hop,hgd⟩:=jC sS23_5 ho
   have gx:=hS.gt qP ho hdep
   simp only [VS23] at gx
   refine jK r hB ho (jD hgd qP gx) hd hS (hM.step (by decide) (by decide) (by decide)) ?_
   exact jH (a:=⟨t,[]⟩) _ hop T 0 (by show t.getD 9 undef=_;rw [Array.getD_eq_getD_getElem?];exact e9) cw sw (lw.below hM.1)
  | 6,_,ho,hnd,hdep=>
   obtain ⟨hd,hop,hgd⟩:=jC sS23_6 ho
   have gx:=hS.gt qP ho hdep
   simp only [VS23] at gx
   have x98:=hS.gt dS23_4 ho hdep
   simp only [VS23] at x98
   have x99:=hS.gt dS23_5 ho hdep
   simp only [VS23] at x99
   have a4:done 4=true:=waits (j:=4) (by kernel_rfl) ho hdep
   refine qI r 15 #[.agg r.n1,.agg cw] hB ho (jD hgd qP gx) hd hS ?_ ?_
   ·skip
    unfold execOp
    simp only [hop]
    simp [x98,x99,go_sem]
   ·skip
    refine (hE1 _ w hM.1 (hM.2.1 a4)).mono ?_
    rintro e w' ⟨rfl,hg'⟩
    exact ⟨r,rfl,fun _ _=>rfl,(hM.grow hF1 hF2 hG2 hg').step (by decide) (by decide) (by decide)⟩
  | 7,_,ho,hnd,hdep=>
   obtain ⟨hd,hop,hgd⟩:=jC sS23_7 ho
   have x96:=hS.gt qP ho hdep
   simp only [VS23] at x96
   have x100:=hS.gt dS23_6 ho hdep
   simp only [VS23] at x100
   refine jK r hB ho (jB hgd) hd hS (hM.step (by decide) (by decide) (by decide)) ?_
   unfold execOp
   simp only [hop]
   simp [x96,x100,VS23,go_sem]
  | 8,_,ho,hnd,hdep=>
   obtain ⟨hd,hop,hgd⟩:=jC sS23_8 ho
   have x101:=hS.gt dS23_7 ho hdep
   simp only [VS23] at x101
   refine jK r hB ho (jB hgd) hd hS (hM.step (by decide) (by decide) (by decide)) ?_
   unfold execOp
   simp only [hop]
   simp [x101,VS23,go_sem]
  | 9,_,ho,hnd,hdep=>
   obtain ⟨hd,hop,hgd⟩:=jC sS23_9 ho
   have gx:=hS.gt qH ho hdep
   simp only [VS23] at gx
   refine jK r hB ho (jD hgd qH gx) hd hS (hM.step (by decide) (by decide) (by decide)) ?_
   unfold execOp
   simp only [hop]
   simp [e5,VS23,go_sem]
  | 10,_,ho,hnd,hdep=>
   obtain ⟨hd,hop,hgd⟩:=jC sS23_10 ho
   have gx:=hS.gt qH ho hdep
   simp only [VS23] at gx
   have x103:=hS.gt dS23_9 ho hdep
   simp only [VS23] at x103
   have ny12:done 12=false:=jM (k:=10) (j:=12) (by kernel_rfl) hcl hnd
   refine qI r 16 #[.pointer (some ⟨p1,0,none⟩)] hB ho (jD hgd qH gx) hd hS ?_ ?_
   ·skip
    unfold execOp
    simp only [hop]
    simp [x103,go_sem]
   ·skip
    refine (hC2 w hM.1).mono ?_
    rintro e w' ⟨c',rfl,hc',hg'⟩
    refine ⟨{ r with n2:=c' },rfl,fun k hk=>?_,hM.1.trans (hg'.mono hM.1.size),fun h=>hF1 _ _ _ (hM.2.1 h) hg',fun _=>hc',fun h=>absurd (show done 12=true from h) (by rw [ny12];simp)⟩
    ·skip
     have h10:k≠10:=fun e=>by rw [e,hnd] at hk;cases hk
     have h12:k≠12:=fun e=>by rw [e,ny12] at hk;cases hk
     unfold VS23
     split<;>first | rfl | exact absurd rfl h10 | exact absurd rfl h12
  | 11,_,ho,hnd,hdep=>
   obtain ⟨hd,hop,hgd⟩:=jC sS23_11 ho
   have gx:=hS.gt qH ho hdep
   simp only [VS23] at gx
   refine jK r hB ho (jD hgd qH gx) hd hS (hM.step (by decide) (by decide) (by decide)) ?_
   exact jH (a:=⟨t,[]⟩) _ hop B 0 (by show t.getD 2 undef=_;rw [Array.getD_eq_getD_getElem?];exact e2) c1 s1 (l1.below hM.1)
  | 12,_,ho,hnd,hdep=>
   obtain ⟨hd,hop,hgd⟩:=jC sS23_12 ho
   have gx:=hS.gt qH ho hdep
   simp only [VS23] at gx
   have x105:=hS.gt dS23_11 ho hdep
   simp only [VS23] at x105
   refine qI r 17 #[.agg c1] hB ho (jD hgd qH gx) hd hS ?_ ?_
   ·skip
    unfold execOp
    simp only [hop]
    simp [x105,go_sem]
   ·skip
    refine (hD2 w hM.1).mono ?_
    rintro e w' ⟨c',rfl,hc',hg'⟩
    refine ⟨{ r with f2:=c' },rfl,fun k hk=>?_,hM.1.trans (hg'.mono hM.1.size),fun h=>hF1 _ _ _ (hM.2.1 h) hg',fun h=>hF2 _ _ _ (hM.2.2.1 h) hg',fun _=>hc'⟩
    ·skip
     have h12:k≠12:=fun e=>by rw [e,hnd] at hk;cases hk
     unfold VS23
     split<;>first | rfl | exact absurd rfl h12
  | 13,_,ho,hnd,hdep=>
   obtain ⟨hd,hop,hgd⟩:=jC sS23_13 ho
   have gx:=hS.gt qH ho hdep
   simp only [VS23] at gx
   have x104:=hS.gt dS23_10 ho hdep
   simp only [VS23] at x104
   have x106:=hS.gt dS23_12 ho hdep
   simp only [VS23] at x106
   have a10:done 10=true:=waits (j:=10) (by kernel_rfl) ho hdep
   have a12:done 12=true:=waits (j:=12) (by kernel_rfl) ho hdep
   refine qI r 15 #[.agg r.n2,.agg r.f2] hB ho (jD hgd qH gx) hd hS ?_ ?_
   ·skip
    unfold execOp
    simp only [hop]
    simp [x104,x106,go_sem]
   ·skip
    refine (hE2 _ _ w (hM.2.2.1 a10) (hM.2.2.2 a12)).mono ?_
    rintro e w' ⟨rfl,hg'⟩
    exact ⟨r,rfl,fun _ _=>rfl,(hM.grow hF1 hF2 hG2 hg').step (by decide) (by decide) (by decide)⟩
  | 14,_,ho,hnd,hdep=>
   obtain ⟨hd,hop,hgd⟩:=jC sS23_14 ho
   have x102:=hS.gt qH ho hdep
   simp only [VS23] at x102
   have x107:=hS.gt dS23_13 ho hdep
   simp only [VS23] at x107
   refine jK r hB ho (jB hgd) hd hS (hM.step (by decide) (by decide) (by decide)) ?_
   unfold execOp
   simp only [hop]
   simp [x102,x107,VS23,go_sem]
  | 15,_,ho,hnd,hdep=>
   obtain ⟨hd,hop,hgd⟩:=jC sS23_15 ho
   have x108:=hS.gt dS23_14 ho hdep
   simp only [VS23] at x108
   refine jK r hB ho (jB hgd) hd hS (hM.step (by decide) (by decide) (by decide)) ?_
   unfold execOp
   simp only [hop]
   simp [x108,VS23,go_sem]
  | 16,_,ho,hnd,hdep=>
   obtain ⟨hd,hop,hgd⟩:=jC sS23_16 ho
   have gx:=hS.gt dS23_15 ho hdep
   simp only [VS23] at gx
   refine jK r hB ho (jD hgd dS23_15 gx) hd hS (hM.step (by decide) (by decide) (by decide)) ?_
   unfold execOp
   simp only [hop]
   simp [e7,VS23,go_sem]
  | 17,_,ho,hnd,hdep=>
   obtain ⟨hd,hop,hgd⟩:=jC sS23_17 ho
   have gx:=hS.gt dS23_15 ho hdep
   simp only [VS23] at gx
   have x110:=hS.gt dS23_16 ho hdep
   simp only [VS23] at x110
   refine qI r 14 #[.pointer (some ⟨R,0,none⟩)] hB ho (jD hgd dS23_15 gx) hd hS ?_ ?_
   ·skip
    unfold execOp
    simp only [hop]
    simp [x110,go_sem]
   ·skip
    refine (hH w hM.1).mono ?_
    rintro e w' ⟨rfl,hg'⟩
    exact ⟨r,rfl,fun _ _=>rfl,(hM.grow hF1 hF2 hG2 hg').step (by decide) (by decide) (by decide)⟩
  | 18,_,ho,hnd,hdep=>
   obtain ⟨hd,hop,hgd⟩:=jC sS23_18 ho
   have x109:=hS.gt dS23_15 ho hdep
   simp only [VS23] at x109
   have x111:=hS.gt dS23_17 ho hdep
   simp only [VS23] at x111
   refine jK r hB ho (jB hgd) hd hS (hM.step (by decide) (by decide) (by decide)) ?_
   unfold execOp
   simp only [hop]
   simp [x109,x111,VS23,go_sem]
  | 19,_,ho,hnd,hdep=>
   obtain ⟨hd,hop,hgd⟩:=jC sS23_19 ho
   have x112:=hS.gt dS23_18 ho hdep
   simp only [VS23] at x112
   refine jK r hB ho (jB hgd) hd hS (hM.step (by decide) (by decide) (by decide)) ?_
   unfold execOp
   simp only [hop]
   simp [x112,VS23,go_sem]
theorem foldS23 (T B R p1 p3:Nat) (cw c1:Array Value) (r:L3) (t0:Array Value):fold o3x23 (VS23 T B R p1 p3 cw c1 r) t0 20=((((((((((((((((((((t0.setIfInBounds 94 (.pointer (some ⟨p3,0,none⟩))).setIfInBounds 95 (.bool false)).setIfInBounds 96 (.bool false)).setIfInBounds 97 (.pointer (some ⟨p3,0,none⟩))).setIfInBounds 98 (.agg r.n1)).setIfInBounds 99 (.agg cw)).setIfInBounds 100 (.bool true)).setIfInBounds 101 (.bool true)).setIfInBounds 102 (.bool true)).setIfInBounds 103 (.pointer (some ⟨p1,0,none⟩))).setIfInBounds 104 (.agg r.n2)).setIfInBounds 105 (.agg c1)).setIfInBounds 106 (.agg r.f2)).setIfInBounds 107 (.bool true)).setIfInBounds 108 (.bool true)).setIfInBounds 109 (.bool true)).setIfInBounds 110 (.pointer (some ⟨R,0,none⟩))).setIfInBounds 111 (.bool true)).setIfInBounds 112 (.bool true)).setIfInBounds 4 (.bool true)):=by kernel_rfl
structure L2 where
 n2:Array Value
 f2:Array Value
def M2 (F2 G2:Array Value→World→Prop) (wr:World) (r:L2) (done:Nat→Bool) (w:World):Prop:=Below wr.heap.size wr w∧(done 10=true→F2 r.n2 w)∧(done 12=true→G2 r.f2 w)
theorem M2.step {F2 G2:Array Value→World→Prop} {wr:World} {r:L2} {done:Nat→Bool} {w:World} (h:M2 F2 G2 wr r done w) {j:Nat} (h10:j≠10) (h12:j≠12):M2 F2 G2 wr r (upd done j) w:=by
 unfold M2 at *
 rw [upd_ne done (Ne.symm h10),upd_ne done (Ne.symm h12)]
 exact h
theorem M2.grow {F2 G2:Array Value→World→Prop} {wr:World} {r:L2} {done:Nat→Bool} {w w2:World} (h:M2 F2 G2 wr r done w) (hF2:∀ c w w',F2 c w→Below w.heap.size w w'→F2 c w') (hG2:∀ c w w',G2 c w→Below w.heap.size w w'→G2 c w') (hb:Below w.heap.size w w2):M2 F2 G2 wr r done w2:=
 ⟨h.1.trans (hb.mono h.1.size),fun q=>hF2 _ _ _ (h.2.1 q) hb,fun q=>hG2 _ _ _ (h.2.2 q) hb⟩
def VZ23 (_B R p1:Nat) (c1:Array Value) (r:L2):Nat→Value
 | 0=>.pointer none
 | 1=>.bool true
 | 2=>.bool true
 | 3=>undef
 | 4=>undef
 | 5=>undef
 | 6=>undef
 | 7=>.bool true
 | 8=>.bool true
 | 9=>.pointer (some ⟨p1,0,none⟩)
 | 10=>.agg r.n2
 | 11=>.agg c1
 | 12=>.agg r.f2
 | 13=>.bool true
 | 14=>.bool true
 | 15=>.bool true
 | 16=>.pointer (some ⟨R,0,none⟩)
 | 17=>.bool true
 | 18=>.bool true
 | 19=>.bool true
 | _=>undef
theorem regZ23 (B R p1:Nat) (c1:Array Value) (F2 G2:Array Value→World→Prop) (t0:Array Value) (wr:World) {Q:Exit→Act→World→Prop} (ht:t0.size=113) (h11:t0.getD 11 undef=.pointer none) (h5:t0.getD 5 undef=.pointer (some ⟨p1,0,none⟩)) (h2:t0.getD 2 undef=.pointer (some ⟨B,0,none⟩)) (h7:t0.getD 7 undef=.pointer (some ⟨R,0,none⟩))
  (l1:Lies wr B 0 c1) (s1:c1.size=41) (hF2:∀ c w w',F2 c w→Below w.heap.size w w'→F2 c w') (hG2:∀ c w w',G2 c w→Below w.heap.size w w'→G2 c w')
  (hC2:∀ w,Below wr.heap.size wr w→Calls Tryz.prog 16 #[.pointer (some ⟨p1,0,none⟩)] w fun e w'=>∃ c',e=.returned (.agg c')∧F2 c' w'∧Below w.heap.size w w') (hD2:∀ w,Below wr.heap.size wr w→Calls Tryz.prog 17 #[.agg c1] w fun e w'=>∃ c',e=.returned (.agg c')∧G2 c' w'∧Below w.heap.size w w') (hE2:∀ a b w,F2 a w→G2 b w→Calls Tryz.prog 15 #[.agg a,.agg b] w fun e w'=>e=.returned (.bool true)∧Below w.heap.size w w') (hH:∀ w,Below wr.heap.size wr w→Calls Tryz.prog 14 #[.pointer (some ⟨R,0,none⟩)] w fun e w'=>e=.returned (.bool true)∧Below w.heap.size w w')
  (hQ:∀ r w,Below wr.heap.size wr w→Q .normal ⟨fold o3x23 (VZ23 B R p1 c1 r) t0 20,[]⟩ w):(Code.region 23 o3x23 true).wp Tryz.prog Q ⟨t0,[]⟩ wr:=by
 have hB:dstB o3x23 t0.size=true:=by rw [ht];exact dstS23
 refine jk (by kernel_rfl) (IE o3x23 (VZ23 B R p1 c1) t0 (M2 F2 G2 wr)) backS23 ⟨⟨#[],#[]⟩,t0,rfl,⟨rfl,fun _ _=>rfl,fun _ _ _ _ _ h=>by cases h⟩,Below.drews (Below.refl _ wr) ⟨1,rfl⟩,(fun h=>by cases h),(fun h=>by cases h)⟩ ?_ ?_
 rotate_left 1
 ·rintro done a w ⟨r,t,rfl,hS,hM⟩ hall
  rw [hS.end hB hall,sizeS23]
  exact hQ r w hM.1
 ·rintro jz op done a w ho ⟨r,t,rfl,hS,hM⟩ hnd hdep hcl
  have e11:t[11]?.getD undef=.pointer none:=(hS.old freeS2311).trans h11
  have e5:t[5]?.getD undef=.pointer (some ⟨p1,0,none⟩):=(hS.old freeS235).trans h5
  have e2:t[2]?.getD undef=.pointer (some ⟨B,0,none⟩):=(hS.old freeS232).trans h2
  have e7:t[7]?.getD undef=.pointer (some ⟨R,0,none⟩):=(hS.old freeS237).trans h7
  have hlt:jz<20:=by rw [← sizeS23];exact (Array.getElem?_eq_some_iff.1 ho).1
  match jz,hlt,ho,hnd,hdep with
  | 0,_,ho,hnd,hdep=>
   obtain ⟨hd,hop,hgd⟩:=jC sS23_0 ho
   refine jK r hB ho (jB hgd) hd hS (hM.step (by decide) (by decide)) ?_
   unfold execOp
   simp only [hop]
   simp [e11,VZ23,go_sem]
  | 1,_,ho,hnd,hdep=>
   obtain ⟨hd,hop,hgd⟩:=jC sS23_1 ho
   have x94:=hS.gt dS23_0 ho hdep
   simp only [VZ23] at x94
   refine jK r hB ho (jB hgd) hd hS (hM.step (by decide) (by decide)) ?_
   unfold execOp
   simp only [hop]
   simp [x94,VZ23,go_sem]
  | 2,_,ho,hnd,hdep=>
   obtain ⟨hd,hop,hgd⟩:=jC sS23_2 ho
   have x95:=hS.gt dS23_1 ho hdep
   simp only [VZ23] at x95
   refine jK r hB ho (jB hgd) hd hS (hM.step (by decide) (by decide)) ?_
   unfold execOp
   simp only [hop]
   simp [x95,VZ23,go_sem]
  | 3,_,ho,hnd,hdep=>
   obtain ⟨hd,hop,hgd⟩:=jC sS23_3 ho
   have gx:=hS.gt qP ho hdep
   simp only [VZ23] at gx
   exact ie_skip r hB ho (jL hgd qP gx rfl) hd hS (hM.step (by decide) (by decide)) rfl
  | 4,_,ho,hnd,hdep=>
   obtain ⟨hd,hop,hgd⟩:=jC sS23_4 ho
   have gx:=hS.gt qP ho hdep
   simp only [VZ23] at gx
   exact ie_skip r hB ho (jL hgd qP gx rfl) hd hS (hM.step (by decide) (by decide)) rfl
  | 5,_,ho,hnd,hdep=>
   obtain ⟨hd,hop,hgd⟩:=jC sS23_5 ho
   have gx:=hS.gt qP ho hdep
   simp only [VZ23] at gx
   exact ie_skip r hB ho (jL hgd qP gx rfl) hd hS (hM.step (by decide) (by decide)) rfl
  | 6,_,ho,hnd,hdep=>
   obtain ⟨hd,hop,hgd⟩:=jC sS23_6 ho
   have gx:=hS.gt qP ho hdep
   simp only [VZ23] at gx
   exact ie_skip r hB ho (jL hgd qP gx rfl) hd hS (hM.step (by decide) (by decide)) rfl
  | 7,_,ho,hnd,hdep=>
   obtain ⟨hd,hop,hgd⟩:=jC sS23_7 ho
   have x96:=hS.gt qP ho hdep
   simp only [VZ23] at x96
   have x100:=hS.gt dS23_6 ho hdep
   simp only [VZ23] at x100
   refine jK r hB ho (jB hgd) hd hS (hM.step (by decide) (by decide)) ?_
   unfold execOp
   simp only [hop]
   simp [x96,x100,VZ23,go_sem]
  | 8,_,ho,hnd,hdep=>
   obtain ⟨hd,hop,hgd⟩:=jC sS23_8 ho
   have x101:=hS.gt dS23_7 ho hdep
   simp only [VZ23] at x101
   refine jK r hB ho (jB hgd) hd hS (hM.step (by decide) (by decide)) ?_
   unfold execOp
   simp only [hop]
   simp [x101,VZ23,go_sem]
  | 9,_,ho,hnd,hdep=>
   obtain ⟨hd,hop,hgd⟩:=jC sS23_9 ho
   have gx:=hS.gt qH ho hdep
   simp only [VZ23] at gx
   refine jK r hB ho (jD hgd qH gx) hd hS (hM.step (by decide) (by decide)) ?_
   unfold execOp
   simp only [hop]
   simp [e5,VZ23,go_sem]
  | 10,_,ho,hnd,hdep=>
   obtain ⟨hd,hop,hgd⟩:=jC sS23_10 ho
   have gx:=hS.gt qH ho hdep
   simp only [VZ23] at gx
   have x103:=hS.gt dS23_9 ho hdep
   simp only [VZ23] at x103
   have ny12:done 12=false:=jM (k:=10) (j:=12) (by kernel_rfl) hcl hnd
   refine qI r 16 #[.pointer (some ⟨p1,0,none⟩)] hB ho (jD hgd qH gx) hd hS ?_ ?_
   ·skip
    unfold execOp
    simp only [hop]
    simp [x103,go_sem]
   ·skip
    refine (hC2 w hM.1).mono ?_
    rintro e w' ⟨c',rfl,hc',hg'⟩
    refine ⟨{ r with n2:=c' },rfl,fun k hk=>?_,hM.1.trans (hg'.mono hM.1.size),fun _=>hc',fun h=>absurd (show done 12=true from h) (by rw [ny12];simp)⟩
    ·skip
     have h10:k≠10:=fun e=>by rw [e,hnd] at hk;cases hk
     have h12:k≠12:=fun e=>by rw [e,ny12] at hk;cases hk
     unfold VZ23
     split<;>first | rfl | exact absurd rfl h10 | exact absurd rfl h12
  | 11,_,ho,hnd,hdep=>
   obtain ⟨hd,hop,hgd⟩:=jC sS23_11 ho
   have gx:=hS.gt qH ho hdep
   simp only [VZ23] at gx
   refine jK r hB ho (jD hgd qH gx) hd hS (hM.step (by decide) (by decide)) ?_
   exact jH (a:=⟨t,[]⟩) _ hop B 0 (by show t.getD 2 undef=_;rw [Array.getD_eq_getD_getElem?];exact e2) c1 s1 (l1.below hM.1)
  | 12,_,ho,hnd,hdep=>
   obtain ⟨hd,hop,hgd⟩:=jC sS23_12 ho
   have gx:=hS.gt qH ho hdep
   simp only [VZ23] at gx
   have x105:=hS.gt dS23_11 ho hdep
   simp only [VZ23] at x105
   refine qI r 17 #[.agg c1] hB ho (jD hgd qH gx) hd hS ?_ ?_
   ·skip
    unfold execOp
    simp only [hop]
    simp [x105,go_sem]
   ·skip
    refine (hD2 w hM.1).mono ?_
    rintro e w' ⟨c',rfl,hc',hg'⟩
    refine ⟨{ r with f2:=c' },rfl,fun k hk=>?_,hM.1.trans (hg'.mono hM.1.size),fun h=>hF2 _ _ _ (hM.2.1 h) hg',fun _=>hc'⟩
    ·skip
     have h12:k≠12:=fun e=>by rw [e,hnd] at hk;cases hk
     unfold VZ23
     split<;>first | rfl | exact absurd rfl h12
  | 13,_,ho,hnd,hdep=>
   obtain ⟨hd,hop,hgd⟩:=jC sS23_13 ho
   have gx:=hS.gt qH ho hdep
   simp only [VZ23] at gx
   have x104:=hS.gt dS23_10 ho hdep
   simp only [VZ23] at x104
   have x106:=hS.gt dS23_12 ho hdep
   simp only [VZ23] at x106
   have a10:done 10=true:=waits (j:=10) (by kernel_rfl) ho hdep
   have a12:done 12=true:=waits (j:=12) (by kernel_rfl) ho hdep
   refine qI r 15 #[.agg r.n2,.agg r.f2] hB ho (jD hgd qH gx) hd hS ?_ ?_
   ·skip
    unfold execOp
    simp only [hop]
    simp [x104,x106,go_sem]
   ·skip
    refine (hE2 _ _ w (hM.2.1 a10) (hM.2.2 a12)).mono ?_
    rintro e w' ⟨rfl,hg'⟩
    exact ⟨r,rfl,fun _ _=>rfl,(hM.grow hF2 hG2 hg').step (by decide) (by decide)⟩
  | 14,_,ho,hnd,hdep=>
   obtain ⟨hd,hop,hgd⟩:=jC sS23_14 ho
   have x102:=hS.gt qH ho hdep
   simp only [VZ23] at x102
   have x107:=hS.gt dS23_13 ho hdep
   simp only [VZ23] at x107
   refine jK r hB ho (jB hgd) hd hS (hM.step (by decide) (by decide)) ?_
   unfold execOp
   simp only [hop]
   simp [x102,x107,VZ23,go_sem]
  | 15,_,ho,hnd,hdep=>
   obtain ⟨hd,hop,hgd⟩:=jC sS23_15 ho
   have x108:=hS.gt dS23_14 ho hdep
   simp only [VZ23] at x108
   refine jK r hB ho (jB hgd) hd hS (hM.step (by decide) (by decide)) ?_
   unfold execOp
   simp only [hop]
   simp [x108,VZ23,go_sem]
  | 16,_,ho,hnd,hdep=>
   obtain ⟨hd,hop,hgd⟩:=jC sS23_16 ho
   have gx:=hS.gt dS23_15 ho hdep
   simp only [VZ23] at gx
   refine jK r hB ho (jD hgd dS23_15 gx) hd hS (hM.step (by decide) (by decide)) ?_
   unfold execOp
   simp only [hop]
   simp [e7,VZ23,go_sem]
  | 17,_,ho,hnd,hdep=>
   obtain ⟨hd,hop,hgd⟩:=jC sS23_17 ho
   have gx:=hS.gt dS23_15 ho hdep
   simp only [VZ23] at gx
   have x110:=hS.gt dS23_16 ho hdep
   simp only [VZ23] at x110
   refine qI r 14 #[.pointer (some ⟨R,0,none⟩)] hB ho (jD hgd dS23_15 gx) hd hS ?_ ?_
   ·skip
    unfold execOp
    simp only [hop]
    simp [x110,go_sem]
   ·skip
    refine (hH w hM.1).mono ?_
    rintro e w' ⟨rfl,hg'⟩
    exact ⟨r,rfl,fun _ _=>rfl,(hM.grow hF2 hG2 hg').step (by decide) (by decide)⟩
  | 18,_,ho,hnd,hdep=>
   obtain ⟨hd,hop,hgd⟩:=jC sS23_18 ho
   have x109:=hS.gt dS23_15 ho hdep
   simp only [VZ23] at x109
   have x111:=hS.gt dS23_17 ho hdep
   simp only [VZ23] at x111
   refine jK r hB ho (jB hgd) hd hS (hM.step (by decide) (by decide)) ?_
   unfold execOp
   simp only [hop]
   simp [x109,x111,VZ23,go_sem]
  | 19,_,ho,hnd,hdep=>
   obtain ⟨hd,hop,hgd⟩:=jC sS23_19 ho
   have x112:=hS.gt dS23_18 ho hdep
   simp only [VZ23] at x112
   refine jK r hB ho (jB hgd) hd hS (hM.step (by decide) (by decide)) ?_
   unfold execOp
   simp only [hop]
   simp [x112,VZ23,go_sem]
theorem foldZ23 (B R p1:Nat) (c1:Array Value) (r:L2) (t0:Array Value):fold o3x23 (VZ23 B R p1 c1 r) t0 20=((((((((((((((((((((t0.setIfInBounds 94 (.pointer none)).setIfInBounds 95 (.bool true)).setIfInBounds 96 (.bool true)).setIfInBounds 97 (undef)).setIfInBounds 98 (undef)).setIfInBounds 99 (undef)).setIfInBounds 100 (undef)).setIfInBounds 101 (.bool true)).setIfInBounds 102 (.bool true)).setIfInBounds 103 (.pointer (some ⟨p1,0,none⟩))).setIfInBounds 104 (.agg r.n2)).setIfInBounds 105 (.agg c1)).setIfInBounds 106 (.agg r.f2)).setIfInBounds 107 (.bool true)).setIfInBounds 108 (.bool true)).setIfInBounds 109 (.bool true)).setIfInBounds 110 (.pointer (some ⟨R,0,none⟩))).setIfInBounds 111 (.bool true)).setIfInBounds 112 (.bool true)).setIfInBounds 4 (.bool true)):=by kernel_rfl
end Go.Proofs.YthfcanpkhjgomaaGreat
