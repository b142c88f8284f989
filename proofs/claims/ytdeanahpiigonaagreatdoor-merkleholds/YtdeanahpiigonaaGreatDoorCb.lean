import Derived.Test.YtdeanahpiigonaaGreatDoorCa
import Derived.Test.YtdeanahpiigonaaGreatDoorRc0
set_option maxRecDepth 100000
set_option maxHeartbeats 32000000
namespace Go.Proofs.YtdeanahpiigonaaGreatDoor
open Go.RowKit Hm
attribute [local go_sem] Oper.semAt_some
theorem a0X {nm:ByteArray} {h:List Nat} {sc:Array Value} (hl:h.length=32) (hs:sc.size=3):(sdc nm h sc).extract 33 36=sc:=by
 unfold sdc
 rw [List.extract_toArray,List.extract_eq_take_drop]
 have:((Value.string nm::(h.map Su.vb++sc.toList)).drop 33)=sc.toList:=by
  rw [show (Value.string nm::(h.map Su.vb++sc.toList))=(Value.string nm::h.map Su.vb)++sc.toList by simp,List.drop_append,List.drop_of_length_le (by simp [hl]),List.nil_append,show 33-(Value.string nm::h.map Su.vb).length=0 by simp [hl],List.drop_zero]
 rw [this,List.take_of_length_le (by simp [hs])]
theorem oQ {nm:ByteArray} {h:List Nat} {sc:Array Value} (hl:h.length=32):(sdc nm h sc).extract 1 33=hA h:=by
 unfold sdc hA
 rw [List.extract_toArray,List.extract_eq_take_drop]
 simp only [List.drop_succ_cons,List.drop_zero]
 rw [List.take_append_of_le_length (by simp [hl]),List.take_of_length_le (by simp [hl])]
theorem a0Y {m:Int} {sc:Array Value} (hs:sc.size=3):(stc m sc).extract 1 4=sc:=by
 unfold stc
 rw [List.extract_toArray,List.extract_eq_take_drop]
 simp only [List.drop_succ_cons,List.drop_zero]
 rw [List.take_of_length_le (by simp [hs])]
theorem SdL.at {w:World} {lo:Nat} {v:Value} {L:List Sd} (h:SdL w lo v L) {i:Nat} {q:Sd} (hi:L[i]?=some q):∃ g c Z,v=.slice (some ⟨g,0,none⟩) L.length c∧Hm.Lies w g (i*36) Z∧SdAt w lo Z q:=by
 obtain ⟨cs,h1,h2⟩:=h
 obtain ⟨Z,e1,e2⟩:=h2.at hi
 obtain ⟨_,⟨_,e⟩ | ⟨g',cp,cur,rfl,_⟩⟩:=h1.own
 ·rw [h2.len] at e
  have:=(List.getElem?_eq_some_iff.1 hi).1
  omega
 ·rcases h1.has with ⟨e,_⟩ | ⟨g,o,cap,e,hc,hl⟩
  ·cases e
  ·injection e with e1' e2'
   injection e1' with e1'
   injection e1' with e1' e3'
   subst e1' e3'
   refine ⟨g',cp,Z,by rw [h2.len],?_,e2⟩
   have:=hl i Z e1
   simpa using this
theorem StL.at {w:World} {lo:Nat} {v:Value} {L:List Sq} (h:StL w lo v L) {i:Nat} {q:Sq} (hi:L[i]?=some q):∃ g c Z,v=.slice (some ⟨g,0,none⟩) L.length c∧Hm.Lies w g (i*4) Z∧StAt w lo Z q:=by
 obtain ⟨cs,h1,h2⟩:=h
 obtain ⟨Z,e1,e2⟩:=h2.at hi
 obtain ⟨_,⟨_,e⟩ | ⟨g',cp,cur,rfl,_⟩⟩:=h1.own
 ·rw [h2.len] at e
  have:=(List.getElem?_eq_some_iff.1 hi).1
  omega
 ·rcases h1.has with ⟨e,_⟩ | ⟨g,o,cap,e,hc,hl⟩
  ·cases e
  ·injection e with e1' e2'
   injection e1' with e1'
   injection e1' with e1' e3'
   subst e1' e3'
   refine ⟨g',cp,Z,by rw [h2.len],?_,e2⟩
   have:=hl i Z e1
   simpa using this
theorem io {S:List Nat→List Nat} (hS:af S) (nm:ByteArray) (h:List Nat) (p:Sp):(topH S nm h p).length=32∧Su.Bytes (topH S nm h p):=aR hS (hS _) _ _ _
theorem oR (md ct:Nat) (tp:List Nat):ownT (mkV 1 (md:Int) 0 j7) ct tp=dirT md ct tp:=by
 unfold ownT
 rw [jh jC]
 rfl
theorem oS {v:Vd} (h:VdOk v) {ct:Nat} (hc:ct≤1048576) {tp:List Nat} (ht:tp.length=32∧Su.Bytes tp):Su.Bytes (ownT v ct tp)∧(ownT v ct tp).length≤100000:=by
 by_cases h2:v.kind=2
 ·have:=ap h (.inl h2)
  unfold ownT at this ⊢
  rw [if_pos h2] at this ⊢
  exact this
 ·by_cases h3:v.kind=3
  ·have:=ap h (.inr h3)
   unfold ownT at this ⊢
   rw [if_neg h2,if_pos h3] at this ⊢
   exact this
  ·have:=ar (m:=v.mode.toNat) (c:=ct) (by have:=h.1;omega) (by omega) ht
   unfold ownT
   rw [if_neg h2,if_neg h3]
   exact this
structure ChI (W:World) (b1 b2:Nat) (top:List Nat) (w:World):Prop where
 v1:w.heap[b1]?=some (.cells (hA j7) 22 (0,0))
 v2:w.heap[b2]?=some (.cells (hA top) 22 (0,0))
 g:G W w
 lo:W.heap.size≤b1∧b1<b2
 tp:top.length=32∧Su.Bytes top
theorem ChI.up {W:World} {b1 b2:Nat} {top:List Nat} {w w':World} (h:ChI W b1 b2 top w) (hg:G w w'):ChI W b1 b2 top w':=
 ⟨(hg.block b1 (ga h.v1).1).trans h.v1,(hg.block b2 (ga h.v2).1).trans h.v2,h.g.trans hg,h.lo,h.tp⟩
theorem ChI.oth {W:World} {b1 b2 c:Nat} {top:List Nat} {w w':World} (h:ChI W b1 b2 top w) (hk:Kp (fun b=>b=c) w w') (hc:b2<c):ChI W b1 b2 top w':=
 ⟨(hk.block b1 (ga h.v1).1 (by have:=h.lo;omega)).trans h.v1,(hk.block b2 (ga h.v2).1 (by omega)).trans h.v2,((Kp.of (S:=fun b=>W.heap.size≤b) h.g).trans hk fun b _ e=>by have:=h.lo;omega).below (Nat.le_refl _) fun b e=>e,h.lo,h.tp⟩
theorem ChI.set {W:World} {b1 b2:Nat} {top t2:List Nat} {w w':World} (h:ChI W b1 b2 top w) (h2:t2.length=32∧Su.Bytes t2) (hk:Kp (fun b=>b=b2) w w') (hv:w'.heap[b2]?=some (.cells (hA t2) 22 (0,0))):ChI W b1 b2 t2 w':=
 ⟨(hk.block b1 (ga h.v1).1 (by have:=h.lo;omega)).trans h.v1,hv,((Kp.of (S:=fun b=>W.heap.size≤b) h.g).trans hk fun b _ e=>by have:=h.lo;omega).below (Nat.le_refl _) fun b e=>e,h.lo,h2⟩
theorem ip (S:List Nat→List Nat) (hS:af S) (m:Nat) (W0:World) (hC:zI S m W0) (w:World) (hw:G W0 w) (C:Nat) (na:Option Addr) (nc:Nat) (names:List ByteArray) (cm:Cm) (sv dv:Value) (hcl:ClI C (.slice na names.length nc) cm sv dv w) (hnm:NmAt w na names) (h255:∀ (i:Nat) (s:ByteArray),names[i]?=some s→s.size≤255) (hok:CmOk cm) (hlen:cm.steps.length≤names.length) (h64:names.length≤64):
  Calls Tryz.prog 28 #[.pointer (some ⟨C,0,none⟩),.func (.func 29) #[.pointer (some ⟨m,0,none⟩)] #[]] w fun e w'=>G w w'∧((kG S names cm=none∧e=.returned (.tuple #[.agg (hA j7),.bool false]))∨∃ t,kG S names cm=some t∧e=.returned (.tuple #[.agg (hA (S t)),.bool true])):=by
 have hz32:(hA j7).size=32:=jG jC
 have HC:Hid (zI S m W0∧G W0 w):=⟨hC,hw⟩
 have HS:Hid (af S):=hS
 have HCL:=hid hcl
 have HNM:=hid hnm
 have H255:=hid h255
 have HOK:=hid hok
 have CT:Hid (∀ (W:World) (sc:Array Value) (p:Sp) (lo:Nat) (nm:ByteArray) (h:List Nat),G w W→SpAt W lo sc p→SpOk p→nm.size≤255→h.length=32∧Su.Bytes h→Calls Tryz.prog 71 #[.agg sc,.string nm,.agg (hA h),.func (.func 29) #[.pointer (some ⟨m,0,none⟩)] #[]] W fun e w'=>e=.returned (.agg (hA (topH S nm h p)))∧G W w'):=fun W sc p lo nm h h1 h2 h3 h4 h5=>wj S hS m W0 hC W (hw.trans h1) sc p lo h2 h3 nm h4 h h5
 obtain ⟨RES,hRES⟩:∃ R,kG S names cm=R:=⟨_,rfl⟩
 rw [hRES]
 unfold kG at hRES
 obtain ⟨ST,hST⟩:∃ ST,kh S 0 cm.top cm.sides=ST:=⟨_,rfl⟩
 rw [hST] at hRES
 have HRES:=hid hRES
 have HST:=hid hST
 obtain ⟨da,dc,hde⟩:=hcl.sd.form
 obtain ⟨sa,sc0,hsve⟩:=hcl.st.form
 subst hde hsve
 have htl:=hok.top
 have HT0:Hid ((hA cm.top).size=32∧(hA cm.top).all (·.oneCell')=true):=⟨jG htl.1,jn _⟩
 have HTL:Hid (Hm.Lies w C 38 (hA cm.top)):=hid (by
  have:=(Lies.of_heap hcl.at_).part 38 70
  rw [sI _ _ _ _ _ _ htl.1] at this
  simpa using this)
 have hz70:w.cell? ⟨C,70,none⟩=some (.slice da cm.sides.length dc):=by rw [j9 hcl.at_];exact kW _ _ _ _ _ _ htl.1
 have hn2:cm.sides.length≤2:=hok.few
 have hs64:cm.steps.length≤64:=by omega
 clear hRES hST hcl hnm h255 hok hC hw
 go_enter Tryz.func28,Tryz.ntmps28
 go_wp2_with (first
  | ((with_reducible refine qC 4 22 (hA j7) ?_ ?_ ?_ ?_ ?_);rfl;rfl;kernel_rfl;exact jv;intro w1 b1 H1)
  | ((with_reducible refine jE 17 22 (.tmp 16) C 38 (hA cm.top) _ ?_ ?_ ?_ ?_ ?_ Tryz.underlying22 ?_ ?_ ?_);rfl;rfl;kernel_rfl;rfl;exact (Hm.Lies.below HTL.o H1.o.2.1);rfl;exact (by rw [jK,HT0.o.1]))
  | ((with_reducible refine qC 6 22 (hA j7) ?_ ?_ ?_ ?_ ?_);rfl;rfl;kernel_rfl;exact jv;intro w2 b2 H2)
  | ((with_reducible refine qj 22 (.tmp 6) (.tmp 17) b2 (hA cm.top) (hA j7) ?_ ?_ ?_ ?_ ?_ ?_ ?_ ?_ ?_ ?_);rfl;rfl;kernel_rfl;rfl;rfl;exact H2.o.2.2.1;exact (by rw [jK,HT0.o.1]);exact (hz32.trans HT0.o.1.symm);exact HT0.o.2;intro w3 H3;have hz70':=show w3.cell? ⟨C,70,none⟩=some (.slice da cm.sides.length dc) from (by have e:=((H3.o.1.block C (by have:=HCL.o.lt;have:=H1.o;have:=H2.o;omega) (by have:=HCL.o.lt;have:=H1.o;have:=H2.o;omega)).trans ((G.trans H1.o.2.1 H2.o.2.1).block C HCL.o.lt));exact qH hz70 e)))
 have HO:Hid (ChI w b1 b2 cm.top w3):=by
  obtain ⟨p1,p2,p3,p4⟩:=H1.o
  obtain ⟨q1,q2,q3,q4⟩:=H2.o
  obtain ⟨t1,t2,t3⟩:=H3.o
  exact ⟨(t1.block b1 (by omega) (by omega)).trans ((q2.block b1 (by omega)).trans p3),t2,((Kp.of (S:=fun b=>w.heap.size≤b) (G.trans p2 q2)).trans t1 fun b _ e=>by omega).below (Nat.le_refl _) fun b e=>e,by omega,htl⟩
 clear H1 H2 H3 HTL
 go_loopw [23] (fun i wr=>∃ k:Nat,i=.int .i64 (k:Int)∧k≤cm.sides.length∧Hid (∃ tp,ChI w b1 b2 tp wr∧kh S k tp (cm.sides.drop k)=ST)) (fun i _=>cm.sides.length-iOf i)
 case atStart=>exact ⟨0,rfl,by omega,cm.top,HO.o,by rw [List.drop_zero];exact HST.o⟩
 case round=>
  clear HO HST
  obtain ⟨k,rfl,hk,HR⟩:=hrel
  obtain ⟨tp,hI,hsid⟩:=HR.o
  by_cases hkn:k<cm.sides.length
  ·have hkI:(k:Int)<cm.sides.length:=by omega
   have hdr:cm.sides.drop k=cm.sides[k]::cm.sides.drop (k+1):=List.drop_eq_getElem_cons hkn
   obtain ⟨d,hd⟩:∃ d,cm.sides[k]=d:=⟨_,rfl⟩
   rw [hdr,hd,kh] at hsid
   have hcl:=HCL.o.up hI.g
   obtain ⟨gd,cd,Y,hve,hLies,hSd⟩:=hcl.sd.at (gl hkn)
   rw [hd] at hSd
   injection hve with f1 _ f3
   subst f1 f3
   have hdok:SdOk d:=HOK.o.sides d (by rw [← hd];exact List.getElem_mem hkn)
   have hYs:=hSd.size
   have hYo:=hSd.one
   obtain ⟨sc,hYe,hsp,hdl,hdn⟩:=hSd
   have hscs:=hsp.size
   have HLies:=hid hLies
   have HI:=hid hI
   have HY:Hid (Y.size=36∧Y.all (·.oneCell')=true∧Y[0]?=some (.string d.name)∧Y.extract 33 36=sc∧Y.extract 1 33=hA d.hash):=⟨hYs,hYo,by rw [hYe];rfl,by rw [hYe];exact a0X hdl hscs,by rw [hYe];exact oQ hdl⟩
   have HSP:=hid hsp
   have HSI:=hid hsid
   have hto:=io hS d.name d.hash d.sp
   obtain ⟨tx,htx⟩:∃ tx,topH S d.name d.hash d.sp=tx:=⟨_,rfl⟩
   have HC1:Hid (∀ W,G wr W→Calls Tryz.prog 71 #[.agg sc,.string d.name,.agg (hA d.hash),.func (.func 29) #[.pointer (some ⟨m,0,none⟩)] #[]] W fun e w'=>e=.returned (.agg (hA tx))∧G W w'):=fun W hW=>by rw [← htx];exact CT.o W sc d.sp _ d.name d.hash (HI.o.g.trans hW) (HSP.o.up hW) hdok.1 hdok.2.2.2 ⟨hdok.2.1,hdok.2.2.1⟩
   rw [htx] at hto HSI
   have HTX:Hid ((hA tx).size=32∧(hA tx).all (·.oneCell')=true):=⟨jG hto.1,jn _⟩
   have HHS:Hid ((hA d.hash).size=32):=jG hdl
   have HTP:Hid ((hA tp).size=32):=jG HI.o.tp.1
   have hkl:¬ cm.sides.length≤k:=by omega
   have hklI:¬ (cm.sides.length:Int)≤k:=by omega
   clear hI HR hsid hdr hLies hcl hYs hYo hYe hsp htx hd
   go_upto_region 6 with (first
    | ((with_reducible refine jE 27 125 (.tmp 26) gd (k*36) Y _ ?_ ?_ ?_ ?_ ?_ zb ?_ ?_ ?_);rfl;rfl;kernel_rfl;rfl;exact HLies.o;rfl;exact (by rw [zF,HY.o.1]))
    | ((with_reducible refine qC 8 125 z125.toArray ?_ ?_ ?_ ?_ ?_);rfl;rfl;kernel_rfl;exact zx;intro w4 b8 H4)
    | ((with_reducible refine qo 125 (.tmp 8) (.tmp 27) b8 Y z125.toArray ?_ ?_ ?_ ?_ ?_ ?_ ?_ ?_ ?_ ?_);rfl;rfl;kernel_rfl;rfl;rfl;exact H4.o.2.2.1;exact (by rw [zF,HY.o.1]);exact (by rw [HY.o.1];rfl);exact HY.o.2.1;intro w5 k5 v5 s5;have H5:Hid (G wr w5∧w5.heap[b8]?=some (.cells Y 125 (0,0))):=(by obtain ⟨q1,q2,q3,q4⟩:=H4.o;exact ⟨((Kp.of (S:=fun b=>wr.heap.size≤b) q2).trans k5 fun b _ e=>by omega).below (Nat.le_refl _) (fun b e=>e),v5⟩);clear k5 v5 s5;have hz8:=show w5.cell? ⟨b8,0,none⟩=some (.string d.name) from (by rw [j9 H5.o.2];exact HY.o.2.2.1))
    | ((with_reducible refine jE 29 123 (.tmp 28) b8 33 sc _ ?_ ?_ ?_ ?_ ?_ Tryz.underlying123 ?_ ?_ ?_);rfl;rfl;kernel_rfl;rfl;exact (by have:=(Lies.of_heap H5.o.2).part 33 36;rw [HY.o.2.2.2.1] at this;simpa using this);rfl;exact (by rw [zE,hscs]))
    | ((with_reducible refine jE 33 22 (.tmp 32) b8 1 (hA d.hash) _ ?_ ?_ ?_ ?_ ?_ Tryz.underlying22 ?_ ?_ ?_);rfl;rfl;kernel_rfl;rfl;exact (by have:=(Lies.of_heap H5.o.2).part 1 33;rw [HY.o.2.2.2.2] at this;simpa using this);rfl;exact (by rw [jK,HHS.o]))
    | (go_at_call 71;refine (HC1.o w5 H5.o.1).mono ?_;rintro e w6 ⟨rfl,q1⟩;have H6:=hid (H5.o.1.trans q1);clear q1)
    | ((with_reducible refine qC 9 22 (hA j7) ?_ ?_ ?_ ?_ ?_);rfl;rfl;kernel_rfl;exact jv;intro w7 b9 H7)
    | ((with_reducible refine qo 22 (.tmp 9) (.tmp 35) b9 (hA tx) (hA j7) ?_ ?_ ?_ ?_ ?_ ?_ ?_ ?_ ?_ ?_);rfl;rfl;kernel_rfl;rfl;rfl;exact H7.o.2.2.1;exact (by rw [jK,HTX.o.1]);exact (hz32.trans HTX.o.1.symm);exact HTX.o.2;intro w8 k8 v8 s8;have H8:Hid (ChI w b1 b2 tp w8∧w8.heap[b9]?=some (.cells (hA tx) 22 (0,0))∧b2<b9∧G wr w8):=(by obtain ⟨q1,q2,q3,q4⟩:=H7.o;have e:=(HI.o.up H6.o).up q2;have e2:=(ga (HI.o.up H6.o).v2).1;exact ⟨e.oth k8 (by omega),v8,by omega,((Kp.of (S:=fun b=>wr.heap.size≤b) (G.trans H6.o q2)).trans k8 fun b _ e=>by have:=H6.o.size;omega).below (Nat.le_refl _) fun b e=>e⟩);clear k8 v8 s8))
   clear H4 H5 H6 H7 HLies HSP HC1
   by_cases hk0:0<k
   ·have hk0I:(0:Int)<k:=by omega
    by_cases htt:tx=tp
    ·subst htt
     have HSI2:Hid (kh S (k+1) tx (cm.sides.drop (k+1))=ST):=hid (by have:=HSI.o;rw [if_neg (by simp)] at this;exact this)
     go_wp2_with (first
      | ((with_reducible refine jE 39 22 (.tmp 9) b9 0 (hA tx) _ ?_ ?_ ?_ ?_ ?_ Tryz.underlying22 ?_ ?_ ?_);rfl;rfl;kernel_rfl;rfl;exact Lies.of_heap H8.o.2.1;rfl;exact (by rw [jK,HTX.o.1]))
      | ((with_reducible refine jE 40 22 (.tmp 6) b2 0 (hA tx) _ ?_ ?_ ?_ ?_ ?_ Tryz.underlying22 ?_ ?_ ?_);rfl;rfl;kernel_rfl;rfl;exact Lies.of_heap H8.o.1.v2;rfl;exact (by rw [jK,HTX.o.1]))
      | ((with_reducible refine jT 41 (.bool false) w8 ?_ ?_ ?_ ?_);rfl;kernel_rfl;exact yT _ _ rfl (hA tx) (hA tx) rfl rfl tx tx rfl rfl hto.1 hto.1 false (by simp) _)
      | ((with_reducible refine jE 44 22 (.tmp 9) b9 0 (hA tx) _ ?_ ?_ ?_ ?_ ?_ Tryz.underlying22 ?_ ?_ ?_);rfl;rfl;kernel_rfl;rfl;exact Lies.of_heap H8.o.2.1;rfl;exact (by rw [jK,HTX.o.1]))
      | ((with_reducible refine qo 22 (.tmp 6) (.tmp 44) b2 (hA tx) (hA tx) ?_ ?_ ?_ ?_ ?_ ?_ ?_ ?_ ?_ ?_);rfl;rfl;kernel_rfl;rfl;rfl;exact H8.o.1.v2;exact (by rw [jK,HTX.o.1]);exact rfl;exact HTX.o.2;intro w9 k9 v9 s9;have H9:=hid (H8.o.1.set hto k9 v9);clear k9 v9 s9))
     go_roundw
     case rel=>exact ⟨k+1,by go_num,by omega,tx,H9.o,HSI2.o⟩
     case measure=>simp;omega
    ·have hRS:RES=none:=by have:=HSI.o;rw [if_pos ⟨hk0,htt⟩] at this;rw [← HRES.o,← this];rfl
     have HRS:=hid hRS
     clear hRS
     go_wp2_with (first
      | ((with_reducible refine jE 39 22 (.tmp 9) b9 0 (hA tx) _ ?_ ?_ ?_ ?_ ?_ Tryz.underlying22 ?_ ?_ ?_);rfl;rfl;kernel_rfl;rfl;exact Lies.of_heap H8.o.2.1;rfl;exact (by rw [jK,HTX.o.1]))
      | ((with_reducible refine jE 40 22 (.tmp 6) b2 0 (hA tp) _ ?_ ?_ ?_ ?_ ?_ Tryz.underlying22 ?_ ?_ ?_);rfl;rfl;kernel_rfl;rfl;exact Lies.of_heap H8.o.1.v2;rfl;exact (by rw [jK,HTP.o]))
      | ((with_reducible refine jT 41 (.bool true) w8 ?_ ?_ ?_ ?_);rfl;kernel_rfl;exact yT _ _ rfl (hA tx) (hA tp) rfl rfl tx tp rfl rfl hto.1 H8.o.1.tp.1 true (by simp [htt]) _)
      | ((with_reducible refine jT 43 (.agg (hA j7)) w8 ?_ ?_ ?_ ?_);rfl;kernel_rfl;exact xI 22 rfl (hA j7) (yS _))
      | ((with_reducible refine qj 22 (.tmp 4) (.tmp 43) b1 (hA j7) (hA j7) ?_ ?_ ?_ ?_ ?_ ?_ ?_ ?_ ?_ ?_);rfl;rfl;kernel_rfl;rfl;rfl;exact H8.o.1.v1;exact (by rw [jK,hz32]);exact rfl;exact (jn _);intro w9 H9))
     refine bodyPost_ret (zD (p:=4) (u:=5) rfl _ _ b1 (hA j7) rfl H9.o.2.1 hz32) rfl ⟨?_,.inl ⟨HRS.o,rfl⟩⟩
     exact ((Kp.of (S:=fun b=>w.heap.size≤b) H8.o.1.g).trans H9.o.1 fun b _ e=>by have:=H8.o.1.lo;omega).below (Nat.le_refl _) fun b e=>e
   ·have hk0I:¬ (0:Int)<k:=by omega
    have HSI2:Hid (kh S (k+1) tx (cm.sides.drop (k+1))=ST):=hid (by have:=HSI.o;rw [if_neg (by rintro ⟨h,_⟩;exact hk0 h)] at this;exact this)
    go_wp2_with (first
     | ((with_reducible refine jE 44 22 (.tmp 9) b9 0 (hA tx) _ ?_ ?_ ?_ ?_ ?_ Tryz.underlying22 ?_ ?_ ?_);rfl;rfl;kernel_rfl;rfl;exact Lies.of_heap H8.o.2.1;rfl;exact (by rw [jK,HTX.o.1]))
     | ((with_reducible refine qo 22 (.tmp 6) (.tmp 44) b2 (hA tx) (hA tp) ?_ ?_ ?_ ?_ ?_ ?_ ?_ ?_ ?_ ?_);rfl;rfl;kernel_rfl;rfl;rfl;exact H8.o.1.v2;exact (by rw [jK,HTX.o.1]);exact (by rw [HTP.o,HTX.o.1]);exact HTX.o.2;intro w9 k9 v9 s9;have H9:=hid (H8.o.1.set hto k9 v9);clear k9 v9 s9))
    go_roundw
    case rel=>exact ⟨k+1,by go_num,by omega,tx,H9.o,HSI2.o⟩
    case measure=>simp;omega
  ·have hkI:¬ (k:Int)<cm.sides.length:=by omega
   have hkn2:k=cm.sides.length:=by omega
   have hSTe:ST=some tp:=by rw [← hsid,List.drop_of_length_le (by omega)];rfl
   have hRS:RES=some (yI S (names.zip cm.steps).reverse (ownT cm.value cm.count tp)):=by rw [← HRES.o,hSTe];rfl
   have HRS:=hid hRS
   have HI:=hid hI
   clear hsid hRS hSTe HRES HR hI
   go_upto_region 10 with fail
   have hclr:=HCL.o.up HI.o.g
   have hLV:Hm.Lies wr C 2 (vx cm.value).toArray:=by
    have:=(Lies.of_heap hclr.at_).part 2 37
    rw [fj] at this
    simpa using this
   have hz37:wr.cell? ⟨C,37,none⟩=some (.int .i64 (cm.count:Int)):=by rw [j9 hclr.at_];exact yA _ _ _ _ _ _
   have hvk:=HOK.o.value
   have hT0:=oS hvk HOK.o.count HI.o.tp
   have CO:=fun W=>mr cm.value cm.count tp W HI.o.tp.1 hvk.1 hvk.2.1 (by have:=HOK.o.count;omega)
   obtain ⟨T0,hT0e⟩:∃ T0,ownT cm.value cm.count tp=T0:=⟨_,rfl⟩
   rw [hT0e] at hT0 CO HRS
   have hST:=hS T0
   have HZ:Hid ((hA (S T0)).size=32∧(hA (S T0)).all (·.oneCell')=true):=⟨jG hST.1,jn _⟩
   clear hT0e
   refine regc10 m C b2 (vx cm.value).toArray (hA tp) (hA (S T0)) (cm.count:Int) wr.heap.size (fun _ W=>G wr W) (fun r' W=>G wr W∧Su.Has W (r' 1) T0) (fun r' W=>G wr W∧r' 2=.agg (hA (S T0))) (fun r' W=>∃ b,r' 9=.pointer (some ⟨b,0,none⟩)∧wr.heap.size≤b∧W.heap[b]?=some (.cells (hA (S T0)) 22 (0,0))∧G wr W) (fun W=>G wr W) _ wr rfl rfl rfl rfl (jx _) (jG HI.o.tp.1) hz32 HZ.o (hb0:=fun _ _ q=>q) (hb1:=fun _ _ q=>q.1) (hb2:=fun _ _ q=>q.1) (hk0:=fun _ _ q=>q.trans (G.alloc _ _)) (hk1:=?k1) (hk2:=?k2) (hlo:=fun _ q=>q.size) (hc1:=?c1) (hc2:=?c2) (hw3:=?c3) (hl4:=fun W q=>Hm.Lies.below hLV q) (hl8:=fun W q=>q.cell hz37) (hl9:=fun W q=>Lies.of_heap ((q.block b2 (ga HI.o.v2).1).trans HI.o.v2)) (hst0:=fun _=>G.drew _) (hQ:=?c4)
   case k1=>exact fun r' W q=>⟨q.1.trans (G.alloc _ _),by rw [qr _ _ (by decide)];exact q.2.below (G.alloc _ _)⟩
   case k2=>exact fun r' W q=>⟨q.1.trans (G.alloc _ _),by rw [qr _ _ (by decide)];exact q.2⟩
   case c1=>
    intro r' W q
    refine (CO W).mono ?_
    rintro e W2 ⟨u,rfl,q1,q2⟩
    exact ⟨u,rfl,⟨q.trans q2,by rw [jA];exact q1.has⟩,q2⟩
   case c2=>
    rintro r' W ⟨q,q1⟩
    refine (HC.o.1 W _ T0 ((HC.o.2.trans HI.o.g).trans q) q1 hT0.1 hT0.2).mono ?_
    rintro e W2 ⟨rfl,q2⟩
    exact ⟨_,rfl,⟨q.trans q2,by rw [jA]⟩,q2⟩
   case c3=>
    rintro r' W b ⟨q,e1⟩ e2 e3 e4
    exact ⟨e1,b,e2,e4,setRow_heap _ _ _ _ _ _ e3,q.setRow _ e4⟩
   case c4=>
    rintro r' w4 ⟨b10,e1,e2,e3,e4⟩
    rw [foldc10,e1]
    generalize r' 1=u1
    generalize r' 2=u2
    have H4:Hid (ChI w b1 b10 (S T0) w4):=⟨(HI.o.up e4).v1,e3,HI.o.g.trans e4,⟨HI.o.lo.1,by have:=(ga HI.o.v1).1;omega⟩,hST⟩
    have hz1:w4.cell? ⟨C,1,none⟩=some (.slice sa cm.steps.length sc0):=by rw [j9 (HCL.o.up H4.o.g).at_];exact lF _ _ _ _ _ _
    clear e1 e2 e3 e4 hLV hz37 hclr HI CO
    go_simp
    go_wp2_with fail
    go_loopw [11] (fun i wr=>∃ (mm:Nat) (t:List Nat),i=.int .i64 ((mm:Int)-1)∧mm≤cm.steps.length∧Hid (ChI w b1 b10 (S t) wr∧RES=some (yI S ((names.zip cm.steps).take mm).reverse t))) (fun i _=>(iZ i+1).toNat)
    case atStart=>exact ⟨cm.steps.length,T0,rfl,by omega,H4.o,by rw [HRS.o,List.take_of_length_le (by simp [List.length_zip];omega)]⟩
    case round=>
     clear H4 HRS HZ
     obtain ⟨mm,t,rfl,hmm,HR⟩:=hrel
     have hSt:=hS t
     have HZt:Hid ((hA (S t)).size=32∧(hA (S t)).all (·.oneCell')=true):=⟨jG hSt.1,jn _⟩
     match mm,hmm,HR with
     | 0,hmm,HR=>
      have hRS:RES=some t:=by have:=HR.o.2;simpa [yI] using this
      have HRS:=hid hRS
      clear hRS
      go_wp2_with (first
       | ((with_reducible refine jE 97 22 (.tmp 10) b10 0 (hA (S t)) _ ?_ ?_ ?_ ?_ ?_ Tryz.underlying22 ?_ ?_ ?_);rfl;rfl;kernel_rfl;rfl;exact Lies.of_heap HR.o.1.v2;rfl;exact (by rw [jK,HZt.o.1]))
       | ((with_reducible refine qj 22 (.tmp 4) (.tmp 97) b1 (hA (S t)) (hA j7) ?_ ?_ ?_ ?_ ?_ ?_ ?_ ?_ ?_ ?_);rfl;rfl;kernel_rfl;rfl;rfl;exact HR.o.1.v1;exact (by rw [jK,HZt.o.1]);exact (hz32.trans HZt.o.1.symm);exact HZt.o.2;intro w9 H9))
      refine bodyPost_ret (zD (p:=4) (u:=5) rfl _ _ b1 (hA (S t)) rfl H9.o.2.1 HZt.o.1) rfl ⟨?_,.inr ⟨t,HRS.o,rfl⟩⟩
      exact ((Kp.of (S:=fun b=>w.heap.size≤b) HR.o.1.g).trans H9.o.1 fun b _ e=>by have:=HR.o.1.lo;omega).below (Nat.le_refl _) fun b e=>e
     | j+1,hmm,HR=>
      have hji:(((j+1:Nat):Int))-1=(j:Int):=by omega
      rw [hji]
      have hj0:(0:Int)≤(j:Int):=by omega
      have hR:=HR.o
      have hjL:j<cm.steps.length:=by omega
      have hjN:j<names.length:=by omega
      have hcl:=HCL.o.up hR.1.g
      obtain ⟨gL,cL,Z,hve,hLies,hLv⟩:=hcl.st.at (gl hjL)
      injection hve with f1 _ f3
      subst f1 f3
      obtain ⟨gn,hne1,hncell⟩:=HNM.o j _ (gl hjN)
      obtain ⟨nm,hnme⟩:∃ nm,names[j]=nm:=⟨_,rfl⟩
      obtain ⟨q,hq⟩:∃ q,cm.steps[j]=q:=⟨_,rfl⟩
      rw [hnme] at hncell
      rw [hq] at hLv
      have hqok:=HOK.o.steps q (by rw [← hq];exact List.getElem_mem hjL)
      have hzj:(names.zip cm.steps)[j]?=some (nm,q):=by rw [gl (by simp [List.length_zip];omega),List.getElem_zip,hnme,hq]
      have hRT4:=hR.2
      rw [bB S _ j _ hzj t] at hRT4
      simp only at hRT4
      have hnm255:nm.size≤255:=H255.o j nm (by rw [gl hjN,hnme])
      have hZs:=hLv.size
      have hZo:=hLv.one
      obtain ⟨sc,hZe,hsp,hqm⟩:=hLv
      have hscs:=hsp.size
      subst hne1
      have hto:=io hS nm (S t) q.sp
      have HC1:Hid (∀ W,G wr W→Calls Tryz.prog 71 #[.agg sc,.string nm,.agg (hA (S t)),.func (.func 29) #[.pointer (some ⟨m,0,none⟩)] #[]] W fun e w'=>e=.returned (.agg (hA (topH S nm (S t) q.sp)))∧G W w'):=fun W hW=>CT.o W sc q.sp _ nm (S t) (hR.1.g.trans hW) (hsp.up hW) hqok.1 hnm255 hSt
      generalize topH S nm (S t) q.sp=tx at hto HC1 hRT4
      have HTX:Hid ((hA tx).size=32∧(hA tx).all (·.oneCell')=true):=⟨jG hto.1,jn _⟩
      have hd:=ar (m:=q.mode) (c:=q.sp.count) (by omega) (by have:=hqok.1.2.1;omega) hto
      have hVd:VdOk (mkV 1 (q.mode:Int) 0 j7):=by rw [jh jC];exact ⟨⟨by simp,by simp;omega⟩,⟨by simp,by simp⟩,qk⟩
      have CO:Hid (∀ W,Calls Tryz.prog 72 #[.agg (vx (mkV 1 (q.mode:Int) 0 j7)).toArray,.int .i64 (q.sp.count:Int),.agg (hA tx)] W fun e w'=>∃ u,e=.returned u∧Su.Owns w' W.heap.size u (dirT q.mode q.sp.count tx)∧G W w'):=fun W=>by rw [← oR];exact mr _ q.sp.count tx W hto.1 hVd.1 hVd.2.1 (by have:=hqok.1.2.1;omega)
      obtain ⟨VX,hVX⟩:∃ VX:Array Value,VX=(vx (mkV 1 (q.mode:Int) 0 j7)).toArray:=⟨_,rfl⟩
      rw [← hVX] at CO
      have HVX:Hid (∀ W,(Instr.build 24 #[(0,.int .i64 1),(1,.int .i64 (q.mode:Int))]).run Tryz.prog W=.ok (.agg VX) W):=by rw [hVX];exact fh 1 (q.mode:Int)
      generalize dirT q.mode q.sp.count tx=T2 at *
      have HD2:=hid hd
      have HRT5:=hid hRT4
      have hST2:=hS T2
      have HZ2:Hid ((hA (S T2)).size=32∧(hA (S T2)).all (·.oneCell')=true):=⟨jG hST2.1,jn _⟩
      have HZ:Hid (Z.size=4∧Z.all (·.oneCell')=true∧Z.extract 1 4=sc∧Z[0]?=some (.int .i64 (q.mode:Int))∧Z[1]?=some (.int .i64 (q.sp.count:Int))):=⟨hZs,hZo,by rw [hZe];exact a0Y hscs,by rw [hZe];rfl,by obtain ⟨a,b,c,hsce,_⟩:=hsp;rw [hZe,hsce];rfl⟩
      have HLies:=hid hLies
      have HR1:=hid hR.1
      have hz1':wr.cell? ⟨C,1,none⟩=some (.slice (some ⟨gL,0,none⟩) cm.steps.length sc0):=by rw [j9 hcl.at_];exact lF _ _ _ _ _ _
      have hlL:¬ cm.steps.length≤j:=by omega
      have hlLI:¬ (cm.steps.length:Int)≤j:=by omega
      have hz4:z129.toArray.size=4:=rfl
      clear hR HR hLies hZs hZo hZe hsp hnme hq hzj hVX hVd hcl hRT4
      go_upto_region 15 with (first
       | ((with_reducible refine jE 74 129 (.tmp 73) gL (j*4) Z _ ?_ ?_ ?_ ?_ ?_ cI ?_ ?_ ?_);rfl;rfl;kernel_rfl;rfl;exact HLies.o;rfl;exact (by rw [fc,HZ.o.1]))
       | ((with_reducible refine qC 12 129 z129.toArray ?_ ?_ ?_ ?_ ?_);rfl;rfl;kernel_rfl;exact eF;intro w5 b12 H5)
       | ((with_reducible refine qo 129 (.tmp 12) (.tmp 74) b12 Z z129.toArray ?_ ?_ ?_ ?_ ?_ ?_ ?_ ?_ ?_ ?_);rfl;rfl;kernel_rfl;rfl;rfl;exact H5.o.2.2.1;exact (by rw [fc,HZ.o.1]);exact (hz4.trans HZ.o.1.symm);exact HZ.o.2.1;intro w6 k6 v6 s6;have H6:Hid (G wr w6∧w6.heap[b12]?=some (.cells Z 129 (0,0))):=(by obtain ⟨q1,q2,q3,q4⟩:=H5.o;exact ⟨((Kp.of (S:=fun b=>wr.heap.size≤b) q2).trans k6 fun b _ e=>by omega).below (Nat.le_refl _) (fun b e=>e),v6⟩);clear k6 v6 s6))
      have H7:=hid (HR1.o.up H6.o.1)
      have hsL:Hm.Lies w6 b12 1 sc:=by
       have:=(Lies.of_heap H6.o.2).part 1 4
       rw [HZ.o.2.2.1] at this
       simpa using this
      have hz0:w6.cell? ⟨C,0,none⟩=some (.slice (some ⟨gn,0,none⟩) names.length nc):=by rw [j9 (HCL.o.up H7.o.g).at_];exact wS _ _ _ _ _ _
      have hnc6:w6.cell? ⟨gn,j,none⟩=some (.string nm):=H7.o.g.cell hncell
      refine regc15 m C b10 b12 gn names.length nc j nm sc (hA (S t)) (hA tx) w6.heap.size (fun _ W=>G w6 W) (fun r' W=>G w6 W∧r' 1=.agg (hA tx)) (fun r' W=>∃ b,r' 9=.pointer (some ⟨b,0,none⟩)∧w6.heap.size≤b∧W.heap[b]?=some (.cells (hA tx) 22 (0,0))∧G w6 W) (fun W=>G w6 W) _ w6 rfl rfl rfl rfl rfl rfl hscs HZt.o.1 (by omega) hz32 HTX.o (hb0:=fun _ _ q=>q) (hb1:=fun _ _ q=>q.1) (hk0:=fun _ _ q=>q.trans (G.alloc _ _)) (hk1:=?k1') (hlo:=fun _ q=>q.size) (hc1:=?c1') (hw2:=?c2') (hl1:=fun W q=>Hm.Lies.below hsL q) (hl5:=fun W q=>q.cell hz0) (hl8:=fun W q=>q.cell hnc6) (hl9:=fun W q=>Lies.of_heap ((q.block b10 (ga H7.o.v2).1).trans H7.o.v2)) (hst0:=fun _=>G.drew _) (hQ:=?c3')
      case k1'=>exact fun r' W q=>⟨q.1.trans (G.alloc _ _),by rw [qr _ _ (by decide)];exact q.2⟩
      case c1'=>
       intro r' W q
       refine (HC1.o W (H6.o.1.trans q)).mono ?_
       rintro e W2 ⟨rfl,q2⟩
       exact ⟨_,rfl,⟨q.trans q2,by rw [jA]⟩,q2⟩
      case c2'=>
       rintro r' W b ⟨q,e1⟩ e2 e3 e4
       exact ⟨e1,b,e2,e4,setRow_heap _ _ _ _ _ _ e3,q.setRow _ e4⟩
      case c3'=>
       rintro r' w8 ⟨b13,e1,e2,e3,e4⟩
       rw [foldc15,e1]
       generalize r' 1=u1'
       have H8:=hid (H7.o.up e4)
       have HB12:Hid (w8.heap[b12]?=some (.cells Z 129 (0,0))):=(e4.block b12 (ga H6.o.2).1).trans H6.o.2
       have HB13:=hid e3
       have hzm:w8.cell? ⟨b12,0,none⟩=some (.int .i64 (q.mode:Int)):=by rw [j9 HB12.o];exact HZ.o.2.2.2.1
       have hzc:w8.cell? ⟨b12,1,none⟩=some (.int .i64 (q.sp.count:Int)):=by rw [j9 HB12.o];exact HZ.o.2.2.2.2
       clear e1 e2 e3 e4 hsL hz0 hnc6 H6 H5
       go_simp
       go_wp2_with (first
        | ((with_reducible refine jT 90 (.agg VX) w8 ?_ ?_ ?_ ?_);rfl;kernel_rfl;exact lA 24 0 1 (.const (.int .i64 1)) (.tmp 89) rfl (.int .i64 1) (.int .i64 (q.mode:Int)) rfl rfl VX (HVX.o _))
        | ((with_reducible refine jE 94 22 (.tmp 13) b13 0 (hA tx) _ ?_ ?_ ?_ ?_ ?_ Tryz.underlying22 ?_ ?_ ?_);rfl;rfl;kernel_rfl;rfl;exact Lies.of_heap HB13.o;rfl;exact (by rw [jK,HTX.o.1]))
        | (go_at_call 72;refine (CO.o w8).mono ?_;rintro e w9 ⟨u9,rfl,q1,q2⟩;obtain ⟨ua,uc,hue⟩:=jo q1;subst hue;have H9:Hid (ChI w b1 b10 (S t) w9):=H8.o.up q2;have HO9:=hid q1.has;clear q1 q2)
        | (go_at_call 29;refine (HC.o.1 w9 _ T2 (HC.o.2.trans H9.o.g) HO9.o HD2.o.1 HD2.o.2).mono ?_;rintro e w10 ⟨rfl,q2⟩;have H10:Hid (ChI w b1 b10 (S t) w10):=H9.o.up q2;clear q2)
        | ((with_reducible refine qo 22 (.tmp 10) (.tmp 96) b10 (hA (S T2)) (hA (S t)) ?_ ?_ ?_ ?_ ?_ ?_ ?_ ?_ ?_ ?_);rfl;rfl;kernel_rfl;rfl;rfl;exact H10.o.v2;exact (by rw [jK,HZ2.o.1]);exact (by rw [HZt.o.1,HZ2.o.1]);exact HZ2.o.2;intro w11 k11 v11 s11;have H11:=hid (H10.o.set hST2 k11 v11);clear k11 v11 s11))
       go_roundw
       case rel=>exact ⟨j,T2,by go_num,by omega,H11.o,HRT5.o⟩
       case measure=>first | (simp [iZ];done) | (simp [iZ];omega)
end Go.Proofs.YtdeanahpiigonaaGreatDoor
