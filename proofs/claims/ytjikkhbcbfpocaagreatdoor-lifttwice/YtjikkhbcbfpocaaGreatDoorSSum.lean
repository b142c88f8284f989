import Derived.Test.YtjikkhbcbfpocaaGreatDoorSMix
import Derived.Deep.Cut
set_option maxRecDepth 100000
set_option maxHeartbeats 1000000
namespace Go.Proofs.YtjikkhbcbfpocaaGreatDoor.Su
open Go.RowKit
def jg (n:Nat) (l:List Nat):Array Value:=((l++List.replicate (n-l.length) 0).map vb).toArray
theorem yG {n:Nat} {l:List Nat} (h:l.length≤n):(jg n l).size=n:=by simp [jg];omega
theorem np {n:Nat} {l:List Nat} (h:l.length=n):jg n l=(l.map vb).toArray:=by simp [jg,h]
theorem aK {n:Nat} {l:List Nat} (x:Nat) (h:l.length<n):(jg n l).setIfInBounds l.length (vb x)=jg n (l++[x]):=by
 unfold jg
 obtain ⟨m,hm⟩:∃ m,n-l.length=m+1:=⟨n-l.length-1,by omega⟩
 rw [hm,List.replicate_succ]
 have:n-(l++[x]).length=m:=by simp;omega
 rw [this]
 apply Array.ext'
 simp
theorem nr {n:Nat} {l:List Nat} (x:Nat) (h:l.length+4≤n):put4 (jg n l) l.length x=jg n (l++Sha.four x):=by
 unfold put4
 rw [aK _ (by omega)]
 have e1:l.length+1=(l++[x/16777216%256]).length:=by simp
 rw [e1,aK _ (by simp;omega)]
 have e2:l.length+2=(l++[x/16777216%256]++[x/65536%256]).length:=by simp
 rw [e2,aK _ (by simp;omega)]
 have e3:l.length+3=(l++[x/16777216%256]++[x/65536%256]++[x/256%256]).length:=by simp
 rw [e3,aK _ (by simp;omega)]
 simp [Sha.four]
theorem slice41 (g o l:Nat) (h:l<32) (wz:World):(Instr.sliceAt 22 (.pointer (some ⟨g,o,none⟩)) (some (.int .i64 (l:Int))) none none).run Tryz.prog wz=.ok (.slice (some ⟨g,o+l,none⟩) (32-l) (32-l)) wz:=by
 rw [run_sliceAt_array_l wz 22 ⟨g,o,none⟩ Tryz.underlying22 .i64 l (by omega) (by rw [show Tryz.prog.arrayLen 22=32 by kernel_rfl];omega)]
 have h1:(Tryz.prog.info? (Tryz.prog.elem 22)).map (·.size)=some 1:=by kernel_rfl
 cases hq:Tryz.prog.info? (Tryz.prog.elem 22) with
 | none=>simp [hq] at h1
 | some i=>
  have hs:i.size=1:=by simpa [hq] using h1
  rw [show Tryz.prog.arrayLen 22=32 by kernel_rfl]
  simp [sizeOf,typeInfo,hq,hs,slicedAt,Addr.add,show ¬ (32=l) by omega,Result.andThen]
theorem index94 {va:Array Value} {k x:Nat} (hk:k<8) (hv:va[k]?=some (.int .u32 (x:Int))) (wz:World):(Instr.index 238 (.agg va) (.int .i64 (k:Int))).run Tryz.prog wz=.ok (.int .u32 (x:Int)) wz:=by
 have h1:(Tryz.prog.info? 56).map (·.size)=some 1:=by kernel_rfl
 cases hq:Tryz.prog.info? 56 with
 | none=>simp [hq] at h1
 | some i=>
  have hs:i.size=1:=by simpa [hq] using h1
  simp [Instr.index,asIntOf,run_underlying Tryz.underlying238,sizeOf,typeInfo,hq,hs,part,isAgg,run_underlying Tryz.underlying56,hv]
  intro h;omega
def zh:List Nat→List Nat
 | []=>[]
 | x::l=>Sha.four x++zh l
theorem rU (l:List Nat) (x:Nat):zh (l++[x])=zh l++Sha.four x:=by
 induction l with
 | nil=>simp [zh]
 | cons y l ih=>simp [zh,ih]
theorem co (l:List Nat):(zh l).length=4*l.length:=by
 induction l with
 | nil=>rfl
 | cons y l ih=>simp [zh,ih,Sha.four];omega
structure BoW (w wr:World) (l:List Nat):Prop where
 out:wr.heap[w.heap.size+1]?=some (.cells (jg 32 []) 22 (0,0))
 row:wr.heap[w.heap.size+2]?=some (.cells (jg 32 l) 22 (0,0))
 below:Below w.heap.size w wr
theorem BoW.start (w:World) (o:Obj):BoW w (((w.alloc o).alloc (Obj.cells (jg 32 []) 22)).alloc (Obj.cells (jg 32 []) 22)) []:=by
 refine ⟨?_,?_,?_⟩
 ·rw [heap_alloc_old _ _ (by simp),show w.heap.size+1=(w.alloc o).heap.size by simp,heap_alloc_new]
 ·rw [show w.heap.size+2=((w.alloc o).alloc (Obj.cells (jg 32 []) 22)).heap.size by simp,heap_alloc_new]
 ·exact (((Below.refl _ w).alloc (Nat.le_refl _) _).alloc (by simp) _).alloc (by simp;omega) _
theorem BoW.put {w wr:World} {l:List Nat} (h:BoW w wr l) (x:Nat) (hl:l.length+4≤32):BoW w (wr.setRow (w.heap.size+2) (put4 (jg 32 l) l.length x)) (l++Sha.four x):=by
 refine ⟨?_,?_,?_⟩
 ·rw [setRow_other _ _ _ _ (by omega)];exact h.out
 ·rw [setRow_heap _ _ _ _ _ _ h.row,nr _ hl]
 ·exact below_setRow h.below (by omega) _
theorem lG (a b c d e f g h:Nat) (w:World) (ha:a<4294967296) (hb:b<4294967296) (hc:c<4294967296) (hd:d<4294967296) (he:e<4294967296) (hf:f<4294967296) (hg:g<4294967296) (hh:h<4294967296):
  Calls Tryz.prog 160 #[.agg #[vw a,vw b,vw c,vw d,vw e,vw f,vw g,vw h]] w fun x w'=>x=.returned (.agg ((zh [a,b,c,d,e,f,g,h]).map vb).toArray)∧Below w.heap.size w w':=by
 obtain ⟨ls,hls⟩:∃ ls,ls=[a,b,c,d,e,f,g,h]:=⟨_,rfl⟩
 have hl8:ls.length=8:=by rw [hls];rfl
 have HLT:Hid (∀ x∈ls,x<4294967296):=by rw [hls];intro x hx;simp at hx;rcases hx with rfl | rfl | rfl | rfl | rfl | rfl | rfl | rfl<;>assumption
 rw [show (#[vw a,vw b,vw c,vw d,vw e,vw f,vw g,vw h]:Array Value)=(ls.map vw).toArray by rw [hls];rfl,← hls]
 clear ha hb hc hd he hf hg hh hls
 obtain ⟨va,hva⟩:∃ va,va=(ls.map vw).toArray:=⟨_,rfl⟩
 have HVA:Hid (∀ i,i<8→va[i]?=some (.int .u32 ((ls.getD i 0:Nat):Int))):=fun i hi=>by
  rw [hva];simp [List.getD,hl8,hi];rfl
 have hvs:Hid ((Tryz.prog.info? 238).map (·.size)=some va.size):=by show _=_;rw [hva,show ((ls.map vw).toArray).size=8 by simp [hl8]];kernel_rfl
 rw [← hva]
 clear hva
 go_enter Tryz.func160,Tryz.ntmps160
 go_wp2_with (refine wpList_load_row rfl 238 (.tmp 1) rfl w.heap.size rfl 238 va (0,0) (.array 8 56) (by rw [heap_alloc_old _ _ (by simp;omega),heap_alloc_old _ _ (by simp),heap_alloc_new]) Tryz.underlying238 rfl hvs.out ?_)
 go_loopw [7] (fun i wr=>∃ (k:Nat),k≤8∧i=.int .i64 k∧BoW w wr (zh (ls.take k))) (fun i _=>8-(intOf i).toNat)
 case atStart=>exact ⟨0,by omega,rfl,BoW.start w _⟩
 case round=>
  obtain ⟨k,hk,rfl,HS⟩:=hrel
  by_cases hlt:k<8
  ·have hkI:(k:Int)<8:=by omega
   obtain ⟨x,hx,hxv⟩:∃ x,x=ls.getD k 0∧va[k]?=some (.int .u32 (x:Int)):=⟨_,rfl,HVA.out k hlt⟩
   have hxl:x<4294967296:=by rw [hx];exact HLT.out _ (by simp [List.getD,gl (show k<ls.length by omega)])
   have hix:=index94 hlt hxv
   have hsl:=slice41 (w.heap.size+2) 0 (4*k) (by omega)
   rw [show ((4*k:Nat):Int)=4*(k:Int) by omega] at hsl
   have hfl:(zh (ls.take k)).length=4*k:=by rw [co];simp;omega
   have C:Hid (Calls Tryz.prog 159 #[.slice (some ⟨w.heap.size+2,4*k,none⟩) (32-4*k) (32-4*k),.int .u32 (x:Int)] wr fun e w'=>e=.returned (.tuple #[])∧w'=wr.setRow (w.heap.size+2) (put4 (jg 32 (zh (ls.take k))) (4*k) x)):=
    yT _ _ _ _ x _ 22 wr hxl (by omega) HS.row (by rw [yG (by omega)];omega)
   have HN:Hid (BoW w (wr.setRow (w.heap.size+2) (put4 (jg 32 (zh (ls.take k))) (4*k) x)) (zh (ls.take (k+1)))):=by
    have h:=HS.put x (by omega)
    rw [hfl] at h
    rw [List.take_succ_eq_append_getElem (show k<ls.length by omega),rU,show ls[k]'(by omega)=x by rw [hx];simp [List.getD,gl (show k<ls.length by omega)]]
    exact h
   clear hfl HS hx hl8
   go_wp2_with (go_at_call 159;refine C.out.mono ?_;rintro e w1 ⟨rfl,rfl⟩)
   go_roundw
   case rel=>exact ⟨k+1,by omega,by go_num,HN.out⟩
   case measure=>simp [intOf];omega
  ·have hkI:¬ (k:Int)<8:=by omega
   obtain rfl:k=8:=by omega
   rw [List.take_of_length_le (by omega)] at HS
   obtain ⟨c,hc⟩:∃ c,c=((zh ls).map vb).toArray:=⟨_,rfl⟩
   have hcs:c.size=32:=by rw [hc];simp [co,hl8]
   have hrow:=HS.row
   rw [np (by rw [co,hl8]),← hc] at hrow
   have HF:Hid (wr.heap[w.heap.size+2]?=some (.cells c 22 (0,0))∧wr.heap[w.heap.size+1]?=some (.cells (jg 32 []) 22 (0,0))∧(Tryz.prog.info? 22).map (·.size)=some c.size∧c.all (·.oneCell')=true∧(jg 32 []).size=c.size):=
    ⟨hrow,HS.out,by rw [hcs];kernel_rfl,by rw [hc];exact bD _,by rw [yG (by simp),hcs]⟩
   have HRS:Hid ((wr.setRow (w.heap.size+1) c).heap[w.heap.size+1]?=some (.cells c 22 (0,0))):=setRow_heap _ _ _ _ _ _ HS.out
   have HBL:Hid (Below w.heap.size w (wr.setRow (w.heap.size+1) c)):=below_setRow HS.below (by omega) c
   have HCE:Hid (c=((zh ls).map vb).toArray):=hc
   clear hrow HS hc hcs hl8 HVA hvs
   go_wp2_with (first | refine wpList_load_row rfl 22 (.tmp 3) rfl (w.heap.size+2) rfl 22 c (0,0) (.array 32 5) HF.out.1 Tryz.underlying22 rfl HF.out.2.2.1 ?_ | refine wpList_store_row rfl 22 (.tmp 2) (.tmp 17) rfl (w.heap.size+1) c rfl rfl 22 (jg 32 []) HF.out.2.1 HF.out.2.2.1 HF.out.2.2.2.2 HF.out.2.2.2.1 ?_)
   refine bodyPost_ret (results_cell_row (P:=Tryz.prog) rfl _ _ (w.heap.size+1) 22 c (0,0) (.array 32 5) rfl HRS.out Tryz.underlying22 rfl HF.out.2.2.1) rfl ⟨by rw [HCE.out],HBL.out⟩
def jd (v:Sha.V) (rest:List Nat) (n:Nat):Array Value:=((yQ v).map vw++(rest.map vb++[Value.int .i64 (n:Int)])).toArray
def qU (w:World) (K:Nat) (T:TypeId) (l:List Nat):Prop:=
 ∃ v rest,w.heap[K]?=some (.cells (jd v rest l.length) T (0,0))∧Sha.Inv Sha.mix l rest v∧vok v∧Bytes rest
theorem qU.block {w w':World} {K:Nat} {T:TypeId} {l:List Nat} (h:qU w K T l) (hb:w'.heap[K]?=w.heap[K]?):qU w' K T l:=by
 obtain ⟨v,rest,hg,r⟩:=h
 exact ⟨v,rest,hb.trans hg,r⟩
theorem qU.lt {w:World} {K:Nat} {T:TypeId} {l:List Nat} (h:qU w K T l):K<w.heap.size:=by
 obtain ⟨v,rest,hg,r⟩:=h
 exact (gS hg)
theorem qU.below {w w':World} {K B:Nat} {T:TypeId} {l:List Nat} (h:qU w K T l) (hb:Below B w w') (hK:K<B):qU w' K T l:=h.block (hb.block K hK)
def hnew:Array Value:=jd Sha.first (List.replicate 64 0) 0
theorem mZ (w:World) (T:TypeId):qU (w.alloc (.cells hnew T)) w.heap.size T []:=
 ⟨Sha.first,List.replicate 64 0,heap_alloc_new _ _,Sha.wG _ (List.length_replicate),by unfold vok Sha.first;decide,fun x hx=>by rw [(List.mem_replicate.1 hx).2];decide⟩
theorem built98:Tryz.prog.built 242 [(0,.agg #[vw 1779033703,vw 3144134277,vw 1013904242,vw 2773480762,vw 1359893119,vw 2600822924,vw 528734635,vw 1541459225])]=some hnew:=by kernel_rfl
theorem kj (g off j:Nat):(⟨g,off,none⟩:Addr).add j=⟨g,off+j,none⟩:=by unfold Addr.add;split<;>simp_all
theorem cq {ops:Array Oper} {rest:List Oper} {o:Oper} {a:Act} {w:World} {Q:Exit→Act→World→Prop} (hgd:o.guard=none) (ty:TypeId) (x:Operand) (ho:o.op=.load ty x)
  (g off:Nat) (hx:a.eval x=.pointer (some ⟨g,off,none⟩)) (cs:List Value) (d:TypeDesc) (hc:∀ j v,cs[j]?=some v→w.cell? ⟨g,off+j,none⟩=some v)
  (hu:Tryz.prog.underlying ty=some d) (hd:(match d with | .struct _ | .array _ _=>true | _=>false)=true) (hi:(Tryz.prog.info? ty).map (·.size)=some cs.length)
  (h:wpList Tryz.prog ops Q rest (a.put o.dst (.agg cs.toArray)) w):wpList Tryz.prog ops Q (o::rest) a w:=by
 refine wpList_plain hgd fun K hK=>?_
 have hl:=run_loadCells_list (P:=Tryz.prog) w ⟨g,off,none⟩ cs (fun j v hv=>by
  rw [kj];exact hc j v hv)
 have hrun:(loadVar ty ⟨g,off,none⟩).run Tryz.prog w=.ok (.agg cs.toArray) w:=by
  cases hq:Tryz.prog.info? ty with
  | none=>simp [hq] at hi
  | some i=>
   have hs:i.size=cs.length:=by simpa [hq] using hi
   have hagg:(isAgg ty).run Tryz.prog w=.ok true w:=by
    unfold isAgg
    rw [Sem.run_bind,run_underlying hu w]
    cases d<;>simp_all
   simp [loadVar,Sem.run_bind,hagg,sizeOf,typeInfo,hq,hs,hl]
 unfold Oper.wp execOp
 simp only [ho,hx,Instr.loadAt,Instr.sureAddr,Sem.run_bind,Sem.run_pure,Result.andThen_ok,hrun]
 exact hK _ _ h
theorem fH {ops:Array Oper} {rest:List Oper} {o:Oper} {a:Act} {w:World} {Q:Exit→Act→World→Prop} (hg:o.guard=none) (t:TypeId) (x:Operand) (ho:o.op=.build t #[(0,x)])
  (v:Value) (cells:Array Value) (hx:a.eval x=v) (hb:Tryz.prog.built t [(0,v)]=some cells)
  (h:wpList Tryz.prog ops Q rest (a.put o.dst (.agg cells)) w):wpList Tryz.prog ops Q (o::rest) a w:=by
 have hb':Tryz.prog.built t ((#[(0,x)]:Array (Nat × Operand)).map fun (i,x)=>(i,a.eval x)).toList=some cells:=by
  have e:((#[(0,x)]:Array (Nat × Operand)).map fun (i,x)=>(i,a.eval x)).toList=[(0,v)]:=by simp [hx]
  rw [e];exact hb
 refine wpList_build hg t #[(0,x)] ho (by rw [hb'];rfl) ?_
 rw [hb'];exact h
theorem rW (w:World) (hT:Tabs w):
  Calls Tryz.prog 122 #[] w fun e w'=>e=.returned (.pointer (some ⟨w.heap.size,0,none⟩))∧w'=w.alloc (.cells hnew 242):=by
 obtain ⟨cs,hcs⟩:∃ cs:List Value,cs=[vw 1779033703,vw 3144134277,vw 1013904242,vw 2773480762,vw 1359893119,vw 2600822924,vw 528734635,vw 1541459225]:=⟨_,rfl⟩
 have HC:Hid (∀ j v,cs[j]?=some v→w.cell? ⟨2,0+j,none⟩=some v):=by
  rw [hcs]
  intro j v hv
  have hj:j<8:=by have:=(List.getElem?_eq_some_iff.1 hv).1;simpa using this
  rw [Nat.zero_add,hT.first j hj,← hv]
  have h:∀ j,j<8→([vw 1779033703,vw 3144134277,vw 1013904242,vw 2773480762,vw 1359893119,vw 2600822924,vw 528734635,vw 1541459225][j]?:Option Value)=some (vw ([1779033703,3144134277,1013904242,2773480762,1359893119,2600822924,528734635,1541459225].getD j 0)):=by
   intro j hj
   match j,hj with
   | 0,_ | 1,_ | 2,_ | 3,_ | 4,_ | 5,_ | 6,_ | 7,_=>rfl
  exact (h j hj).symm
 have HL:Hid ((Tryz.prog.info? 238).map (·.size)=some cs.length):=by show _=_;rw [hcs];kernel_rfl
 have HB:Hid (Tryz.prog.built 242 [(0,.agg cs.toArray)]=some hnew):=by show _=_;rw [hcs];exact built98
 clear hT hcs
 go_enter Tryz.func122,Tryz.ntmps122
 go_wp2_with (first | refine cq rfl 238 (.global 2) rfl 2 0 rfl cs (.array 8 56) HC.out Tryz.underlying238 rfl HL.out ?_ | refine fH rfl 242 (.tmp 1) rfl (.agg cs.toArray) hnew rfl HB.out ?_)
 go_ret
 exact ⟨rfl,rfl⟩
structure But (K:Nat) (w w':World):Prop where
 os:w'.os=w.os
 tape:w'.tape=w.tape
 output:w'.output=w.output
 size:w.heap.size≤w'.heap.size
 block:∀ k,k<w.heap.size→k≠K→w'.heap[k]?=w.heap[k]?
theorem But.refl (K:Nat) (w:World):But K w w:=⟨rfl,rfl,rfl,Nat.le_refl _,fun _ _ _=>rfl⟩
theorem But.trans {K:Nat} {a b c:World} (h:But K a b) (k:But K b c):But K a c:=
 ⟨k.os.trans h.os,k.tape.trans h.tape,k.output.trans h.output,Nat.le_trans h.size k.size,fun i hi hn=>(k.block i (Nat.lt_of_lt_of_le hi h.size) hn).trans (h.block i hi hn)⟩
theorem But.of_below {K:Nat} {a b:World} (h:Below a.heap.size a b):But K a b:=⟨h.os,h.tape,h.output,h.size,fun i hi _=>h.block i hi⟩
theorem But.below {K B:Nat} {a b:World} (h:But K a b) (hB:B≤K) (hs:B≤a.heap.size):Below B a b:=⟨h.os,h.tape,h.output,h.size,fun i hi=>h.block i (by omega) (by omega)⟩
theorem But.setRow {K:Nat} {a b:World} (h:But K a b) (cs:Array Value):But K a (b.setRow K cs):=
 h.trans ⟨rfl,rfl,rfl,by simp [World.setRow],fun i _ hn=>setRow_other b K i cs hn⟩
theorem But.setCell {K:Nat} {a b:World} (h:But K a b) (i:Nat) (v:Value):But K a (b.setCell ⟨K,i,none⟩ v):=
 h.trans ⟨rfl,rfl,rfl,by simp [World.setCell],fun j _ hn=>heap_setCell_other _ _ _ _ hn⟩
theorem But.drewN {K:Nat} {a b:World} (h:But K a b) (n:Nat):But K a (b.drewN n):=h.trans ⟨rfl,rfl,rfl,Nat.le_refl _,fun _ _ _=>rfl⟩
theorem But.cell {K:Nat} {a b:World} (h:But K a b) {x:Addr} {v:Value} (hx:a.cell? x=some v) (hn:x.block≠K):b.cell? x=some v:=by
 have hlt:=block_lt_of_cell hx
 have:=h.block x.block hlt hn
 unfold World.cell? at hx ⊢
 rw [this];exact hx
theorem Tabs.but {w w':World} {K:Nat} (h:Tabs w) (hb:But K w w') (hK:4≤K):Tabs w':=
 ⟨fun i hi=>hb.cell (h.first i hi) (by show 2≠K;omega),fun i hi=>hb.cell (h.round i hi) (by show 3≠K;omega)⟩
def Off (K:Nat) (v:Value):Prop:=∀ a n c,v=.slice (some a) n c→0<n→a.block≠K
theorem nn {w:World} {K:Nat} {v:Value} {l:List Nat} (h:Has w v l) (hK:w.heap.size≤K):Off K v:=by
 intro a n c e hn
 rcases h with ⟨rfl,_⟩ | ⟨a',cap,rfl,_,hc⟩
 ·cases e
 ·simp only [Value.slice.injEq,Option.some.injEq] at e
  obtain ⟨rfl,rfl,rfl⟩:=e
  have h0:=block_lt_of_cell (hc 0 hn)
  have:(a'.add 0).block=a'.block:=by unfold Addr.add;rfl
  omega
theorem Has.but {w w':World} {K:Nat} {v:Value} {l:List Nat} (h:Has w v l) (hb:But K w w') (ho:Off K v):Has w' v l:=by
 rcases h with h | ⟨a,cap,rfl,hc,h⟩
 ·exact .inl h
 ·exact .inr ⟨a,cap,rfl,hc,fun i hi=>hb.cell (h i hi) (by have:=ho a _ _ rfl (by omega);unfold Addr.add;split<;>exact this)⟩
theorem ci {v:Sha.V} {rest:List Nat} {n:Nat} (h:rest.length=64):(jd v rest n).size=73:=by simp [jd,yQ,h]
theorem zd {v:Sha.V} {rest:List Nat} {n:Nat} (h:rest.length=64):(jd v rest n)[72]?=some (.int .i64 (n:Int)):=by
 simp [jd,yQ,h]
theorem bC {v:Sha.V} {rest:List Nat} {n:Nat}:∀ j x,((yQ v).map vw)[j]?=some x→(jd v rest n)[0+j]?=some x:=by
 intro j x hx
 have hj:j<((yQ v).map vw).length:=(List.getElem?_eq_some_iff.1 hx).1
 simp only [jd,Nat.zero_add,List.getElem?_toArray]
 rw [List.getElem?_append_left hj];exact hx
theorem cj {v:Sha.V} {rest:List Nat} {n:Nat}:∀ j x,(rest.map vb)[j]?=some x→(jd v rest n)[8+j]?=some x:=by
 intro j x hx
 have hj:j<(rest.map vb).length:=(List.getElem?_eq_some_iff.1 hx).1
 simp only [jd,List.getElem?_toArray]
 rw [List.getElem?_append_right (by simp [yQ]),show 8+j-((yQ v).map vw).length=j by simp [yQ],List.getElem?_append_left hj];exact hx
theorem ze {v:Sha.V} {rest:List Nat} {n m:Nat} (h:rest.length=64):(jd v rest n).setIfInBounds 72 (.int .i64 (m:Int))=jd v rest m:=by
 apply Array.ext'
 simp [jd,yQ,h]
theorem fA {v:Sha.V} {rest:List Nat} {n:Nat} (h:rest.length=64) (r:Nat) (c:List Nat) (hr:r+c.length≤64):
  ((jd v rest n).toList.take (8+r)++(c.map vb++(jd v rest n).toList.drop (8+r+(c.map vb).length))).toArray=jd v (Sha.splice rest r c) n:=by
 apply Array.ext'
 have e:(jd v rest n).toList=(yQ v).map vw++(rest.map vb++[Value.int .i64 (n:Int)]):=rfl
 have l8:((yQ v).map vw).length=8:=rfl
 rw [e]
 simp only [jd,Sha.splice]
 rw [List.take_append,List.take_of_length_le (by omega),l8,show 8+r-8=r by omega,List.take_append_of_le_length (by simp;omega),List.drop_append,List.drop_of_length_le (by omega),l8,show 8+r+(c.map vb).length-8=r+c.length by simp;omega,List.drop_append_of_le_length (by simp;omega)]
 simp [List.map_take,List.map_drop]
theorem zg {v u:Sha.V} {rest:List Nat} {n:Nat}:((jd v rest n).toList.take 0++(vagg u).toList++(jd v rest n).toList.drop (0+(vagg u).size)).toArray=jd u rest n:=by
 apply Array.ext'
 simp [jd,vagg,yQ]
theorem fB {ops:Array Oper} {o:Oper} {a:Act} {w:World} {K:Act→World→Prop} {Q:Exit→Act→World→Prop} {E:Prop} (hgd:o.guard=none) (d s:Operand)
  (ho:o.op=.call { callee:=.builtin .copy,args:=#[d,s],argTypes:=#[35,35] })
  (g off dLen dCap sLen sCap:Nat) (ad:Addr) (hd:a.eval d=.slice (some ⟨g,off,none⟩) dLen dCap) (hs:a.eval s=.slice (some ad) sLen sCap)
  (cur:Array Value) (t:TypeId) (hg:w.heap[g]?=some (.cells cur t (0,0))) (cs:List Value) (hn:cs.length=Nat.min sLen dLen)
  (hsrc:∀ j v,cs[j]?=some v→w.cell? (ad.add j)=some v) (hfit:off+cs.length≤cur.size) (h1:∀ v∈cs,v.oneCell'=true) (fin:Array Value)
  (hfin:(cur.toList.take off++(cs++cur.toList.drop (off+cs.length))).toArray=fin) (m:Nat) (hcm:cs.length=m)
  (h:K (a.put o.dst (.int .i64 (m:Int))) (w.setRow g fin)):
  if Region.wanted o (yielded ops a.tmps)=true then Oper.wp Tryz.prog o a w K Q else E:=by
 have hw:Region.wanted o (yielded ops a.tmps)=true:=by simp [Region.wanted,hgd]
 rw [if_pos hw]
 have hrun:=run_copy_row (P:=Tryz.prog) w 35 35 o.type 5 g off dLen dCap ad sLen sCap cur t cs Tryz.underlying35 (by kernel_rfl) hg hn hsrc hfit h1
 rw [List.append_assoc,hfin] at hrun
 unfold Oper.wp
 simp [execOp,ho,resolve,invoke,builtin,hd,hs,hrun,Result.andThen]
 rw [hcm]
 exact h
theorem gn {w:World} (ty:TypeId) (g off:Nat) (cs:List Value) (d:TypeDesc) (hc:∀ j v,cs[j]?=some v→w.cell? ⟨g,off+j,none⟩=some v)
  (hu:Tryz.prog.underlying ty=some d) (hd:(match d with | .struct _ | .array _ _=>true | _=>false)=true) (hi:(Tryz.prog.info? ty).map (·.size)=some cs.length):
  (loadVar ty ⟨g,off,none⟩).run Tryz.prog w=.ok (.agg cs.toArray) w:=by
 have hl:=run_loadCells_list (P:=Tryz.prog) w ⟨g,off,none⟩ cs (fun j v hv=>by
  rw [kj];exact hc j v hv)
 cases hq:Tryz.prog.info? ty with
 | none=>simp [hq] at hi
 | some i=>
  have hs:i.size=cs.length:=by simpa [hq] using hi
  have hagg:(isAgg ty).run Tryz.prog w=.ok true w:=by
   unfold isAgg
   rw [Sem.run_bind,run_underlying hu w]
   cases d<;>simp_all
  simp [loadVar,Sem.run_bind,hagg,sizeOf,typeInfo,hq,hs,hl]
theorem fC {ops:Array Oper} {o:Oper} {a:Act} {w:World} {K:Act→World→Prop} {Q:Exit→Act→World→Prop} {E:Prop} (hgd:o.guard=none) (ty:TypeId) (x:Operand) (ho:o.op=.load ty x)
  (g off:Nat) (hx:a.eval x=.pointer (some ⟨g,off,none⟩)) (cs:List Value) (d:TypeDesc) (hc:∀ j v,cs[j]?=some v→w.cell? ⟨g,off+j,none⟩=some v)
  (hu:Tryz.prog.underlying ty=some d) (hd:(match d with | .struct _ | .array _ _=>true | _=>false)=true) (hi:(Tryz.prog.info? ty).map (·.size)=some cs.length)
  (h:K (a.put o.dst (.agg cs.toArray)) w):
  if Region.wanted o (yielded ops a.tmps)=true then Oper.wp Tryz.prog o a w K Q else E:=by
 have hw:Region.wanted o (yielded ops a.tmps)=true:=by simp [Region.wanted,hgd]
 rw [if_pos hw]
 have hrun:=gn ty g off cs d hc hu hd hi
 unfold Oper.wp execOp
 simp only [ho,hx,Instr.loadAt,Instr.sureAddr,Sem.run_bind,Sem.run_pure,Result.andThen_ok,hrun]
 exact h
theorem aJ {w:World} (ty:TypeId) (g off:Nat) (cells old fin:Array Value) (t:TypeId) (hg:w.heap[g]?=some (.cells old t (0,0))) (hi:(Tryz.prog.info? ty).map (·.size)=some cells.size)
  (ho:off+cells.size≤old.size) (h1:cells.all (·.oneCell')=true) (hfin:(old.toList.take off++cells.toList++old.toList.drop (off+cells.size)).toArray=fin):
  (storeVar ty ⟨g,off,none⟩ (.agg cells)).run Tryz.prog w=.ok () (w.setRow g fin):=by
 have:=re off cells hg ho h1
 rw [hfin] at this
 cases hq:Tryz.prog.info? ty with
 | none=>simp [hq] at hi
 | some i=>
  have hs:cells.size=i.size:=by simp [hq] at hi;omega
  simp [storeVar,sizeOf,typeInfo,hq,Value.cells,hs,this]
theorem dT {ops:Array Oper} {o:Oper} {a:Act} {w:World} {K:Act→World→Prop} {Q:Exit→Act→World→Prop} {E:Prop} (hgd:o.guard=none) (ty:TypeId) (x y:Operand) (ho:o.op=.store ty x y)
  (g off:Nat) (cells:Array Value) (hx:a.eval x=.pointer (some ⟨g,off,none⟩)) (hy:a.eval y=.agg cells)
  (old fin:Array Value) (t:TypeId) (hg:w.heap[g]?=some (.cells old t (0,0))) (hi:(Tryz.prog.info? ty).map (·.size)=some cells.size)
  (hof:off+cells.size≤old.size) (h1:cells.all (·.oneCell')=true) (hfin:(old.toList.take off++cells.toList++old.toList.drop (off+cells.size)).toArray=fin)
  (h:K (a.put o.dst undef) (w.setRow g fin)):
  if Region.wanted o (yielded ops a.tmps)=true then Oper.wp Tryz.prog o a w K Q else E:=by
 have hw:Region.wanted o (yielded ops a.tmps)=true:=by simp [Region.wanted,hgd]
 rw [if_pos hw]
 have hrun:=aJ ty g off cells old fin t hg hi hof h1 hfin
 unfold Oper.wp execOp
 simp only [ho,hx,hy,Instr.storeAt,Instr.sureAddr,Sem.run_bind,Sem.run_pure,Result.andThen_ok,hrun]
 exact h
theorem qv {md:Region.Mode} {ops:Array Oper} {Q:Exit→Act→World→Prop} {fuel:Nat} {listed:Array Bool} {a:Act} {w:World} {i:Nat} {o:Oper} {rs:List Nat} (hoi:ops[i]?=some o)
  (hgd:o.guard=none) (ty:TypeId) (x:Operand) (ho:o.op=.load ty x)
  (g off:Nat) (hx:a.eval x=.pointer (some ⟨g,off,none⟩)) (cs:List Value) (d:TypeDesc) (hc:∀ j v,cs[j]?=some v→w.cell? ⟨g,off+j,none⟩=some v)
  (hu:Tryz.prog.underlying ty=some d) (hd:(match d with | .struct _ | .array _ _=>true | _=>false)=true) (hi:(Tryz.prog.info? ty).map (·.size)=some cs.length)
  (h:wpAny Tryz.prog md ops Q fuel (listed.setIfInBounds i true) (a.put o.dst (.agg cs.toArray)) w)
  (hs:AllReady Tryz.prog md ops Q fuel listed a w rs):AllReady Tryz.prog md ops Q fuel listed a w (i::rs):=
 AllReady.cons hoi (fun _ hK=>fC hgd ty x ho g off hx cs d hc hu hd hi (hK _ _ h)) hs
theorem ki {md:Region.Mode} {ops:Array Oper} {Q:Exit→Act→World→Prop} {fuel:Nat} {listed:Array Bool} {a:Act} {w:World} {i:Nat} {o:Oper} {rs:List Nat} (hoi:ops[i]?=some o)
  (hgd:o.guard=none) (ty:TypeId) (x y:Operand) (ho:o.op=.store ty x y)
  (g off:Nat) (cells:Array Value) (hx:a.eval x=.pointer (some ⟨g,off,none⟩)) (hy:a.eval y=.agg cells)
  (old fin:Array Value) (t:TypeId) (hg:w.heap[g]?=some (.cells old t (0,0))) (hi:(Tryz.prog.info? ty).map (·.size)=some cells.size)
  (hof:off+cells.size≤old.size) (h1:cells.all (·.oneCell')=true) (hfin:(old.toList.take off++cells.toList++old.toList.drop (off+cells.size)).toArray=fin)
  (h:wpAny Tryz.prog md ops Q fuel (listed.setIfInBounds i true) (a.put o.dst undef) (w.setRow g fin))
  (hs:AllReady Tryz.prog md ops Q fuel listed a w rs):AllReady Tryz.prog md ops Q fuel listed a w (i::rs):=
 AllReady.cons hoi (fun _ hK=>dT hgd ty x y ho g off cells hx hy old fin t hg hi hof h1 hfin (hK _ _ h)) hs
theorem slice43 (a:Addr) (len cap m:Nat) (h:m≤len) (wz:World):(Instr.sliceAt 35 (.slice (some a) len cap) (some (.int .i64 (m:Int))) none none).run Tryz.prog wz=.ok (.slice (some (if cap=m then a else a.add m)) (len-m) (cap-m)) wz:=by
 have h1:(Tryz.prog.info? 5).map (·.size)=some 1:=by kernel_rfl
 cases hq:Tryz.prog.info? 5 with
 | none=>simp [hq] at h1
 | some i=>
  have hs:i.size=1:=by simpa [hq] using h1
  have hmI:(m:Int)≤(len:Int):=by omega
  rw [run_sliceAt_slice _ 35 _ _ _ _ Tryz.underlying35]
  simp [Instr.slice,run_underlying Tryz.underlying35,Instr.sliceBounds,run_sliceBound,sizeOf,typeInfo,hq,hs,hmI,Result.andThen]
  split<;>simp_all
theorem Has.drop {w:World} {a:Addr} {cap:Nat} {l:List Nat} (h:Has w (.slice (some a) l.length cap) l) (m:Nat) (hm:m≤l.length):
  Has w (.slice (some (if cap=m then a else a.add m)) (l.length-m) (cap-m)) (l.drop m):=by
 rcases h with ⟨h,_⟩ | ⟨a',cap',e,hc,hcell⟩
 ·cases h
 ·simp only [Value.slice.injEq,Option.some.injEq,true_and] at e
  obtain ⟨rfl,rfl⟩:=e
  refine .inr ⟨if cap=m then a else a.add m,cap-m,by rw [List.length_drop],by simp;omega,fun i hi=>?_⟩
  have hi':m+i<l.length:=by simp at hi;omega
  rw [if_neg (by omega)]
  have:(a.add m).add i=a.add (m+i):=by
   unfold Addr.add
   by_cases h1:m=0<;>by_cases h2:i=0<;>simp [h1,h2,Nat.add_assoc]
  rw [this,hcell _ hi']
  simp [List.getD,List.getElem?_drop]
theorem cm (n:Nat):Int.tmod (n:Int) 64=((n%64:Nat):Int):=by
 rw [Int.tmod_eq_emod_of_nonneg (by omega)];omega
def fD (V:Sha.V) (rst l:List Nat):Prop:=Sha.Inv Sha.mix l rst V
theorem fE {V:Sha.V} {b:List Nat}:vok (Sha.mix V b):=by
 unfold Sha.mix Sha.plus vok
 exact ⟨Nat.mod_lt _ (by decide),Nat.mod_lt _ (by decide),Nat.mod_lt _ (by decide),Nat.mod_lt _ (by decide),Nat.mod_lt _ (by decide),Nat.mod_lt _ (by decide),Nat.mod_lt _ (by decide),Nat.mod_lt _ (by decide)⟩
theorem eG (K:Nat) (T:TypeId) (l b:List Nat) (v:Value) (w:World) (hH:qU w K T l) (hv:Has w v b) (ho:Off K v) (hB:Bytes b) (hT:Tabs w) (hK:4≤K) (hl:l.length+b.length<1152921504606846976):
  Calls Tryz.prog 123 #[.pointer (some ⟨K,0,none⟩),v] w fun e w'=>e=.returned (.tuple #[])∧qU w' K T (l++b)∧But K w w':=by
 have HB:Hid (Bytes b):=hB
 have HT:Hid (Tabs w):=hT
 obtain ⟨ao0,cap0,rfl,_⟩:=hv.form
 clear hB hT
 go_enter Tryz.func123,Tryz.ntmps123
 go_wp2
 go_loopw [1] (fun v wr=>∃ (dn bs:List Nat) (ao:Option Addr) (cap:Nat),v=.slice ao bs.length cap∧Hid (b=dn++bs)∧Hid (qU wr K T (l++dn))∧Hid (Has w (.slice ao bs.length cap) bs)∧Hid (Off K (.slice ao bs.length cap))∧Hid (But K w wr)) (fun v _=>match v with | .slice _ n _=>n | _=>0)
 case atStart=>exact ⟨[],b,ao0,cap0,rfl,rfl,by show qU w K T (l++[]);rw [List.append_nil];exact hH,hv,ho,But.refl _ _⟩
 case round=>
  clear hH hv ho
  obtain ⟨dn,bs,ao,cap,rfl,HE,HH,HV,HO,HW⟩:=hrel
  by_cases h0:bs.length=0
  ·obtain rfl:bs=[]:=List.eq_nil_of_length_eq_zero h0
   have R:Hid (qU wr K T (l++b)∧But K w wr):=⟨by have h:=HH.out;have e:=HE.out;rw [List.append_nil] at e;rw [e];exact h,HW.out⟩
   clear HE HH HV HO HW
   go_wp2
   go_end0
   exact ⟨rfl,R.out⟩
  ·obtain ⟨a,rfl,hcap,hcell⟩:∃ a,ao=some a∧bs.length≤cap∧Hid (∀ i,i<bs.length→wr.cell? (a.add i)=some (vb (bs.getD i 0))):=by
    rcases HV.out.but HW.out HO.out with ⟨_,h⟩ | ⟨a,c,e,h⟩
    ·rw [h] at h0;exact absurd rfl h0
    ·simp only [Value.slice.injEq,true_and] at e
     obtain ⟨rfl,rfl⟩:=e
     exact ⟨a,rfl,h⟩
   have hpos:(0:Int)<(bs.length:Int):=by omega
   obtain ⟨V,rst,hg,hInv,hVok,hRb⟩:=HH.out
   obtain ⟨n,hn⟩:∃ n,n=(l++dn).length:=⟨_,rfl⟩
   rw [← hn] at hg
   have hnb:n+bs.length<1152921504606846976:=by
    have e:=HE.out
    rw [e] at hl
    rw [hn];simp at hl ⊢;omega
   have c72:wr.cell? ⟨K,72,none⟩=some (.int .i64 (n:Int)):=by
    rw [cell_of_row wr K 72 _ _ _ hg,zd hInv.len]
   have hrem:=cm n
   obtain ⟨r,hr⟩:∃ r,r=n%64:=⟨_,rfl⟩
   rw [← hr] at hrem
   have hr64:r<64:=by omega
   have hsl:=cx K 8 r hr64
   obtain ⟨m,hm⟩:∃ m,m=min bs.length (64-r):=⟨_,rfl⟩
   have HM:Hid (m≤bs.length∧r+m≤64∧0<m∧m=Nat.min bs.length (64-r)):=by
    refine ⟨by omega,by omega,by omega,?_⟩
    rw [hm]
   have HG:Hid (wr.heap[K]?=some (.cells (jd V rst n) T (0,0))):=hg
   have HI:Hid (Sha.Inv Sha.mix (l++dn) rst V):=hInv
   have HN:Hid (n=(l++dn).length∧r=n%64):=⟨hn,hr⟩
   have HVR:Hid (vok V∧Bytes rst):=⟨hVok,hRb⟩
   have HLEN:Hid (((bs.take m).map vb).length=m):=by show _=_;simp;have:=HM.out.1;omega
   have HCL:Hid (((bs.take m).map vb).length=Nat.min bs.length (64-r)):=by show _=_;rw [HLEN.out];exact HM.out.2.2.2
   have HSRC:Hid (∀ j v,((bs.take m).map vb)[j]?=some v→wr.cell? (a.add j)=some v):=by
    intro j v hj
    have hjm:j<m:=by have:=(List.getElem?_eq_some_iff.1 hj).1;rw [HLEN.out] at this;exact this
    have hjb:j<bs.length:=by have:=HM.out.1;omega
    rw [hcell.out j hjb]
    rw [List.getElem?_map,List.getElem?_take,if_pos hjm,gl hjb] at hj
    simpa [List.getD,gl hjb] using hj
   have HFIT:Hid (8+r+((bs.take m).map vb).length≤(jd V rst n).size):=by
    show _≤_
    rw [HLEN.out,ci hInv.len];have:=HM.out;omega
   have HONE:Hid (∀ v∈(bs.take m).map vb,v.oneCell'=true):=by
    intro v hv;obtain ⟨x,_,rfl⟩:=List.mem_map.1 hv;rfl
   have HFIN:Hid (((jd V rst n).toList.take (8+r)++((bs.take m).map vb++(jd V rst n).toList.drop (8+r+((bs.take m).map vb).length))).toArray=jd V (Sha.splice rst r (bs.take m)) n):=
    fA hInv.len r (bs.take m) (by simp;have:=HM.out;omega)
   have HNEXT:Hid (∀ wf,qU wf K T (l++(dn++bs.take m))→But K w wf→∃ (dn' bs':List Nat) (ao':Option Addr) (cap':Nat),Value.slice (some (if cap=m then a else a.add m)) (bs.length-m) (cap-m)=.slice ao' bs'.length cap'∧Hid (b=dn'++bs')∧Hid (qU wf K T (l++dn'))∧Hid (Has w (.slice ao' bs'.length cap') bs')∧Hid (Off K (.slice ao' bs'.length cap'))∧Hid (But K w wf)):=by
    intro wf h1 h2
    refine ⟨dn++bs.take m,bs.drop m,_,_,by rw [List.length_drop],?_,h1,?_,?_,h2⟩
    ·show _=_
     rw [List.append_assoc,List.take_append_drop];exact HE.out
    ·have:=HV.out.drop m HM.out.1
     rw [List.length_drop];exact this
    ·intro a' n' c' e' hn'
     simp only [Value.slice.injEq,Option.some.injEq] at e'
     have hblk:a.block≠K:=HO.out a _ _ rfl (by omega)
     rw [← e'.1]
     split
     ·exact hblk
     ·unfold Addr.add;split<;>exact hblk
   have HSTEP:Hid ((r+m<64→fD V (Sha.splice rst r (bs.take m)) (l++(dn++bs.take m)))∧(r+m=64→fD (Sha.mix V (Sha.splice rst r (bs.take m))) (Sha.splice rst r (bs.take m)) (l++(dn++bs.take m)))∧vok V∧Bytes (Sha.splice rst r (bs.take m))∧(l++(dn++bs.take m)).length=n+m):=by
    have hlm:(bs.take m).length=m:=by have:=HLEN.out;simpa using this
    have hbb:Bytes (bs.take m):=fun x hx=>HB.out x (by rw [HE.out];exact List.mem_append_right _ (List.mem_of_mem_take hx))
    have hsb:Bytes (Sha.splice rst r (bs.take m)):=fun x hx=>by
     unfold Sha.splice at hx
     simp only [List.mem_append] at hx
     rcases hx with hx | hx | hx
     ·exact hRb x (List.mem_of_mem_take hx)
     ·exact hbb x hx
     ·exact hRb x (List.mem_of_mem_drop hx)
    have e:r=(l++dn).length%64:=by rw [hr,hn]
    refine ⟨fun h=>?_,fun h=>?_,hVok,hsb,?_⟩
    ·have:=Sha.tn hInv (bs.take m) (by rw [← e,hlm];exact h)
     rw [← e] at this
     unfold fD;rw [← List.append_assoc];exact this
    ·have:=Sha.tq hInv (bs.take m) (by rw [← e,hlm];exact h)
     rw [← e] at this
     unfold fD;rw [← List.append_assoc];exact this
    ·rw [← List.append_assoc,lA,← hn,hlm]
   clear hg hInv hn hr hVok hRb hm HV HH
   go_wp2
   refine wp_region_any (by kernel_rfl) ?_
   change wpAny _ _ _ _ _ _ _ (World.drew _)
   refine tA 0 (.pointer (some ⟨K,0,none⟩)) ?_ ?_
   ·intro wz;go_simp
   refine tA 1 (.pointer (some ⟨K,0,none⟩)) ?_ ?_
   ·intro wz;go_simp
   refine tA 2 (.pointer (some ⟨K,8,none⟩)) ?_ ?_
   ·intro wz;go_simp
   refine tA 3 (.pointer (some ⟨K,0,none⟩)) ?_ ?_
   ·intro wz;go_simp
   refine tA 4 (.pointer (some ⟨K,0,none⟩)) ?_ ?_
   ·intro wz;go_simp
   refine tA 5 (.pointer (some ⟨K,72,none⟩)) ?_ ?_
   ·intro wz;go_simp
   refine tA 9 (.slice (some a) bs.length cap) ?_ ?_
   ·intro wz;go_simp
   refine rA [6] ?_
   refine oR (fun K' hK'=>?_)
   go_simp
   refine hK' _ _ ?_
   clear hK' K'
   refine tA 7 (.int .i64 r) ?_ ?_
   ·intro wz;go_simp
   refine tA 8 (.slice (some ⟨K,8+r,none⟩) (64-r) (64-r)) ?_ ?_
   ·intro wz;go_simp
   refine rA [10] ?_
   refine oR (fun K' hK'=>?_)
   refine fB rfl (.tmp 16) (.tmp 17) rfl K (8+r) (64-r) (64-r) bs.length cap a (by simp [Act.eval,Act.put]) (by simp [Act.eval,Act.put]) (jd V rst n) T HG.out ((bs.take m).map vb) HCL.out HSRC.out HFIT.out HONE.out (jd V (Sha.splice rst r (bs.take m)) n) HFIN.out m HLEN.out ?_
   refine hK' _ _ ?_
   clear hK' K'
   refine tA 11 (.int .i64 m) ?_ ?_
   ·intro wz;go_simp
   refine dA ?_
   generalize hW:(World.drew wr).setRow K (jd V (Sha.splice rst r (bs.take m)) n)=w2
   have HW2:Hid (But K w w2):=by rw [← hW];exact (HW.out.drewN 1).setRow _
   have HG2:Hid (w2.heap[K]?=some (.cells (jd V (Sha.splice rst r (bs.take m)) n) T (0,0))):=by rw [← hW];exact setRow_heap _ _ _ _ _ _ HG.out
   clear hW
   have HL2:Hid ((Sha.splice rst r (bs.take m)).length=64):=by
    show _=_
    rw [Sha.yA (by rw [HI.out.len];simp;have:=HM.out;omega)];exact HI.out.len
   have c72':w2.cell? ⟨K,72,none⟩=some (.int .i64 (n:Int)):=by
    rw [cell_of_row w2 K 72 _ _ _ HG2.out,zd HL2.out]
   have f72:w2.frozen? ⟨K,72,none⟩=false:=frozen_of_row w2 K 72 _ _ HG2.out
   obtain ⟨A,hA⟩:∃ A,A=(if cap=m then a else a.add m):=⟨_,rfl⟩
   have hs2:=slice43 a bs.length cap m HM.out.1
   rw [← hA] at hs2
   have HA:Hid (A=(if cap=m then a else a.add m)):=hA
   clear hA c72 hrem hsl
   obtain ⟨n2,HN2,hn2I,hw2⟩:∃ n2:Nat,Hid (n2=n+m)∧(n:Int)+(m:Int)=(n2:Int)∧IntKind.i64.wrap (n2:Int)=(n2:Int):=
    ⟨n+m,rfl,by omega,by rw [IntKind.wrap_i64];have:=HM.out.1;omega⟩
   have hrem2:=cm n2
   by_cases hz:n2%64=0
   ·rw [hz] at hrem2
    obtain ⟨rst2,hrs⟩:∃ rst2,rst2=Sha.splice rst r (bs.take m):=⟨_,rfl⟩
    rw [← hrs] at HG2 HL2 HSTEP
    clear hrs
    have h64:r+m=64:=by
     have h1:=HN2.out;have h2:=HN.out.2;have h3:=HM.out
     omega
    go_simp
    go_wp2
    refine yH (fun wf=>wf.heap[K]?=some (.cells (jd V rst2 n2) T (0,0))∧But K w wf) ⟨by rw [heap_setCell_same _ _ _ _ _ _ HG2.out,ze HL2.out],HW2.out.setCell _ _⟩ fun w3 H3=>?_
    have H3':Hid (w3.heap[K]?=some (.cells (jd V rst2 n2) T (0,0))∧But K w w3):=H3
    have CM:Hid (∀ wz,Tabs wz→Calls Tryz.prog 158 #[.agg ((yQ V).map vw).toArray,.agg (rst2.map vb).toArray] wz fun e w'=>e=.returned (.agg (vagg (Sha.mix V rst2)))∧Below wz.heap.size wz w'):=fun wz hz=>fJ V rst2 wz HSTEP.out.2.2.1 HL2.out HSTEP.out.2.2.2.1 hz
    have HTW:Hid (Tabs (w3.drew)):=(HT.out.but H3.2 hK).but (But.drewN (But.refl K w3) 1) hK
    have HC1:Hid (∀ j v,((yQ V).map vw)[j]?=some v→(w3.drew).cell? ⟨K,0+j,none⟩=some v):=fun j v hj=>by
     show w3.cell? ⟨K,0+j,none⟩=some v
     rw [cell_of_row _ K _ _ _ _ H3.1];exact bC j v hj
    have HC2:Hid (∀ j v,(rst2.map vb)[j]?=some v→(w3.drew).cell? ⟨K,8+j,none⟩=some v):=fun j v hj=>by
     show w3.cell? ⟨K,8+j,none⟩=some v
     rw [cell_of_row _ K _ _ _ _ H3.1];exact cj j v hj
    have HZ1:Hid ((Tryz.prog.info? 238).map (·.size)=some ((yQ V).map vw).length):=by show _=_;rw [show ((yQ V).map vw).length=8 from rfl];kernel_rfl
    have HZ2:Hid ((Tryz.prog.info? 240).map (·.size)=some (rst2.map vb).length):=by show _=_;rw [List.length_map,HL2.out];kernel_rfl
    have HZ8:Hid ((Tryz.prog.info? 238).map (·.size)=some (vagg (Sha.mix V rst2)).size):=by show _=_;rw [show (vagg (Sha.mix V rst2)).size=8 from rfl];kernel_rfl
    have HOF:Hid (0+(vagg (Sha.mix V rst2)).size≤(jd V rst2 n2).size):=by show _≤_;rw [ci HL2.out,show (vagg (Sha.mix V rst2)).size=8 from rfl];omega
    have HA1:Hid ((vagg (Sha.mix V rst2)).all (·.oneCell')=true):=eB _
    have hKs:K<w3.heap.size:=(gS H3.1)
    have HB4:Hid (∀ w4,Below (w3.drew).heap.size (w3.drew) w4→w4.heap[K]?=some (.cells (jd V rst2 n2) T (0,0))):=fun w4 h4=>(h4.block K hKs).trans H3.1
    have HFIN3:Hid (∀ w4,Below (w3.drew).heap.size (w3.drew) w4→∃ (dn' bs':List Nat) (ao':Option Addr) (cap':Nat),Value.slice (some A) (bs.length-m) (cap-m)=.slice ao' bs'.length cap'∧Hid (b=dn'++bs')∧Hid (qU (w4.setRow K (jd (Sha.mix V rst2) rst2 n2)) K T (l++dn'))∧Hid (Has w (.slice ao' bs'.length cap') bs')∧Hid (Off K (.slice ao' bs'.length cap'))∧Hid (But K w (w4.setRow K (jd (Sha.mix V rst2) rst2 n2)))):=fun w4 h4=>by
     have h:=HNEXT.out (w4.setRow K (jd (Sha.mix V rst2) rst2 n2)) ⟨Sha.mix V rst2,rst2,?_,HSTEP.out.2.1 h64,fE,HSTEP.out.2.2.2.1⟩ ((((H3.2.drewN 1).trans (But.of_below h4))).setRow _)
     ·rw [← HA.out] at h;exact h
     ·rw [HSTEP.out.2.2.2.2,← HN2.out]
      exact setRow_heap _ _ _ _ _ _ (HB4.out w4 h4)
    clear H3 hKs HNEXT HSTEP HG2 HL2 HG HI HVR c72' f72 hs2 hrem2 hw2 hn2I
    refine wp_region_any (by kernel_rfl) ?_
    change wpAny _ _ _ _ _ _ _ (World.drew _)
    refine tA 0 (.pointer (some ⟨K,0,none⟩)) ?_ ?_
    ·intro wz;go_simp
    refine tA 1 (.pointer (some ⟨K,0,none⟩)) ?_ ?_
    ·intro wz;go_simp
    refine tA 2 (.pointer (some ⟨K,0,none⟩)) ?_ ?_
    ·intro wz;go_simp
    refine tA 3 (.pointer (some ⟨K,0,none⟩)) ?_ ?_
    ·intro wz;go_simp
    refine tA 5 (.pointer (some ⟨K,0,none⟩)) ?_ ?_
    ·intro wz;go_simp
    refine tA 6 (.pointer (some ⟨K,0,none⟩)) ?_ ?_
    ·intro wz;go_simp
    refine tA 7 (.pointer (some ⟨K,8,none⟩)) ?_ ?_
    ·intro wz;go_simp
    simp only [Act.put,sD,sE,sF,sA,sB,sC]
    refine rA [4,8] ?_
    refine qv rfl rfl 238 (.tmp 39) rfl K 0 rfl ((yQ V).map vw) (.array 8 56) HC1.out Tryz.underlying238 rfl HZ1.out ?_ (qv rfl rfl 240 (.tmp 43) rfl K 8 rfl (rst2.map vb) (.array 64 5) HC2.out Tryz.underlying240 rfl HZ2.out ?_ AllReady.nil)
    ·simp only [Act.put,sD,sE,sF,sA,sB,sC]
     refine rA [8] ?_
     refine qv rfl rfl 240 (.tmp 43) rfl K 8 rfl (rst2.map vb) (.array 64 5) HC2.out Tryz.underlying240 rfl HZ2.out ?_ AllReady.nil
     simp only [Act.put,sD,sE,sF,sA,sB,sC]
     refine rA [9] ?_
     refine oR (fun K' hK'=>?_)
     go_simp
     refine (CM.out _ HTW.out).mono ?_
     rintro e w4 ⟨rfl,hb4⟩
     refine hK' _ _ ?_
     clear hK' K'
     refine tA 10 (.pointer (some ⟨K,0,none⟩)) ?_ ?_
     ·intro wz;go_simp
     refine tA 11 (.pointer (some ⟨K,0,none⟩)) ?_ ?_
     ·intro wz;go_simp
     simp only [Act.put,sD,sE,sF,sA,sB,sC]
     refine rA [12] ?_
     refine ki rfl rfl 238 (.tmp 47) (.tmp 45) rfl K 0 (vagg (Sha.mix V rst2)) rfl rfl (jd V rst2 n2) (jd (Sha.mix V rst2) rst2 n2) T (HB4.out _ hb4) HZ8.out HOF.out HA1.out zg ?_ AllReady.nil
     refine dA ?_
     have HF:=HFIN3.out _ hb4
     clear hb4
     generalize hW4:w4.setRow K (jd (Sha.mix V rst2) rst2 n2)=w5 at HF
     clear hW4
     have HF2:Hid (∃ (dn' bs':List Nat) (ao':Option Addr) (cap':Nat),Value.slice (some A) (bs.length-m) (cap-m)=.slice ao' bs'.length cap'∧Hid (b=dn'++bs')∧Hid (qU w5 K T (l++dn'))∧Hid (Has w (.slice ao' bs'.length cap') bs')∧Hid (Off K (.slice ao' bs'.length cap'))∧Hid (But K w w5)):=HF
     clear HF
     go_simp
     go_wp2
     go_roundw
     case rel=>exact HF2.out
     case measure=>show bs.length-m<bs.length;have:=HM.out;omega
    ·simp only [Act.put,sD,sE,sF,sA,sB,sC]
     refine rA [4] ?_
     refine qv rfl rfl 238 (.tmp 39) rfl K 0 rfl ((yQ V).map vw) (.array 8 56) HC1.out Tryz.underlying238 rfl HZ1.out ?_ AllReady.nil
     simp only [Act.put,sD,sE,sF,sA,sB,sC]
     refine rA [9] ?_
     refine oR (fun K' hK'=>?_)
     go_simp
     refine (CM.out _ HTW.out).mono ?_
     rintro e w4 ⟨rfl,hb4⟩
     refine hK' _ _ ?_
     clear hK' K'
     refine tA 10 (.pointer (some ⟨K,0,none⟩)) ?_ ?_
     ·intro wz;go_simp
     refine tA 11 (.pointer (some ⟨K,0,none⟩)) ?_ ?_
     ·intro wz;go_simp
     simp only [Act.put,sD,sE,sF,sA,sB,sC]
     refine rA [12] ?_
     refine ki rfl rfl 238 (.tmp 47) (.tmp 45) rfl K 0 (vagg (Sha.mix V rst2)) rfl rfl (jd V rst2 n2) (jd (Sha.mix V rst2) rst2 n2) T (HB4.out _ hb4) HZ8.out HOF.out HA1.out zg ?_ AllReady.nil
     refine dA ?_
     have HF:=HFIN3.out _ hb4
     clear hb4
     generalize hW4:w4.setRow K (jd (Sha.mix V rst2) rst2 n2)=w5 at HF
     clear hW4
     have HF2:Hid (∃ (dn' bs':List Nat) (ao':Option Addr) (cap':Nat),Value.slice (some A) (bs.length-m) (cap-m)=.slice ao' bs'.length cap'∧Hid (b=dn'++bs')∧Hid (qU w5 K T (l++dn'))∧Hid (Has w (.slice ao' bs'.length cap') bs')∧Hid (Off K (.slice ao' bs'.length cap'))∧Hid (But K w w5)):=HF
     clear HF
     go_simp
     go_wp2
     go_roundw
     case rel=>exact HF2.out
     case measure=>show bs.length-m<bs.length;have:=HM.out;omega
   ·have hz2:(((n2%64:Nat):Int)==0)=false:=by simp;omega
    have HLT:Hid (r+m<64):=by
     show _<_
     have h1:=HN2.out;have h2:=HN.out.2;have h3:=HM.out
     omega
    obtain ⟨r2,hr2⟩:∃ r2,r2=n2%64:=⟨_,rfl⟩
    rw [← hr2] at hrem2 hz2
    clear hr2 hz
    go_simp
    go_wp2
    go_roundw
    case rel=>
     have h:=HNEXT.out (w2.setCell ⟨K,72,none⟩ (.int .i64 (n2:Int))) ⟨V,_,?_,HSTEP.out.1 HLT.out,HSTEP.out.2.2.1,HSTEP.out.2.2.2.1⟩ (HW2.out.setCell _ _)
     ·rw [← HA.out] at h;exact h
     ·rw [HSTEP.out.2.2.2.2,← HN2.out,heap_setCell_same _ _ _ _ _ _ HG2.out,ze HL2.out]
    case measure=>show bs.length-m<bs.length;have:=HM.out;omega
structure St (w0 wf:World) (K:Nat) (T:TypeId) (V:Sha.V) (rst:List Nat) (n:Nat) (g3 g4:Option Nat) (b3 b4:Bool):Prop where
 hash:wf.heap[K]?=some (.cells (jd V rst n) T (0,0))
 below:Below w0.heap.size w0 wf
 r3:∀ g,g3=some g→w0.heap.size≤g∧∃ c,wf.heap[g]?=some (.cells c 238 (0,0))∧c.size=8∧(b3=true→c=vagg V)
 r4:∀ g,g4=some g→w0.heap.size≤g∧∃ c,wf.heap[g]?=some (.cells c 240 (0,0))∧c.size=64∧(b4=true→c=(rst.map vb).toArray)
 ne:∀ g g',g3=some g→g4=some g'→g≠g'
def z94:Array Value:=fill 8 []
def z96:Array Value:=jg 64 []
variable {w0 wf:World} {K:Nat} {T:TypeId} {V:Sha.V} {rst:List Nat} {n:Nat} {g3 g4:Option Nat} {b3 b4:Bool}
theorem St.alloc3 (h:St w0 wf K T V rst n none g4 b3 b4):St w0 (wf.alloc (.cells z94 238)) K T V rst n (some wf.heap.size) g4 false b4:=by
 have hK:=(gS h.hash)
 refine ⟨?_,h.below.alloc h.below.size _,?_,?_,?_⟩
 ·rw [heap_alloc_old _ _ hK];exact h.hash
 ·intro g e;cases e
  exact ⟨h.below.size,z94,heap_alloc_new _ _,rfl,fun e=>by cases e⟩
 ·intro g e
  obtain ⟨h1,c,h2,h3⟩:=h.r4 g e
  exact ⟨h1,c,by rw [heap_alloc_old _ _ (gS h2)];exact h2,h3⟩
 ·intro g g' e e'
  cases e
  obtain ⟨_,c,h2,_⟩:=h.r4 g' e'
  have:=(gS h2)
  omega
theorem St.alloc4 (h:St w0 wf K T V rst n g3 none b3 b4):St w0 (wf.alloc (.cells z96 240)) K T V rst n g3 (some wf.heap.size) b3 false:=by
 have hK:=(gS h.hash)
 refine ⟨?_,h.below.alloc h.below.size _,?_,?_,?_⟩
 ·rw [heap_alloc_old _ _ hK];exact h.hash
 ·intro g e
  obtain ⟨h1,c,h2,h3⟩:=h.r3 g e
  exact ⟨h1,c,by rw [heap_alloc_old _ _ (gS h2)];exact h2,h3⟩
 ·intro g e;cases e
  exact ⟨h.below.size,z96,heap_alloc_new _ _,rfl,fun e=>by cases e⟩
 ·intro g g' e e'
  cases e'
  obtain ⟨_,c,h2,_⟩:=h.r3 g e
  have:=(gS h2)
  omega
theorem St.ne3 (h:St w0 wf K T V rst n g3 g4 b3 b4) (hK:K<w0.heap.size):∀ g,g3=some g→K≠g:=fun g e=>by have:=(h.r3 g e).1;omega
theorem St.ne4 (h:St w0 wf K T V rst n g3 g4 b3 b4) (hK:K<w0.heap.size):∀ g,g4=some g→K≠g:=fun g e=>by have:=(h.r4 g e).1;omega
theorem St.store3 {g:Nat} (h:St w0 wf K T V rst n (some g) g4 b3 b4) (hK:K<w0.heap.size):St w0 (wf.setRow g (vagg V)) K T V rst n (some g) g4 true b4:=by
 obtain ⟨h1,c,h2,h3,_⟩:=h.r3 g rfl
 refine ⟨?_,below_setRow h.below h1 _,?_,?_,h.ne⟩
 ·rw [setRow_other _ _ _ _ (h.ne3 hK g rfl)];exact h.hash
 ·intro g' e;cases e
  exact ⟨h1,vagg V,setRow_heap _ _ _ _ _ _ h2,rfl,fun _=>rfl⟩
 ·intro g' e
  obtain ⟨k1,c',k2,k3⟩:=h.r4 g' e
  exact ⟨k1,c',by rw [setRow_other _ _ _ _ (Ne.symm (h.ne g g' rfl e))];exact k2,k3⟩
theorem St.store4 {g:Nat} (h:St w0 wf K T V rst n g3 (some g) b3 b4) (hK:K<w0.heap.size) (hl:rst.length=64):St w0 (wf.setRow g (rst.map vb).toArray) K T V rst n g3 (some g) b3 true:=by
 obtain ⟨h1,c,h2,h3,_⟩:=h.r4 g rfl
 refine ⟨?_,below_setRow h.below h1 _,?_,?_,h.ne⟩
 ·rw [setRow_other _ _ _ _ (h.ne4 hK g rfl)];exact h.hash
 ·intro g' e
  obtain ⟨k1,c',k2,k3⟩:=h.r3 g' e
  exact ⟨k1,c',by rw [setRow_other _ _ _ _ (h.ne g' g e rfl)];exact k2,k3⟩
 ·intro g' e;cases e
  exact ⟨h1,_,setRow_heap _ _ _ _ _ _ h2,by simp [hl],fun _=>rfl⟩
variable {md:Region.Mode} {ops:Array Oper} {Q:Exit→Act→World→Prop} {fuel:Nat} {listed:Array Bool} {a:Act} {i:Nat} {o:Oper} {rs:List Nat}
theorem qE (h:St w0 wf K T V rst n g3 g4 b3 b4) (hoi:ops[i]?=some o) (hgd:o.guard=none) (x:Operand) (ho:o.op=.load 238 x) (hx:a.eval x=.pointer (some ⟨K,0,none⟩))
  (k:wpAny Tryz.prog md ops Q fuel (listed.setIfInBounds i true) (a.put o.dst (.agg (vagg V))) wf)
  (hs:AllReady Tryz.prog md ops Q fuel listed a wf rs):AllReady Tryz.prog md ops Q fuel listed a wf (i::rs):=
 qv hoi hgd 238 x ho K 0 hx ((yQ V).map vw) (.array 8 56) (fun j v hj=>by rw [cell_of_row _ K _ _ _ _ h.hash];exact bC j v hj) Tryz.underlying238 rfl (by rw [show ((yQ V).map vw).length=8 from rfl];kernel_rfl) k hs
theorem jf (h:St w0 wf K T V rst n g3 g4 b3 b4) (hl:rst.length=64) (hoi:ops[i]?=some o) (hgd:o.guard=none) (x:Operand) (ho:o.op=.load 240 x) (hx:a.eval x=.pointer (some ⟨K,8,none⟩))
  (k:wpAny Tryz.prog md ops Q fuel (listed.setIfInBounds i true) (a.put o.dst (.agg (rst.map vb).toArray)) wf)
  (hs:AllReady Tryz.prog md ops Q fuel listed a wf rs):AllReady Tryz.prog md ops Q fuel listed a wf (i::rs):=
 qv hoi hgd 240 x ho K 8 hx (rst.map vb) (.array 64 5) (fun j v hj=>by rw [cell_of_row _ K _ _ _ _ h.hash];exact cj j v hj) Tryz.underlying240 rfl (by rw [List.length_map,hl];kernel_rfl) k hs
theorem zero94:(Tryz.prog.info? 238).map (fun i=>(i.zero,i.size))=some (some (.agg z94),8):=by kernel_rfl
theorem zero96:(Tryz.prog.info? 240).map (fun i=>(i.zero,i.size))=some (some (.agg z96),64):=by kernel_rfl
theorem xH (hoi:ops[i]?=some o) (hgd:o.guard=none) (ty:TypeId) (ho:o.op=.alloc ty) (z:Array Value) (s:Nat) (hz:(Tryz.prog.info? ty).map (fun i=>(i.zero,i.size))=some (some (.agg z),s))
  (h:wpAny Tryz.prog md ops Q fuel (listed.setIfInBounds i true) (a.put o.dst (.pointer (some ⟨wf.heap.size,0,none⟩))) (wf.alloc (.cells z ty)))
  (hs:AllReady Tryz.prog md ops Q fuel listed a wf rs):AllReady Tryz.prog md ops Q fuel listed a wf (i::rs):=by
 refine AllReady.cons hoi (fun K' hK=>?_) hs
 have hw:Region.wanted o (yielded ops a.tmps)=true:=by simp [Region.wanted,hgd]
 rw [if_pos hw]
 have h0:=(zero_of_info hz).1 wf
 unfold Oper.wp
 simp [execOp,ho,go_sem,h0,Result.andThen]
 exact hK _ _ h
theorem jq (h:St w0 wf K T V rst n none g4 b3 b4) (hoi:ops[i]?=some o) (hgd:o.guard=none) (ho:o.op=.alloc 238)
  (k:∀ w',St w0 w' K T V rst n (some wf.heap.size) g4 false b4→wpAny Tryz.prog md ops Q fuel (listed.setIfInBounds i true) (a.put o.dst (.pointer (some ⟨wf.heap.size,0,none⟩))) w')
  (hs:AllReady Tryz.prog md ops Q fuel listed a wf rs):AllReady Tryz.prog md ops Q fuel listed a wf (i::rs):=
 xH hoi hgd 238 ho z94 8 zero94 (k _ h.alloc3) hs
theorem jr (h:St w0 wf K T V rst n g3 none b3 b4) (hoi:ops[i]?=some o) (hgd:o.guard=none) (ho:o.op=.alloc 240)
  (k:∀ w',St w0 w' K T V rst n g3 (some wf.heap.size) b3 false→wpAny Tryz.prog md ops Q fuel (listed.setIfInBounds i true) (a.put o.dst (.pointer (some ⟨wf.heap.size,0,none⟩))) w')
  (hs:AllReady Tryz.prog md ops Q fuel listed a wf rs):AllReady Tryz.prog md ops Q fuel listed a wf (i::rs):=
 xH hoi hgd 240 ho z96 64 zero96 (k _ h.alloc4) hs
theorem gq {old c:Array Value} (h:old.size=c.size):(old.toList.take 0++c.toList++old.toList.drop (0+c.size)).toArray=c:=by
 rw [List.take_zero,List.nil_append,List.drop_of_length_le (by simp;omega),List.append_nil]
theorem jP {g:Nat} (h:St w0 wf K T V rst n (some g) g4 b3 b4) (hK:K<w0.heap.size) (hoi:ops[i]?=some o) (hgd:o.guard=none) (x y:Operand) (ho:o.op=.store 238 x y)
  (hx:a.eval x=.pointer (some ⟨g,0,none⟩)) (hy:a.eval y=.agg (vagg V))
  (k:∀ w',St w0 w' K T V rst n (some g) g4 true b4→wpAny Tryz.prog md ops Q fuel (listed.setIfInBounds i true) (a.put o.dst undef) w')
  (hs:AllReady Tryz.prog md ops Q fuel listed a wf rs):AllReady Tryz.prog md ops Q fuel listed a wf (i::rs):=by
 obtain ⟨h1,c,h2,h3,_⟩:=h.r3 g rfl
 exact ki hoi hgd 238 x y ho g 0 (vagg V) hx hy c (vagg V) 238 h2 (by rw [show (vagg V).size=8 from rfl];kernel_rfl) (by rw [h3,show (vagg V).size=8 from rfl];decide) (eB _) (gq (by rw [h3];rfl)) (k _ (h.store3 hK)) hs
theorem jQ {g:Nat} (h:St w0 wf K T V rst n g3 (some g) b3 b4) (hK:K<w0.heap.size) (hl:rst.length=64) (hoi:ops[i]?=some o) (hgd:o.guard=none) (x y:Operand) (ho:o.op=.store 240 x y)
  (hx:a.eval x=.pointer (some ⟨g,0,none⟩)) (hy:a.eval y=.agg (rst.map vb).toArray)
  (k:∀ w',St w0 w' K T V rst n g3 (some g) b3 true→wpAny Tryz.prog md ops Q fuel (listed.setIfInBounds i true) (a.put o.dst undef) w')
  (hs:AllReady Tryz.prog md ops Q fuel listed a wf rs):AllReady Tryz.prog md ops Q fuel listed a wf (i::rs):=by
 obtain ⟨h1,c,h2,h3,_⟩:=h.r4 g rfl
 have hsz:((rst.map vb).toArray).size=64:=by simp [hl]
 exact ki hoi hgd 240 x y ho g 0 (rst.map vb).toArray hx hy c (rst.map vb).toArray 240 h2 (by rw [hsz];kernel_rfl) (by rw [h3,hsz];decide) (bD _) (gq (by rw [h3,hsz])) (k _ (h.store4 hK hl)) hs
end Go.Proofs.YtjikkhbcbfpocaaGreatDoor.Su
