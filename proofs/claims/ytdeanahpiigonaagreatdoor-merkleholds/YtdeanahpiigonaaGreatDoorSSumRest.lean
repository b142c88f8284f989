import Derived.Test.YtdeanahpiigonaaGreatDoorSAddWalk
import Derived.Deep.Cut
set_option maxRecDepth 100000
namespace Go.Proofs.YtdeanahpiigonaaGreatDoor.Su
open Go.RowKit
structure St (w0 wf:World) (K:Nat) (T:TypeId) (V:Sha.V) (rst:List Nat) (n:Nat) (g3 g4:Option Nat) (b3 b4:Bool):Prop where
 hash:wf.heap[K]?=some (.cells (jg V rst n) T (0,0))
 below:Below w0.heap.size w0 wf
 r3:∀ g,g3=some g→w0.heap.size≤g∧∃ c,wf.heap[g]?=some (.cells c 195 (0,0))∧c.size=8∧(b3=true→c=vagg V)
 r4:∀ g,g4=some g→w0.heap.size≤g∧∃ c,wf.heap[g]?=some (.cells c 197 (0,0))∧c.size=64∧(b4=true→c=(rst.map vb).toArray)
 ne:∀ g g',g3=some g→g4=some g'→g≠g'
def z94:Array Value:=fill 8 []
def z96:Array Value:=jY 64 []
variable {w0 wf:World} {K:Nat} {T:TypeId} {V:Sha.V} {rst:List Nat} {n:Nat} {g3 g4:Option Nat} {b3 b4:Bool}
theorem St.alloc3 (h:St w0 wf K T V rst n none g4 b3 b4):St w0 (wf.alloc (.cells z94 195)) K T V rst n (some wf.heap.size) g4 false b4:=by
 have hK:=(ga h.hash).1
 refine ⟨?_,h.below.alloc h.below.size _,?_,?_,?_⟩
 ·rw [heap_alloc_old _ _ hK];exact h.hash
 ·intro g e;cases e
  exact ⟨h.below.size,z94,heap_alloc_new _ _,rfl,fun e=>by cases e⟩
 ·intro g e
  obtain ⟨h1,c,h2,h3⟩:=h.r4 g e
  exact ⟨h1,c,by rw [heap_alloc_old _ _ (ga h2).1];exact h2,h3⟩
 ·intro g g' e e'
  cases e
  obtain ⟨_,c,h2,_⟩:=h.r4 g' e'
  have:=(ga h2).1
  omega
theorem St.alloc4 (h:St w0 wf K T V rst n g3 none b3 b4):St w0 (wf.alloc (.cells z96 197)) K T V rst n g3 (some wf.heap.size) b3 false:=by
 have hK:=(ga h.hash).1
 refine ⟨?_,h.below.alloc h.below.size _,?_,?_,?_⟩
 ·rw [heap_alloc_old _ _ hK];exact h.hash
 ·intro g e
  obtain ⟨h1,c,h2,h3⟩:=h.r3 g e
  exact ⟨h1,c,by rw [heap_alloc_old _ _ (ga h2).1];exact h2,h3⟩
 ·intro g e;cases e
  exact ⟨h.below.size,z96,heap_alloc_new _ _,rfl,fun e=>by cases e⟩
 ·intro g g' e e'
  cases e'
  obtain ⟨_,c,h2,_⟩:=h.r3 g e
  have:=(ga h2).1
  omega
theorem St.ne3 (h:St w0 wf K T V rst n g3 g4 b3 b4) (hK:K<w0.heap.size):∀ g,g3=some g→K≠g:=fun g e=>by have:=(h.r3 g e).1;omega
theorem St.ne4 (h:St w0 wf K T V rst n g3 g4 b3 b4) (hK:K<w0.heap.size):∀ g,g4=some g→K≠g:=fun g e=>by have:=(h.r4 g e).1;omega
theorem St.store3 {g:Nat} (h:St w0 wf K T V rst n (some g) g4 b3 b4) (hK:K<w0.heap.size):St w0 (wf.setRow g (vagg V)) K T V rst n (some g) g4 true b4:=by
 obtain ⟨h1,c,h2,h3,_⟩:=h.r3 g rfl
 refine ⟨?_,below_setRow h.below h1 _,?_,?_,h.ne⟩
 ·rw [setRow_other _ _ _ _ (h.ne3 hK g rfl)];exact h.hash
 ·intro g' e;cases e
  exact ⟨h1,vagg V,setRow_heap _ _ _ _ _ _ h2,rfl,fun _=>rfl⟩
 ·intro g' e
  obtain ⟨k1,c',k2,k3⟩:=h.r4 g' e
  exact ⟨k1,c',by rw [setRow_other _ _ _ _ (Ne.symm (h.ne g g' rfl e))];exact k2,k3⟩
theorem St.store4 {g:Nat} (h:St w0 wf K T V rst n g3 (some g) b3 b4) (hK:K<w0.heap.size) (hl:rst.length=64):St w0 (wf.setRow g (rst.map vb).toArray) K T V rst n g3 (some g) b3 true:=by
 obtain ⟨h1,c,h2,h3,_⟩:=h.r4 g rfl
 refine ⟨?_,below_setRow h.below h1 _,?_,?_,h.ne⟩
 ·rw [setRow_other _ _ _ _ (h.ne4 hK g rfl)];exact h.hash
 ·intro g' e
  obtain ⟨k1,c',k2,k3⟩:=h.r3 g' e
  exact ⟨k1,c',by rw [setRow_other _ _ _ _ (h.ne g' g e rfl)];exact k2,k3⟩
 ·intro g' e;cases e
  exact ⟨h1,_,setRow_heap _ _ _ _ _ _ h2,by simp [hl],fun _=>rfl⟩
variable {md:Region.Mode} {ops:Array Oper} {Q:Exit→Act→World→Prop} {fuel:Nat} {listed:Array Bool} {a:Act} {i:Nat} {o:Oper} {rs:List Nat}
theorem qA (h:St w0 wf K T V rst n g3 g4 b3 b4) (hoi:ops[i]?=some o) (hgd:o.guard=none) (x:Operand) (ho:o.op=.load 195 x) (hx:a.eval x=.pointer (some ⟨K,0,none⟩))
  (k:wpAny Tryz.prog md ops Q fuel (listed.setIfInBounds i true) (a.put o.dst (.agg (vagg V))) wf)
  (hs:AllReady Tryz.prog md ops Q fuel listed a wf rs):AllReady Tryz.prog md ops Q fuel listed a wf (i::rs):=
 qp hoi hgd 195 x ho K 0 hx ((jZ V).map vw) (.array 8 193) (fun j v hj=>by rw [cell_of_row _ K _ _ _ _ h.hash];exact aD j v hj) Tryz.underlying195 rfl (by rw [show ((jZ V).map vw).length=8 from rfl];kernel_rfl) k hs
theorem ji (h:St w0 wf K T V rst n g3 g4 b3 b4) (hl:rst.length=64) (hoi:ops[i]?=some o) (hgd:o.guard=none) (x:Operand) (ho:o.op=.load 197 x) (hx:a.eval x=.pointer (some ⟨K,8,none⟩))
  (k:wpAny Tryz.prog md ops Q fuel (listed.setIfInBounds i true) (a.put o.dst (.agg (rst.map vb).toArray)) wf)
  (hs:AllReady Tryz.prog md ops Q fuel listed a wf rs):AllReady Tryz.prog md ops Q fuel listed a wf (i::rs):=
 qp hoi hgd 197 x ho K 8 hx (rst.map vb) (.array 64 5) (fun j v hj=>by rw [cell_of_row _ K _ _ _ _ h.hash];exact bF j v hj) Tryz.underlying197 rfl (by rw [List.length_map,hl];kernel_rfl) k hs
theorem zero94:(Tryz.prog.info? 195).map (fun i=>(i.zero,i.size))=some (some (.agg z94),8):=by kernel_rfl
theorem zero96:(Tryz.prog.info? 197).map (fun i=>(i.zero,i.size))=some (some (.agg z96),64):=by kernel_rfl
theorem zt (hoi:ops[i]?=some o) (hgd:o.guard=none) (ty:TypeId) (ho:o.op=.alloc ty) (z:Array Value) (s:Nat) (hz:(Tryz.prog.info? ty).map (fun i=>(i.zero,i.size))=some (some (.agg z),s))
  (h:wpAny Tryz.prog md ops Q fuel (listed.setIfInBounds i true) (a.put o.dst (.pointer (some ⟨wf.heap.size,0,none⟩))) (wf.alloc (.cells z ty)))
  (hs:AllReady Tryz.prog md ops Q fuel listed a wf rs):AllReady Tryz.prog md ops Q fuel listed a wf (i::rs):=by
 refine AllReady.cons hoi (fun K' hK=>?_) hs
 have hw:Region.wanted o (yielded ops a.tmps)=true:=by simp [Region.wanted,hgd]
 rw [if_pos hw]
 have h0:=(zero_of_info hz).1 wf
 unfold Oper.wp
 simp [execOp,ho,go_sem,h0,Result.andThen]
 exact hK _ _ h
theorem jr (h:St w0 wf K T V rst n none g4 b3 b4) (hoi:ops[i]?=some o) (hgd:o.guard=none) (ho:o.op=.alloc 195)
  (k:∀ w',St w0 w' K T V rst n (some wf.heap.size) g4 false b4→wpAny Tryz.prog md ops Q fuel (listed.setIfInBounds i true) (a.put o.dst (.pointer (some ⟨wf.heap.size,0,none⟩))) w')
  (hs:AllReady Tryz.prog md ops Q fuel listed a wf rs):AllReady Tryz.prog md ops Q fuel listed a wf (i::rs):=
 zt hoi hgd 195 ho z94 8 zero94 (k _ h.alloc3) hs
theorem js (h:St w0 wf K T V rst n g3 none b3 b4) (hoi:ops[i]?=some o) (hgd:o.guard=none) (ho:o.op=.alloc 197)
  (k:∀ w',St w0 w' K T V rst n g3 (some wf.heap.size) b3 false→wpAny Tryz.prog md ops Q fuel (listed.setIfInBounds i true) (a.put o.dst (.pointer (some ⟨wf.heap.size,0,none⟩))) w')
  (hs:AllReady Tryz.prog md ops Q fuel listed a wf rs):AllReady Tryz.prog md ops Q fuel listed a wf (i::rs):=
 zt hoi hgd 197 ho z96 64 zero96 (k _ h.alloc4) hs
theorem dl {old c:Array Value} (h:old.size=c.size):(old.toList.take 0++c.toList++old.toList.drop (0+c.size)).toArray=c:=by
 rw [List.take_zero,List.nil_append,List.drop_of_length_le (by simp;omega),List.append_nil]
theorem jO {g:Nat} (h:St w0 wf K T V rst n (some g) g4 b3 b4) (hK:K<w0.heap.size) (hoi:ops[i]?=some o) (hgd:o.guard=none) (x y:Operand) (ho:o.op=.store 195 x y)
  (hx:a.eval x=.pointer (some ⟨g,0,none⟩)) (hy:a.eval y=.agg (vagg V))
  (k:∀ w',St w0 w' K T V rst n (some g) g4 true b4→wpAny Tryz.prog md ops Q fuel (listed.setIfInBounds i true) (a.put o.dst undef) w')
  (hs:AllReady Tryz.prog md ops Q fuel listed a wf rs):AllReady Tryz.prog md ops Q fuel listed a wf (i::rs):=by
 obtain ⟨h1,c,h2,h3,_⟩:=h.r3 g rfl
 exact kY hoi hgd 195 x y ho g 0 (vagg V) hx hy c (vagg V) 195 h2 (by rw [show (vagg V).size=8 from rfl];kernel_rfl) (by rw [h3,show (vagg V).size=8 from rfl];decide) (cC _) (dl (by rw [h3];rfl)) (k _ (h.store3 hK)) hs
theorem jP {g:Nat} (h:St w0 wf K T V rst n g3 (some g) b3 b4) (hK:K<w0.heap.size) (hl:rst.length=64) (hoi:ops[i]?=some o) (hgd:o.guard=none) (x y:Operand) (ho:o.op=.store 197 x y)
  (hx:a.eval x=.pointer (some ⟨g,0,none⟩)) (hy:a.eval y=.agg (rst.map vb).toArray)
  (k:∀ w',St w0 w' K T V rst n g3 (some g) b3 true→wpAny Tryz.prog md ops Q fuel (listed.setIfInBounds i true) (a.put o.dst undef) w')
  (hs:AllReady Tryz.prog md ops Q fuel listed a wf rs):AllReady Tryz.prog md ops Q fuel listed a wf (i::rs):=by
 obtain ⟨h1,c,h2,h3,_⟩:=h.r4 g rfl
 have hsz:((rst.map vb).toArray).size=64:=by simp [hl]
 exact kY hoi hgd 197 x y ho g 0 (rst.map vb).toArray hx hy c (rst.map vb).toArray 197 h2 (by rw [hsz];kernel_rfl) (by rw [h3,hsz];decide) (aE _) (dl (by rw [h3,hsz])) (k _ (h.store4 hK hl)) hs
end Go.Proofs.YtdeanahpiigonaaGreatDoor.Su
namespace Go.Proofs.YtdeanahpiigonaaGreatDoor.Su
open Go.RowKit
theorem bR (L:List Nat) (i x:Nat):((L.map vb).toArray).setIfInBounds i (vb x)=((L.set i x).map vb).toArray:=by
 apply Array.ext';simp [List.map_set]
theorem gT (A:List Nat) (b x:Nat) (B:List Nat) (n:Nat) (h:n=A.length):(A++b::B).set n x=A++x::B:=by subst h;simp
theorem dm (L:List Nat) (o x:Nat) (h:o+4≤L.length):put4 (L.map vb).toArray o x=((Sha.splice L o (Sha.four x)).map vb).toArray:=by
 unfold put4
 rw [bR,bR,bR,bR]
 congr 2
 obtain ⟨A,D,rfl,hA⟩:∃ A D,L=A++D∧A.length=o:=⟨L.take o,L.drop o,by simp,by simp;omega⟩
 obtain ⟨b0,b1,b2,b3,B,rfl⟩:∃ b0 b1 b2 b3 B,D=b0::b1::b2::b3::B:=by
  match D,h with
  | b0::b1::b2::b3::B,_=>exact ⟨b0,b1,b2,b3,B,rfl⟩
  | [],h=>simp at h;omega
  | [_],h=>simp at h;omega
  | [_,_],h=>simp at h;omega
  | [_,_,_],h=>simp at h;omega
 rw [gT A b0 _ _ o hA.symm,List.append_cons,gT _ b1 _ _ _ (by simp [hA]),List.append_cons,gT _ b2 _ _ _ (by simp [hA]),List.append_cons,gT _ b3 _ _ _ (by simp [hA])]
 unfold Sha.splice Sha.four
 subst hA
 simp
theorem dq (L:List Nat) (x y:Nat) (h:L.length=64):put4 (put4 (L.map vb).toArray 56 x) 60 y=((L.take 56++(Sha.four x++Sha.four y)).map vb).toArray:=by
 have h1:(Sha.splice L 56 (Sha.four x)).length=64:=by rw [Sha.yD (by rw [h];exact Nat.le_of_ble_eq_true rfl)];exact h
 rw [dm L 56 x (by omega),dm _ 60 y (by omega)]
 congr 2
 have e:Sha.splice L 56 (Sha.four x)=L.take 56++(Sha.four x++L.drop 60):=rfl
 have l1:(L.take 56).length=56:=by simp;omega
 have l2:(L.take 56++Sha.four x).length=60:=by simp [l1,Sha.four]
 unfold Sha.splice at h1 ⊢
 rw [show (L.take 56++(Sha.four x++L.drop (56+(Sha.four x).length)))=(L.take 56++Sha.four x)++L.drop 60 by rw [List.append_assoc];rfl]
 rw [List.take_append_of_le_length (by omega),List.take_of_length_le (by omega),List.drop_append,List.drop_of_length_le (by rw [l2];simp [Sha.four]),l2]
 simp [Sha.four,List.drop_of_length_le (show L.length≤64 by omega)]
theorem fM (g o:Nat) (wz:World):(Instr.sliceAt 197 (.pointer (some ⟨g,o,none⟩)) (some (.int .i64 64)) none none).run Tryz.prog wz=.ok (.slice (some ⟨g,o,none⟩) 0 0) wz:=by
 rw [run_sliceAt_array_l wz 197 ⟨g,o,none⟩ Tryz.underlying197 .i64 64 (by omega) (by rw [show Tryz.prog.arrayLen 197=64 by kernel_rfl];omega)]
 have h1:(Tryz.prog.info? (Tryz.prog.elem 197)).map (·.size)=some 1:=by kernel_rfl
 cases hq:Tryz.prog.info? (Tryz.prog.elem 197) with
 | none=>simp [hq] at h1
 | some i=>
  have hs:i.size=1:=by simpa [hq] using h1
  rw [show Tryz.prog.arrayLen 197=64 by kernel_rfl]
  simp [sizeOf,typeInfo,hq,slicedAt,Result.andThen]
theorem aF {ops:Array Oper} {rest:List Oper} {o:Oper} {a:Act} {w:World} {Q:Exit→Act→World→Prop} (hgd:o.guard=none) (x:Operand)
  (ho:o.op=.call { callee:=.builtin .clear,args:=#[x],argTypes:=#[25] })
  (g off m cap:Nat) (hx:a.eval x=.slice (some ⟨g,off,none⟩) m cap) (cur fin:Array Value) (t:TypeId) (hg:w.heap[g]?=some (.cells cur t (0,0)))
  (hfit:0<m→off+m≤cur.size) (h0:m=0→cur=fin) (h1:0<m→(cur.toList.take off++List.replicate m (vb 0)++cur.toList.drop (off+m)).toArray=fin)
  (h:wpList Tryz.prog ops Q rest (a.put o.dst (.tuple #[])) (w.setRow g fin)):wpList Tryz.prog ops Q (o::rest) a w:=by
 refine wpList_plain hgd fun K hK=>?_
 have hrun:(Builtin.clear_ #[25] o.type #[.slice (some ⟨g,off,none⟩) m cap]).run Tryz.prog w=.ok (.tuple #[]) (w.setRow g fin):=by
  by_cases hm:m=0
  ·subst hm
   rw [← h0 rfl,setRow_self w g cur t (0,0) hg]
   simp [Builtin.clear_,run_underlying Tryz.underlying25]
  ·have hzc:(Builtin.zeroCells (Value.cells (.int .u8 0)) m).toList=List.replicate m (vb 0):=by
    simp [Builtin.zeroCells,Value.cells]
    apply List.ext_getElem
    ·simp
    ·intro i h1 h2
     simp [Nat.mod_one,vb]
   have hst:=run_storeCells_at Tryz.prog g off t (List.replicate m (vb 0)) 0 cur w hg (by simpa using hfit (by omega)) (fun v hv=>by rw [List.eq_of_mem_replicate hv];rfl)
   simp only [Nat.add_zero,List.length_replicate] at hst
   rw [h1 (by omega)] at hst
   have hz0:∀ w,(zeroValue 5).run Tryz.prog w=.ok (.int .u8 0) w:=fun w=>by
    obtain ⟨i0,hi,hz0,_,_⟩:=info_parts Tryz.info5
    simp [zeroValue,typeInfo,hi,hz0]
   obtain ⟨k,rfl⟩:∃ k,m=k+1:=⟨m-1,by omega⟩
   simp [Builtin.clear_,run_underlying Tryz.underlying25,hz0,hzc,hst]
 unfold Oper.wp
 simp [execOp,ho,resolve,invoke,builtin,hx,hrun,Result.andThen]
 exact hK _ _ h
theorem built96:Tryz.prog.built 197 []=some (jY 64 []):=by kernel_rfl
theorem d8 {ops:Array Oper} {rest:List Oper} {o:Oper} {a:Act} {w:World} {Q:Exit→Act→World→Prop} (hg:o.guard=none) (t:TypeId) (ho:o.op=.build t #[])
  (cells:Array Value) (hb:Tryz.prog.built t []=some cells) (h:wpList Tryz.prog ops Q rest (a.put o.dst (.agg cells)) w):wpList Tryz.prog ops Q (o::rest) a w:=by
 have hb':Tryz.prog.built t ((#[]:Array (Nat × Operand)).map fun (i,x)=>(i,a.eval x)).toList=some cells:=by simpa using hb
 refine wpList_build hg t #[] ho (by rw [hb'];rfl) ?_
 rw [hb'];exact h
structure SW (w wt:World) (K:Nat) (n g3 g4:Nat) (M:Sha.V) (L:List Nat):Prop where
 count:wt.cell? ⟨K,72,none⟩=some (.int .i64 (n:Int))
 r3:wt.heap[g3]?=some (.cells (vagg M) 195 (0,0))
 r4:wt.heap[g4]?=some (.cells (L.map vb).toArray 197 (0,0))
 out:wt.heap[w.heap.size]?=some (.cells (jY 32 []) 22 (0,0))
 below:Below w.heap.size w wt
 lt3:w.heap.size<g3
 lt4:w.heap.size<g4
 ne:g3≠g4
 ltK:K<w.heap.size
variable {w wt:World} {K n g3 g4:Nat} {M:Sha.V} {L:List Nat}
theorem SW.up (h:SW w wt K n g3 g4 M L) {w':World} (hb:Below wt.heap.size wt w'):SW w w' K n g3 g4 M L:=
 ⟨by rw [hb.cell (block_lt_of_cell h.count)];exact h.count,(hb.block _ (ga h.r3).1).trans h.r3,(hb.block _ (ga h.r4).1).trans h.r4,(hb.block _ (ga h.out).1).trans h.out,Below.up h.below hb,h.lt3,h.lt4,h.ne,h.ltK⟩
theorem SW.set4 (h:SW w wt K n g3 g4 M L) (L':List Nat):SW w (wt.setRow g4 (L'.map vb).toArray) K n g3 g4 M L':=by
 have:=h.lt4;have:=h.ltK
 exact ⟨by rw [cell_setRow_other _ _ _ _ (by show K≠g4;omega)];exact h.count,by rw [setRow_other _ _ _ _ h.ne];exact h.r3,setRow_heap _ _ _ _ _ _ h.r4,by rw [setRow_other _ _ _ _ (by omega)];exact h.out,below_setRow h.below (by omega) _,h.lt3,h.lt4,h.ne,h.ltK⟩
theorem SW.set3 (h:SW w wt K n g3 g4 M L) (M':Sha.V):SW w (wt.setRow g3 (vagg M')) K n g3 g4 M' L:=by
 have:=h.lt3;have:=h.ltK
 exact ⟨by rw [cell_setRow_other _ _ _ _ (by show K≠g3;omega)];exact h.count,setRow_heap _ _ _ _ _ _ h.r3,by rw [setRow_other _ _ _ _ (Ne.symm h.ne)];exact h.r4,by rw [setRow_other _ _ _ _ (by omega)];exact h.out,below_setRow h.below (by omega) _,h.lt3,h.lt4,h.ne,h.ltK⟩
theorem oE (v:Sha.V):zW [v.a,v.b,v.c,v.d,v.e,v.f,v.g,v.h]=Sha.out v:=by simp [zW,Sha.out]
theorem rJ (v:Sha.V):vagg v=#[vw v.a,vw v.b,vw v.c,vw v.d,vw v.e,vw v.f,vw v.g,vw v.h]:=rfl
theorem dr (v:Sha.V) (w:World) (h:vok v):Calls Tryz.prog 101 #[.agg (vagg v)] w fun x w'=>x=.returned (.agg ((Sha.out v).map vb).toArray)∧Below w.heap.size w w':=by
 obtain ⟨h1,h2,h3,h4,h5,h6,h7,h8⟩:=h
 rw [rJ,← oE]
 exact et _ _ _ _ _ _ _ _ w h1 h2 h3 h4 h5 h6 h7 h8
theorem fN (v:Sha.V):(Sha.out v).length=32:=rfl
theorem zR (l:List Nat):(Sha.sha l).length=32:=by unfold Sha.sha Sha.shaF;exact fN _
end Go.Proofs.YtdeanahpiigonaaGreatDoor.Su
