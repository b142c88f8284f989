import Derived.Test.YtjikkhbcbfpocaaGreatDoorSSum
set_option maxRecDepth 100000
set_option maxHeartbeats 6000000
namespace Go.Proofs.YtjikkhbcbfpocaaGreatDoor.Su
open Go.RowKit
theorem cy (L:List Nat) (i x:Nat):((L.map vb).toArray).setIfInBounds i (vb x)=((L.set i x).map vb).toArray:=by
 apply Array.ext';simp [List.map_set]
theorem mf (A:List Nat) (b x:Nat) (B:List Nat) (n:Nat) (h:n=A.length):(A++b::B).set n x=A++x::B:=by subst h;simp
theorem gr (L:List Nat) (o x:Nat) (h:o+4≤L.length):put4 (L.map vb).toArray o x=((Sha.splice L o (Sha.four x)).map vb).toArray:=by
 unfold put4
 rw [cy,cy,cy,cy]
 congr 2
 obtain ⟨A,D,rfl,hA⟩:∃ A D,L=A++D∧A.length=o:=⟨L.take o,L.drop o,by simp,by simp;omega⟩
 obtain ⟨b0,b1,b2,b3,B,rfl⟩:∃ b0 b1 b2 b3 B,D=b0::b1::b2::b3::B:=by
  match D,h with
  | b0::b1::b2::b3::B,_=>exact ⟨b0,b1,b2,b3,B,rfl⟩
  | [],h=>simp at h;omega
  | [_],h=>simp at h;omega
  | [_,_],h=>simp at h;omega
  | [_,_,_],h=>simp at h;omega
 rw [mf A b0 _ _ o hA.symm,List.append_cons,mf _ b1 _ _ _ (by simp [hA]),List.append_cons,mf _ b2 _ _ _ (by simp [hA]),List.append_cons,mf _ b3 _ _ _ (by simp [hA])]
 unfold Sha.splice Sha.four
 subst hA
 simp
theorem gt (L:List Nat) (x y:Nat) (h:L.length=64):put4 (put4 (L.map vb).toArray 56 x) 60 y=((L.take 56++(Sha.four x++Sha.four y)).map vb).toArray:=by
 have h1:(Sha.splice L 56 (Sha.four x)).length=64:=by rw [Sha.yA (by rw [h];exact Nat.le_of_ble_eq_true rfl)];exact h
 rw [gr L 56 x (by omega),gr _ 60 y (by omega)]
 congr 2
 have e:Sha.splice L 56 (Sha.four x)=L.take 56++(Sha.four x++L.drop 60):=rfl
 have l1:(L.take 56).length=56:=by simp;omega
 have l2:(L.take 56++Sha.four x).length=60:=by simp [l1,Sha.four]
 unfold Sha.splice at h1 ⊢
 rw [show (L.take 56++(Sha.four x++L.drop (56+(Sha.four x).length)))=(L.take 56++Sha.four x)++L.drop 60 by rw [List.append_assoc];rfl]
 rw [List.take_append_of_le_length (by omega),List.take_of_length_le (by omega),List.drop_append,List.drop_of_length_le (by rw [l2];simp [Sha.four]),l2]
 simp [Sha.four,List.drop_of_length_le (show L.length≤64 by omega)]
theorem lI (g o:Nat) (wz:World):(Instr.sliceAt 240 (.pointer (some ⟨g,o,none⟩)) (some (.int .i64 64)) none none).run Tryz.prog wz=.ok (.slice (some ⟨g,o,none⟩) 0 0) wz:=by
 rw [run_sliceAt_array_l wz 240 ⟨g,o,none⟩ Tryz.underlying240 .i64 64 (by omega) (by rw [show Tryz.prog.arrayLen 240=64 by kernel_rfl];omega)]
 have h1:(Tryz.prog.info? (Tryz.prog.elem 240)).map (·.size)=some 1:=by kernel_rfl
 cases hq:Tryz.prog.info? (Tryz.prog.elem 240) with
 | none=>simp [hq] at h1
 | some i=>
  have hs:i.size=1:=by simpa [hq] using h1
  rw [show Tryz.prog.arrayLen 240=64 by kernel_rfl]
  simp [sizeOf,typeInfo,hq,slicedAt,Result.andThen]
theorem bE {ops:Array Oper} {rest:List Oper} {o:Oper} {a:Act} {w:World} {Q:Exit→Act→World→Prop} (hgd:o.guard=none) (x:Operand)
  (ho:o.op=.call { callee:=.builtin .clear,args:=#[x],argTypes:=#[35] })
  (g off m cap:Nat) (hx:a.eval x=.slice (some ⟨g,off,none⟩) m cap) (cur fin:Array Value) (t:TypeId) (hg:w.heap[g]?=some (.cells cur t (0,0)))
  (hfit:0<m→off+m≤cur.size) (h0:m=0→cur=fin) (h1:0<m→(cur.toList.take off++List.replicate m (vb 0)++cur.toList.drop (off+m)).toArray=fin)
  (h:wpList Tryz.prog ops Q rest (a.put o.dst (.tuple #[])) (w.setRow g fin)):wpList Tryz.prog ops Q (o::rest) a w:=by
 refine wpList_plain hgd fun K hK=>?_
 have hrun:(Builtin.clear_ #[35] o.type #[.slice (some ⟨g,off,none⟩) m cap]).run Tryz.prog w=.ok (.tuple #[]) (w.setRow g fin):=by
  by_cases hm:m=0
  ·subst hm
   rw [← h0 rfl,setRow_self w g cur t (0,0) hg]
   simp [Builtin.clear_,run_underlying Tryz.underlying35]
  ·have hzc:(Builtin.zeroCells (Value.cells (.int .u8 0)) m).toList=List.replicate m (vb 0):=by
    simp [Builtin.zeroCells,Value.cells]
    apply List.ext_getElem
    ·simp
    ·intro i h1 h2
     simp [Nat.mod_one,vb]
   have hst:=run_storeCells_at Tryz.prog g off t (List.replicate m (vb 0)) 0 cur w hg (by simpa using hfit (by omega)) (fun v hv=>by rw [List.eq_of_mem_replicate hv];rfl)
   simp only [Nat.add_zero,List.length_replicate] at hst
   rw [h1 (by omega)] at hst
   have hz0:∀ w,(zeroValue 5).run Tryz.prog w=.ok (.int .u8 0) w:=fun w=>by
    obtain ⟨i0,hi,hz0,_,_⟩:=info_parts Tryz.info5
    simp [zeroValue,typeInfo,hi,hz0]
   obtain ⟨k,rfl⟩:∃ k,m=k+1:=⟨m-1,by omega⟩
   simp [Builtin.clear_,run_underlying Tryz.underlying35,hz0,hzc,hst]
 unfold Oper.wp
 simp [execOp,ho,resolve,invoke,builtin,hx,hrun,Result.andThen]
 exact hK _ _ h
theorem built96:Tryz.prog.built 240 []=some (jg 64 []):=by kernel_rfl
theorem fK {ops:Array Oper} {rest:List Oper} {o:Oper} {a:Act} {w:World} {Q:Exit→Act→World→Prop} (hg:o.guard=none) (t:TypeId) (ho:o.op=.build t #[])
  (cells:Array Value) (hb:Tryz.prog.built t []=some cells) (h:wpList Tryz.prog ops Q rest (a.put o.dst (.agg cells)) w):wpList Tryz.prog ops Q (o::rest) a w:=by
 have hb':Tryz.prog.built t ((#[]:Array (Nat × Operand)).map fun (i,x)=>(i,a.eval x)).toList=some cells:=by simpa using hb
 refine wpList_build hg t #[] ho (by rw [hb'];rfl) ?_
 rw [hb'];exact h
structure SW (w wt:World) (K:Nat) (n g3 g4:Nat) (M:Sha.V) (L:List Nat):Prop where
 count:wt.cell? ⟨K,72,none⟩=some (.int .i64 (n:Int))
 r3:wt.heap[g3]?=some (.cells (vagg M) 238 (0,0))
 r4:wt.heap[g4]?=some (.cells (L.map vb).toArray 240 (0,0))
 out:wt.heap[w.heap.size]?=some (.cells (jg 32 []) 22 (0,0))
 below:Below w.heap.size w wt
 lt3:w.heap.size<g3
 lt4:w.heap.size<g4
 ne:g3≠g4
 ltK:K<w.heap.size
variable {w wt:World} {K n g3 g4:Nat} {M:Sha.V} {L:List Nat}
theorem SW.up (h:SW w wt K n g3 g4 M L) {w':World} (hb:Below wt.heap.size wt w'):SW w w' K n g3 g4 M L:=
 ⟨by rw [hb.cell (block_lt_of_cell h.count)];exact h.count,(hb.block _ (gS h.r3)).trans h.r3,(hb.block _ (gS h.r4)).trans h.r4,(hb.block _ (gS h.out)).trans h.out,Below.up h.below hb,h.lt3,h.lt4,h.ne,h.ltK⟩
theorem SW.set4 (h:SW w wt K n g3 g4 M L) (L':List Nat):SW w (wt.setRow g4 (L'.map vb).toArray) K n g3 g4 M L':=by
 have:=h.lt4;have:=h.ltK
 exact ⟨by rw [cell_setRow_other _ _ _ _ (by show K≠g4;omega)];exact h.count,by rw [setRow_other _ _ _ _ h.ne];exact h.r3,setRow_heap _ _ _ _ _ _ h.r4,by rw [setRow_other _ _ _ _ (by omega)];exact h.out,below_setRow h.below (by omega) _,h.lt3,h.lt4,h.ne,h.ltK⟩
theorem SW.set3 (h:SW w wt K n g3 g4 M L) (M':Sha.V):SW w (wt.setRow g3 (vagg M')) K n g3 g4 M' L:=by
 have:=h.lt3;have:=h.ltK
 exact ⟨by rw [cell_setRow_other _ _ _ _ (by show K≠g3;omega)];exact h.count,setRow_heap _ _ _ _ _ _ h.r3,by rw [setRow_other _ _ _ _ (Ne.symm h.ne)];exact h.r4,by rw [setRow_other _ _ _ _ (by omega)];exact h.out,below_setRow h.below (by omega) _,h.lt3,h.lt4,h.ne,h.ltK⟩
theorem ro (v:Sha.V):zh [v.a,v.b,v.c,v.d,v.e,v.f,v.g,v.h]=Sha.out v:=by simp [zh,Sha.out]
theorem uB (v:Sha.V):vagg v=#[vw v.a,vw v.b,vw v.c,vw v.d,vw v.e,vw v.f,vw v.g,vw v.h]:=rfl
theorem gu (v:Sha.V) (w:World) (h:vok v):Calls Tryz.prog 160 #[.agg (vagg v)] w fun x w'=>x=.returned (.agg ((Sha.out v).map vb).toArray)∧Below w.heap.size w w':=by
 obtain ⟨h1,h2,h3,h4,h5,h6,h7,h8⟩:=h
 rw [uB,← ro]
 exact lG _ _ _ _ _ _ _ _ w h1 h2 h3 h4 h5 h6 h7 h8
theorem lJ (v:Sha.V):(Sha.out v).length=32:=rfl
theorem qg (l:List Nat):(Sha.sha l).length=32:=by unfold Sha.sha Sha.shaF;exact lJ _
end Go.Proofs.YtjikkhbcbfpocaaGreatDoor.Su
namespace Go.Proofs.YtjikkhbcbfpocaaGreatDoor.Su
open Go.RowKit
theorem rp (K:Nat) (T:TypeId) (l:List Nat) (w:World) (hH:qU w K T l) (hT:Tabs w) (hl:l.length<1152921504606846976):
  Calls Tryz.prog 124 #[.pointer (some ⟨K,0,none⟩)] w fun e w'=>e=.returned (.agg ((Sha.sha l).map vb).toArray)∧Below w.heap.size w w':=by
 have HT:Hid (Tabs w):=hT
 obtain ⟨V,rst,hg,hInv,hVok,hRb⟩:=hH
 obtain ⟨n,hn⟩:∃ n,n=l.length:=⟨_,rfl⟩
 rw [← hn] at hg hl
 have HL:Hid (rst.length=64):=hInv.len
 have hKs:K<w.heap.size:=(gS hg)
 have HI:Hid (Sha.Inv Sha.mix l rst V∧vok V∧Bytes rst∧n=l.length):=⟨hInv,hVok,hRb,hn⟩
 have HG:Hid (w.heap[K]?=some (.cells (jd V rst n) T (0,0))):=hg
 clear hT hn hInv hVok hRb hg
 go_enter Tryz.func124,Tryz.ntmps124
 go_wp2_with fail
 obtain ⟨z,hz⟩:∃ z:Array Value,z=jg 32 []:=⟨_,rfl⟩
 rw [show (Obj.cells #[Value.int .u8 0,.int .u8 0,.int .u8 0,.int .u8 0,.int .u8 0,.int .u8 0,.int .u8 0,.int .u8 0,.int .u8 0,.int .u8 0,.int .u8 0,.int .u8 0,.int .u8 0,.int .u8 0,.int .u8 0,.int .u8 0,.int .u8 0,.int .u8 0,.int .u8 0,.int .u8 0,.int .u8 0,.int .u8 0,.int .u8 0,.int .u8 0,.int .u8 0,.int .u8 0,.int .u8 0,.int .u8 0,.int .u8 0,.int .u8 0,.int .u8 0,.int .u8 0] 22)=Obj.cells z 22 by rw [hz];rfl]
 generalize hw0:w.alloc (Obj.cells z 22)=w0
 have HS:Hid (St w0 w0 K T V rst n none none false false∧w0.heap.size=w.heap.size+1∧Below w.heap.size w w0∧w0.heap[w.heap.size]?=some (.cells (jg 32 []) 22 (0,0))):=by
  rw [← hw0,← hz]
  refine ⟨⟨?_,Below.refl _ _,fun g e=>by (cases e),fun g e=>by (cases e),fun g g' e=>by (cases e)⟩,by simp,(Below.refl _ w).alloc (Nat.le_refl _) _,heap_alloc_new _ _⟩
  rw [heap_alloc_old _ _ hKs];exact HG.out
 have HKS:Hid (K<w0.heap.size):=by rw [← hw0];show K<_;simp;omega
 clear hw0 hz
 go_cut [3,4] from 7 (fun s3 s4 wf=>∃ g3 g4,s3=.pointer (some ⟨g3,0,none⟩)∧s4=.pointer (some ⟨g4,0,none⟩)∧Hid (St w0 wf K T V rst n (some g3) (some g4) true true))
 case first=>
  refine wp_region_any (by kernel_rfl) ?_
  change wpAny _ _ _ _ _ _ _ (World.drew _)
  have hS:St w0 (w0.drew) K T V rst n none none false false:=⟨HS.out.1.hash,⟨rfl,rfl,rfl,Nat.le_refl _,fun _ _=>rfl⟩,fun g e=>by (cases e),fun g e=>by (cases e),fun g g' e=>by (cases e)⟩
  refine tA 0 (.pointer (some ⟨K,0,none⟩)) ?_ ?_
  ·intro wz;go_simp
  refine tA 1 (.pointer (some ⟨K,0,none⟩)) ?_ ?_
  ·intro wz;go_simp
  refine tA 2 (.pointer (some ⟨K,0,none⟩)) ?_ ?_
  ·intro wz;go_simp
  refine tA 4 (.pointer (some ⟨K,0,none⟩)) ?_ ?_
  ·intro wz;go_simp
  refine tA 5 (.pointer (some ⟨K,0,none⟩)) ?_ ?_
  ·intro wz;go_simp
  refine tA 6 (.pointer (some ⟨K,8,none⟩)) ?_ ?_
  ·intro wz;go_simp
  simp only [Act.put,sD,sE,sF,sA,sB,sC]
  refine rA [3,7,8,9] ?_
  refine (qE hS rfl rfl (.tmp 9) rfl rfl ?_ (jf hS HL.out rfl rfl (.tmp 13) rfl rfl ?_ (jq hS rfl rfl rfl (fun _ h1=>?_) (jr hS rfl rfl rfl (fun _ h2=>?_) AllReady.nil))))
  ·simp only [Act.put,sD,sE,sF,sA,sB,sC]
   refine rA [7,8,9] ?_
   refine (jf hS HL.out rfl rfl (.tmp 13) rfl rfl ?_ (jq hS rfl rfl rfl (fun _ h3=>?_) (jr hS rfl rfl rfl (fun _ h4=>?_) AllReady.nil)))
   ·simp only [Act.put,sD,sE,sF,sA,sB,sC]
    refine rA [8,9] ?_
    refine (jq hS rfl rfl rfl (fun _ h5=>?_) (jr hS rfl rfl rfl (fun _ h6=>?_) AllReady.nil))
    ·simp only [Act.put,sD,sE,sF,sA,sB,sC]
     refine rA [9] ?_
     refine (jr h5 rfl rfl rfl (fun _ h7=>?_) AllReady.nil)
     simp only [Act.put,sD,sE,sF,sA,sB,sC]
     refine rA [10] ?_
     refine (jP h7 HKS.out rfl rfl (.tmp 3) (.tmp 10) rfl rfl rfl (fun _ h8=>?_) AllReady.nil)
     simp only [Act.put,sD,sE,sF]
     refine rA [11] ?_
     refine (jQ h8 HKS.out HL.out rfl rfl (.tmp 4) (.tmp 14) rfl rfl rfl (fun _ h9=>?_) AllReady.nil)
     refine dA ?_
     go_wp2_with fail
     go_meet
     case rel=>exact ⟨_,_,rfl,rfl,h9⟩
    ·simp only [Act.put,sD,sE,sF,sA,sB,sC]
     refine rA [8] ?_
     refine (jq h6 rfl rfl rfl (fun _ h10=>?_) AllReady.nil)
     simp only [Act.put,sD,sE,sF,sA,sB,sC]
     refine rA [10] ?_
     refine (jP h10 HKS.out rfl rfl (.tmp 3) (.tmp 10) rfl rfl rfl (fun _ h11=>?_) AllReady.nil)
     simp only [Act.put,sD,sE,sF]
     refine rA [11] ?_
     refine (jQ h11 HKS.out HL.out rfl rfl (.tmp 4) (.tmp 14) rfl rfl rfl (fun _ h12=>?_) AllReady.nil)
     refine dA ?_
     go_wp2_with fail
     go_meet
     case rel=>exact ⟨_,_,rfl,rfl,h12⟩
   ·simp only [Act.put,sD,sE,sF,sA,sB,sC]
    refine rA [7,9] ?_
    refine (jf h3 HL.out rfl rfl (.tmp 13) rfl rfl ?_ (jr h3 rfl rfl rfl (fun _ h13=>?_) AllReady.nil))
    ·simp only [Act.put,sD,sE,sF,sA,sB,sC]
     refine rA [9] ?_
     refine (jr h3 rfl rfl rfl (fun _ h14=>?_) AllReady.nil)
     simp only [Act.put,sD,sE,sF,sA,sB,sC]
     refine rA [10] ?_
     refine (jP h14 HKS.out rfl rfl (.tmp 3) (.tmp 10) rfl rfl rfl (fun _ h15=>?_) AllReady.nil)
     simp only [Act.put,sD,sE,sF]
     refine rA [11] ?_
     refine (jQ h15 HKS.out HL.out rfl rfl (.tmp 4) (.tmp 14) rfl rfl rfl (fun _ h16=>?_) AllReady.nil)
     refine dA ?_
     go_wp2_with fail
     go_meet
     case rel=>exact ⟨_,_,rfl,rfl,h16⟩
    ·simp only [Act.put,sD,sE,sF,sA,sB,sC]
     refine rA [7,10] ?_
     refine (jf h13 HL.out rfl rfl (.tmp 13) rfl rfl ?_ (jP h13 HKS.out rfl rfl (.tmp 3) (.tmp 10) rfl rfl rfl (fun _ h17=>?_) AllReady.nil))
     ·simp only [Act.put,sD,sE,sF,sA,sB,sC]
      refine rA [10] ?_
      refine (jP h13 HKS.out rfl rfl (.tmp 3) (.tmp 10) rfl rfl rfl (fun _ h18=>?_) AllReady.nil)
      simp only [Act.put,sD,sE,sF]
      refine rA [11] ?_
      refine (jQ h18 HKS.out HL.out rfl rfl (.tmp 4) (.tmp 14) rfl rfl rfl (fun _ h19=>?_) AllReady.nil)
      refine dA ?_
      go_wp2_with fail
      go_meet
      case rel=>exact ⟨_,_,rfl,rfl,h19⟩
     ·simp only [Act.put,sD,sE,sF]
      refine rA [7] ?_
      refine (jf h17 HL.out rfl rfl (.tmp 13) rfl rfl ?_ AllReady.nil)
      simp only [Act.put,sD,sE,sF,sA,sB,sC]
      refine rA [11] ?_
      refine (jQ h17 HKS.out HL.out rfl rfl (.tmp 4) (.tmp 14) rfl rfl rfl (fun _ h20=>?_) AllReady.nil)
      refine dA ?_
      go_wp2_with fail
      go_meet
      case rel=>exact ⟨_,_,rfl,rfl,h20⟩
   ·simp only [Act.put,sD,sE,sF,sA,sB,sC]
    refine rA [7,8] ?_
    refine (jf h4 HL.out rfl rfl (.tmp 13) rfl rfl ?_ (jq h4 rfl rfl rfl (fun _ h21=>?_) AllReady.nil))
    ·simp only [Act.put,sD,sE,sF,sA,sB,sC]
     refine rA [8] ?_
     refine (jq h4 rfl rfl rfl (fun _ h22=>?_) AllReady.nil)
     simp only [Act.put,sD,sE,sF,sA,sB,sC]
     refine rA [10] ?_
     refine (jP h22 HKS.out rfl rfl (.tmp 3) (.tmp 10) rfl rfl rfl (fun _ h23=>?_) AllReady.nil)
     simp only [Act.put,sD,sE,sF]
     refine rA [11] ?_
     refine (jQ h23 HKS.out HL.out rfl rfl (.tmp 4) (.tmp 14) rfl rfl rfl (fun _ h24=>?_) AllReady.nil)
     refine dA ?_
     go_wp2_with fail
     go_meet
     case rel=>exact ⟨_,_,rfl,rfl,h24⟩
    ·simp only [Act.put,sD,sE,sF,sA,sB,sC]
     refine rA [7,10] ?_
     refine (jf h21 HL.out rfl rfl (.tmp 13) rfl rfl ?_ (jP h21 HKS.out rfl rfl (.tmp 3) (.tmp 10) rfl rfl rfl (fun _ h25=>?_) AllReady.nil))
     ·simp only [Act.put,sD,sE,sF,sA,sB,sC]
      refine rA [10] ?_
      refine (jP h21 HKS.out rfl rfl (.tmp 3) (.tmp 10) rfl rfl rfl (fun _ h26=>?_) AllReady.nil)
      simp only [Act.put,sD,sE,sF]
      refine rA [11] ?_
      refine (jQ h26 HKS.out HL.out rfl rfl (.tmp 4) (.tmp 14) rfl rfl rfl (fun _ h27=>?_) AllReady.nil)
      refine dA ?_
      go_wp2_with fail
      go_meet
      case rel=>exact ⟨_,_,rfl,rfl,h27⟩
     ·simp only [Act.put,sD,sE,sF]
      refine rA [7] ?_
      refine (jf h25 HL.out rfl rfl (.tmp 13) rfl rfl ?_ AllReady.nil)
      simp only [Act.put,sD,sE,sF,sA,sB,sC]
      refine rA [11] ?_
      refine (jQ h25 HKS.out HL.out rfl rfl (.tmp 4) (.tmp 14) rfl rfl rfl (fun _ h28=>?_) AllReady.nil)
      refine dA ?_
      go_wp2_with fail
      go_meet
      case rel=>exact ⟨_,_,rfl,rfl,h28⟩
  ·simp only [Act.put,sD,sE,sF,sA,sB,sC]
   refine rA [3,8,9] ?_
   refine (qE hS rfl rfl (.tmp 9) rfl rfl ?_ (jq hS rfl rfl rfl (fun _ h29=>?_) (jr hS rfl rfl rfl (fun _ h30=>?_) AllReady.nil)))
   ·simp only [Act.put,sD,sE,sF,sA,sB,sC]
    refine rA [8,9] ?_
    refine (jq hS rfl rfl rfl (fun _ h31=>?_) (jr hS rfl rfl rfl (fun _ h32=>?_) AllReady.nil))
    ·simp only [Act.put,sD,sE,sF,sA,sB,sC]
     refine rA [9] ?_
     refine (jr h31 rfl rfl rfl (fun _ h33=>?_) AllReady.nil)
     simp only [Act.put,sD,sE,sF,sA,sB,sC]
     refine rA [10] ?_
     refine (jP h33 HKS.out rfl rfl (.tmp 3) (.tmp 10) rfl rfl rfl (fun _ h34=>?_) AllReady.nil)
     simp only [Act.put,sD,sE,sF]
     refine rA [11] ?_
     refine (jQ h34 HKS.out HL.out rfl rfl (.tmp 4) (.tmp 14) rfl rfl rfl (fun _ h35=>?_) AllReady.nil)
     refine dA ?_
     go_wp2_with fail
     go_meet
     case rel=>exact ⟨_,_,rfl,rfl,h35⟩
    ·simp only [Act.put,sD,sE,sF,sA,sB,sC]
     refine rA [8] ?_
     refine (jq h32 rfl rfl rfl (fun _ h36=>?_) AllReady.nil)
     simp only [Act.put,sD,sE,sF,sA,sB,sC]
     refine rA [10] ?_
     refine (jP h36 HKS.out rfl rfl (.tmp 3) (.tmp 10) rfl rfl rfl (fun _ h37=>?_) AllReady.nil)
     simp only [Act.put,sD,sE,sF]
     refine rA [11] ?_
     refine (jQ h37 HKS.out HL.out rfl rfl (.tmp 4) (.tmp 14) rfl rfl rfl (fun _ h38=>?_) AllReady.nil)
     refine dA ?_
     go_wp2_with fail
     go_meet
     case rel=>exact ⟨_,_,rfl,rfl,h38⟩
   ·simp only [Act.put,sD,sE,sF,sA,sB,sC]
    refine rA [3,9] ?_
    refine (qE h29 rfl rfl (.tmp 9) rfl rfl ?_ (jr h29 rfl rfl rfl (fun _ h39=>?_) AllReady.nil))
    ·simp only [Act.put,sD,sE,sF,sA,sB,sC]
     refine rA [9] ?_
     refine (jr h29 rfl rfl rfl (fun _ h40=>?_) AllReady.nil)
     simp only [Act.put,sD,sE,sF,sA,sB,sC]
     refine rA [10] ?_
     refine (jP h40 HKS.out rfl rfl (.tmp 3) (.tmp 10) rfl rfl rfl (fun _ h41=>?_) AllReady.nil)
     simp only [Act.put,sD,sE,sF]
     refine rA [11] ?_
     refine (jQ h41 HKS.out HL.out rfl rfl (.tmp 4) (.tmp 14) rfl rfl rfl (fun _ h42=>?_) AllReady.nil)
     refine dA ?_
     go_wp2_with fail
     go_meet
     case rel=>exact ⟨_,_,rfl,rfl,h42⟩
    ·simp only [Act.put,sD,sE,sF,sA,sB,sC]
     refine rA [3] ?_
     refine (qE h39 rfl rfl (.tmp 9) rfl rfl ?_ AllReady.nil)
     simp only [Act.put,sD,sE,sF,sA,sB,sC]
     refine rA [10] ?_
     refine (jP h39 HKS.out rfl rfl (.tmp 3) (.tmp 10) rfl rfl rfl (fun _ h43=>?_) AllReady.nil)
     simp only [Act.put,sD,sE,sF]
     refine rA [11] ?_
     refine (jQ h43 HKS.out HL.out rfl rfl (.tmp 4) (.tmp 14) rfl rfl rfl (fun _ h44=>?_) AllReady.nil)
     refine dA ?_
     go_wp2_with fail
     go_meet
     case rel=>exact ⟨_,_,rfl,rfl,h44⟩
   ·simp only [Act.put,sD,sE,sF,sA,sB,sC]
    refine rA [3,8] ?_
    refine (qE h30 rfl rfl (.tmp 9) rfl rfl ?_ (jq h30 rfl rfl rfl (fun _ h45=>?_) AllReady.nil))
    ·simp only [Act.put,sD,sE,sF,sA,sB,sC]
     refine rA [8] ?_
     refine (jq h30 rfl rfl rfl (fun _ h46=>?_) AllReady.nil)
     simp only [Act.put,sD,sE,sF,sA,sB,sC]
     refine rA [10] ?_
     refine (jP h46 HKS.out rfl rfl (.tmp 3) (.tmp 10) rfl rfl rfl (fun _ h47=>?_) AllReady.nil)
     simp only [Act.put,sD,sE,sF]
     refine rA [11] ?_
     refine (jQ h47 HKS.out HL.out rfl rfl (.tmp 4) (.tmp 14) rfl rfl rfl (fun _ h48=>?_) AllReady.nil)
     refine dA ?_
     go_wp2_with fail
     go_meet
     case rel=>exact ⟨_,_,rfl,rfl,h48⟩
    ·simp only [Act.put,sD,sE,sF,sA,sB,sC]
     refine rA [3] ?_
     refine (qE h45 rfl rfl (.tmp 9) rfl rfl ?_ AllReady.nil)
     simp only [Act.put,sD,sE,sF,sA,sB,sC]
     refine rA [10] ?_
     refine (jP h45 HKS.out rfl rfl (.tmp 3) (.tmp 10) rfl rfl rfl (fun _ h49=>?_) AllReady.nil)
     simp only [Act.put,sD,sE,sF]
     refine rA [11] ?_
     refine (jQ h49 HKS.out HL.out rfl rfl (.tmp 4) (.tmp 14) rfl rfl rfl (fun _ h50=>?_) AllReady.nil)
     refine dA ?_
     go_wp2_with fail
     go_meet
     case rel=>exact ⟨_,_,rfl,rfl,h50⟩
  ·simp only [Act.put,sD,sE,sF,sA,sB,sC]
   refine rA [3,7,9] ?_
   refine (qE h1 rfl rfl (.tmp 9) rfl rfl ?_ (jf h1 HL.out rfl rfl (.tmp 13) rfl rfl ?_ (jr h1 rfl rfl rfl (fun _ h51=>?_) AllReady.nil)))
   ·simp only [Act.put,sD,sE,sF,sA,sB,sC]
    refine rA [7,9] ?_
    refine (jf h1 HL.out rfl rfl (.tmp 13) rfl rfl ?_ (jr h1 rfl rfl rfl (fun _ h52=>?_) AllReady.nil))
    ·simp only [Act.put,sD,sE,sF,sA,sB,sC]
     refine rA [9] ?_
     refine (jr h1 rfl rfl rfl (fun _ h53=>?_) AllReady.nil)
     simp only [Act.put,sD,sE,sF,sA,sB,sC]
     refine rA [10] ?_
     refine (jP h53 HKS.out rfl rfl (.tmp 3) (.tmp 10) rfl rfl rfl (fun _ h54=>?_) AllReady.nil)
     simp only [Act.put,sD,sE,sF]
     refine rA [11] ?_
     refine (jQ h54 HKS.out HL.out rfl rfl (.tmp 4) (.tmp 14) rfl rfl rfl (fun _ h55=>?_) AllReady.nil)
     refine dA ?_
     go_wp2_with fail
     go_meet
     case rel=>exact ⟨_,_,rfl,rfl,h55⟩
    ·simp only [Act.put,sD,sE,sF,sA,sB,sC]
     refine rA [7,10] ?_
     refine (jf h52 HL.out rfl rfl (.tmp 13) rfl rfl ?_ (jP h52 HKS.out rfl rfl (.tmp 3) (.tmp 10) rfl rfl rfl (fun _ h56=>?_) AllReady.nil))
     ·simp only [Act.put,sD,sE,sF,sA,sB,sC]
      refine rA [10] ?_
      refine (jP h52 HKS.out rfl rfl (.tmp 3) (.tmp 10) rfl rfl rfl (fun _ h57=>?_) AllReady.nil)
      simp only [Act.put,sD,sE,sF]
      refine rA [11] ?_
      refine (jQ h57 HKS.out HL.out rfl rfl (.tmp 4) (.tmp 14) rfl rfl rfl (fun _ h58=>?_) AllReady.nil)
      refine dA ?_
      go_wp2_with fail
      go_meet
      case rel=>exact ⟨_,_,rfl,rfl,h58⟩
     ·simp only [Act.put,sD,sE,sF]
      refine rA [7] ?_
      refine (jf h56 HL.out rfl rfl (.tmp 13) rfl rfl ?_ AllReady.nil)
      simp only [Act.put,sD,sE,sF,sA,sB,sC]
      refine rA [11] ?_
      refine (jQ h56 HKS.out HL.out rfl rfl (.tmp 4) (.tmp 14) rfl rfl rfl (fun _ h59=>?_) AllReady.nil)
      refine dA ?_
      go_wp2_with fail
      go_meet
      case rel=>exact ⟨_,_,rfl,rfl,h59⟩
   ·simp only [Act.put,sD,sE,sF,sA,sB,sC]
    refine rA [3,9] ?_
    refine (qE h1 rfl rfl (.tmp 9) rfl rfl ?_ (jr h1 rfl rfl rfl (fun _ h60=>?_) AllReady.nil))
    ·simp only [Act.put,sD,sE,sF,sA,sB,sC]
     refine rA [9] ?_
     refine (jr h1 rfl rfl rfl (fun _ h61=>?_) AllReady.nil)
     simp only [Act.put,sD,sE,sF,sA,sB,sC]
     refine rA [10] ?_
     refine (jP h61 HKS.out rfl rfl (.tmp 3) (.tmp 10) rfl rfl rfl (fun _ h62=>?_) AllReady.nil)
     simp only [Act.put,sD,sE,sF]
     refine rA [11] ?_
     refine (jQ h62 HKS.out HL.out rfl rfl (.tmp 4) (.tmp 14) rfl rfl rfl (fun _ h63=>?_) AllReady.nil)
     refine dA ?_
     go_wp2_with fail
     go_meet
     case rel=>exact ⟨_,_,rfl,rfl,h63⟩
    ·simp only [Act.put,sD,sE,sF,sA,sB,sC]
     refine rA [3] ?_
     refine (qE h60 rfl rfl (.tmp 9) rfl rfl ?_ AllReady.nil)
     simp only [Act.put,sD,sE,sF,sA,sB,sC]
     refine rA [10] ?_
     refine (jP h60 HKS.out rfl rfl (.tmp 3) (.tmp 10) rfl rfl rfl (fun _ h64=>?_) AllReady.nil)
     simp only [Act.put,sD,sE,sF]
     refine rA [11] ?_
     refine (jQ h64 HKS.out HL.out rfl rfl (.tmp 4) (.tmp 14) rfl rfl rfl (fun _ h65=>?_) AllReady.nil)
     refine dA ?_
     go_wp2_with fail
     go_meet
     case rel=>exact ⟨_,_,rfl,rfl,h65⟩
   ·simp only [Act.put,sD,sE,sF,sA,sB,sC]
    refine rA [3,7] ?_
    refine (qE h51 rfl rfl (.tmp 9) rfl rfl ?_ (jf h51 HL.out rfl rfl (.tmp 13) rfl rfl ?_ AllReady.nil))
    ·simp only [Act.put,sD,sE,sF,sA,sB,sC]
     refine rA [7,10] ?_
     refine (jf h51 HL.out rfl rfl (.tmp 13) rfl rfl ?_ (jP h51 HKS.out rfl rfl (.tmp 3) (.tmp 10) rfl rfl rfl (fun _ h66=>?_) AllReady.nil))
     ·simp only [Act.put,sD,sE,sF,sA,sB,sC]
      refine rA [10] ?_
      refine (jP h51 HKS.out rfl rfl (.tmp 3) (.tmp 10) rfl rfl rfl (fun _ h67=>?_) AllReady.nil)
      simp only [Act.put,sD,sE,sF]
      refine rA [11] ?_
      refine (jQ h67 HKS.out HL.out rfl rfl (.tmp 4) (.tmp 14) rfl rfl rfl (fun _ h68=>?_) AllReady.nil)
      refine dA ?_
      go_wp2_with fail
      go_meet
      case rel=>exact ⟨_,_,rfl,rfl,h68⟩
     ·simp only [Act.put,sD,sE,sF]
      refine rA [7] ?_
      refine (jf h66 HL.out rfl rfl (.tmp 13) rfl rfl ?_ AllReady.nil)
      simp only [Act.put,sD,sE,sF,sA,sB,sC]
      refine rA [11] ?_
      refine (jQ h66 HKS.out HL.out rfl rfl (.tmp 4) (.tmp 14) rfl rfl rfl (fun _ h69=>?_) AllReady.nil)
      refine dA ?_
      go_wp2_with fail
      go_meet
      case rel=>exact ⟨_,_,rfl,rfl,h69⟩
    ·simp only [Act.put,sD,sE,sF,sA,sB,sC]
     refine rA [3] ?_
     refine (qE h51 rfl rfl (.tmp 9) rfl rfl ?_ AllReady.nil)
     simp only [Act.put,sD,sE,sF,sA,sB,sC]
     refine rA [10] ?_
     refine (jP h51 HKS.out rfl rfl (.tmp 3) (.tmp 10) rfl rfl rfl (fun _ h70=>?_) AllReady.nil)
     simp only [Act.put,sD,sE,sF]
     refine rA [11] ?_
     refine (jQ h70 HKS.out HL.out rfl rfl (.tmp 4) (.tmp 14) rfl rfl rfl (fun _ h71=>?_) AllReady.nil)
     refine dA ?_
     go_wp2_with fail
     go_meet
     case rel=>exact ⟨_,_,rfl,rfl,h71⟩
  ·simp only [Act.put,sD,sE,sF,sA,sB,sC]
   refine rA [3,7,8] ?_
   refine (qE h2 rfl rfl (.tmp 9) rfl rfl ?_ (jf h2 HL.out rfl rfl (.tmp 13) rfl rfl ?_ (jq h2 rfl rfl rfl (fun _ h72=>?_) AllReady.nil)))
   ·simp only [Act.put,sD,sE,sF,sA,sB,sC]
    refine rA [7,8] ?_
    refine (jf h2 HL.out rfl rfl (.tmp 13) rfl rfl ?_ (jq h2 rfl rfl rfl (fun _ h73=>?_) AllReady.nil))
    ·simp only [Act.put,sD,sE,sF,sA,sB,sC]
     refine rA [8] ?_
     refine (jq h2 rfl rfl rfl (fun _ h74=>?_) AllReady.nil)
     simp only [Act.put,sD,sE,sF,sA,sB,sC]
     refine rA [10] ?_
     refine (jP h74 HKS.out rfl rfl (.tmp 3) (.tmp 10) rfl rfl rfl (fun _ h75=>?_) AllReady.nil)
     simp only [Act.put,sD,sE,sF]
     refine rA [11] ?_
     refine (jQ h75 HKS.out HL.out rfl rfl (.tmp 4) (.tmp 14) rfl rfl rfl (fun _ h76=>?_) AllReady.nil)
     refine dA ?_
     go_wp2_with fail
     go_meet
     case rel=>exact ⟨_,_,rfl,rfl,h76⟩
    ·simp only [Act.put,sD,sE,sF,sA,sB,sC]
     refine rA [7,10] ?_
     refine (jf h73 HL.out rfl rfl (.tmp 13) rfl rfl ?_ (jP h73 HKS.out rfl rfl (.tmp 3) (.tmp 10) rfl rfl rfl (fun _ h77=>?_) AllReady.nil))
     ·simp only [Act.put,sD,sE,sF,sA,sB,sC]
      refine rA [10] ?_
      refine (jP h73 HKS.out rfl rfl (.tmp 3) (.tmp 10) rfl rfl rfl (fun _ h78=>?_) AllReady.nil)
      simp only [Act.put,sD,sE,sF]
      refine rA [11] ?_
      refine (jQ h78 HKS.out HL.out rfl rfl (.tmp 4) (.tmp 14) rfl rfl rfl (fun _ h79=>?_) AllReady.nil)
      refine dA ?_
      go_wp2_with fail
      go_meet
      case rel=>exact ⟨_,_,rfl,rfl,h79⟩
     ·simp only [Act.put,sD,sE,sF]
      refine rA [7] ?_
      refine (jf h77 HL.out rfl rfl (.tmp 13) rfl rfl ?_ AllReady.nil)
      simp only [Act.put,sD,sE,sF,sA,sB,sC]
      refine rA [11] ?_
      refine (jQ h77 HKS.out HL.out rfl rfl (.tmp 4) (.tmp 14) rfl rfl rfl (fun _ h80=>?_) AllReady.nil)
      refine dA ?_
      go_wp2_with fail
      go_meet
      case rel=>exact ⟨_,_,rfl,rfl,h80⟩
   ·simp only [Act.put,sD,sE,sF,sA,sB,sC]
    refine rA [3,8] ?_
    refine (qE h2 rfl rfl (.tmp 9) rfl rfl ?_ (jq h2 rfl rfl rfl (fun _ h81=>?_) AllReady.nil))
    ·simp only [Act.put,sD,sE,sF,sA,sB,sC]
     refine rA [8] ?_
     refine (jq h2 rfl rfl rfl (fun _ h82=>?_) AllReady.nil)
     simp only [Act.put,sD,sE,sF,sA,sB,sC]
     refine rA [10] ?_
     refine (jP h82 HKS.out rfl rfl (.tmp 3) (.tmp 10) rfl rfl rfl (fun _ h83=>?_) AllReady.nil)
     simp only [Act.put,sD,sE,sF]
     refine rA [11] ?_
     refine (jQ h83 HKS.out HL.out rfl rfl (.tmp 4) (.tmp 14) rfl rfl rfl (fun _ h84=>?_) AllReady.nil)
     refine dA ?_
     go_wp2_with fail
     go_meet
     case rel=>exact ⟨_,_,rfl,rfl,h84⟩
    ·simp only [Act.put,sD,sE,sF,sA,sB,sC]
     refine rA [3] ?_
     refine (qE h81 rfl rfl (.tmp 9) rfl rfl ?_ AllReady.nil)
     simp only [Act.put,sD,sE,sF,sA,sB,sC]
     refine rA [10] ?_
     refine (jP h81 HKS.out rfl rfl (.tmp 3) (.tmp 10) rfl rfl rfl (fun _ h85=>?_) AllReady.nil)
     simp only [Act.put,sD,sE,sF]
     refine rA [11] ?_
     refine (jQ h85 HKS.out HL.out rfl rfl (.tmp 4) (.tmp 14) rfl rfl rfl (fun _ h86=>?_) AllReady.nil)
     refine dA ?_
     go_wp2_with fail
     go_meet
     case rel=>exact ⟨_,_,rfl,rfl,h86⟩
   ·simp only [Act.put,sD,sE,sF,sA,sB,sC]
    refine rA [3,7] ?_
    refine (qE h72 rfl rfl (.tmp 9) rfl rfl ?_ (jf h72 HL.out rfl rfl (.tmp 13) rfl rfl ?_ AllReady.nil))
    ·simp only [Act.put,sD,sE,sF,sA,sB,sC]
     refine rA [7,10] ?_
     refine (jf h72 HL.out rfl rfl (.tmp 13) rfl rfl ?_ (jP h72 HKS.out rfl rfl (.tmp 3) (.tmp 10) rfl rfl rfl (fun _ h87=>?_) AllReady.nil))
     ·simp only [Act.put,sD,sE,sF,sA,sB,sC]
      refine rA [10] ?_
      refine (jP h72 HKS.out rfl rfl (.tmp 3) (.tmp 10) rfl rfl rfl (fun _ h88=>?_) AllReady.nil)
      simp only [Act.put,sD,sE,sF]
      refine rA [11] ?_
      refine (jQ h88 HKS.out HL.out rfl rfl (.tmp 4) (.tmp 14) rfl rfl rfl (fun _ h89=>?_) AllReady.nil)
      refine dA ?_
      go_wp2_with fail
      go_meet
      case rel=>exact ⟨_,_,rfl,rfl,h89⟩
     ·simp only [Act.put,sD,sE,sF]
      refine rA [7] ?_
      refine (jf h87 HL.out rfl rfl (.tmp 13) rfl rfl ?_ AllReady.nil)
      simp only [Act.put,sD,sE,sF,sA,sB,sC]
      refine rA [11] ?_
      refine (jQ h87 HKS.out HL.out rfl rfl (.tmp 4) (.tmp 14) rfl rfl rfl (fun _ h90=>?_) AllReady.nil)
      refine dA ?_
      go_wp2_with fail
      go_meet
      case rel=>exact ⟨_,_,rfl,rfl,h90⟩
    ·simp only [Act.put,sD,sE,sF,sA,sB,sC]
     refine rA [3] ?_
     refine (qE h72 rfl rfl (.tmp 9) rfl rfl ?_ AllReady.nil)
     simp only [Act.put,sD,sE,sF,sA,sB,sC]
     refine rA [10] ?_
     refine (jP h72 HKS.out rfl rfl (.tmp 3) (.tmp 10) rfl rfl rfl (fun _ h91=>?_) AllReady.nil)
     simp only [Act.put,sD,sE,sF]
     refine rA [11] ?_
     refine (jQ h91 HKS.out HL.out rfl rfl (.tmp 4) (.tmp 14) rfl rfl rfl (fun _ h92=>?_) AllReady.nil)
     refine dA ?_
     go_wp2_with fail
     go_meet
     case rel=>exact ⟨_,_,rfl,rfl,h92⟩
 case rest=>
  obtain ⟨g3,g4,rfl,rfl,HSt⟩:=hcut
  have HSW:Hid (SW w wc K n g3 g4 V rst):=by
   obtain ⟨a1,c3,a2,a3,a4⟩:=HSt.out.r3 g3 rfl
   obtain ⟨b1,c4,b2,b3,b4⟩:=HSt.out.r4 g4 rfl
   have hs:=HS.out
   rw [a4 rfl] at a2
   rw [b4 rfl] at b2
   refine ⟨?_,a2,b2,?_,hs.2.2.1.trans (HSt.out.below.mono (by rw [hs.2.1];omega)),by omega,by omega,HSt.out.ne g3 g4 rfl rfl,hKs⟩
   ·rw [cell_of_row _ K _ _ _ _ HSt.out.hash,zd HL.out]
   ·rw [HSt.out.below.block _ (by rw [hs.2.1];omega)];exact hs.2.2.2
  clear HSt HS HKS HG
  obtain ⟨r,hr⟩:∃ r,r=n%64:=⟨_,rfl⟩
  have hrem:=cm n
  rw [← hr] at hrem
  have hr64:r<64:=by omega
  have hr64I:(r:Int)<64:=by omega
  have cK:=HSW.out.count
  have HR:Hid (r=l.length%64):=by show _=_;rw [hr,HI.out.2.2.2]
  clear hr
  obtain ⟨x1,x2,X1,hx1,hx2⟩:∃ x1 x2:Nat,Hid (x1<4294967296∧x2<4294967296)∧(8*n/4294967296=x1)∧(8*n%4294967296=x2):=⟨_,_,⟨by omega,by omega⟩,rfl,rfl⟩
  have HX:Hid (8*n/4294967296=x1∧8*n%4294967296=x2):=⟨hx1,hx2⟩
  have y1:(n:Int)*8/4294967296%4294967296=(x1:Int):=by omega
  have y2:(n:Int)*8%4294967296=(x2:Int):=by omega
  have y3:(n:Int)*8/4294967296=(x1:Int):=by omega
  have y4:(n:Int)*8%18446744073709551616=(n:Int)*8:=by omega
  have y5:(n:Int)%18446744073709551616=(n:Int):=by omega
  have s56:=cx g4 0 56 (by decide)
  have s60:=cx g4 0 60 (by decide)
  obtain ⟨L1,HL1⟩:∃ L1,Hid (L1=rst.set r 128):=⟨rst.set r 128,rfl⟩
  obtain ⟨L2,HL2⟩:∃ L2,Hid (L2=rst.take r++(128::List.replicate (63-r) 0)):=⟨rst.take r++(128::List.replicate (63-r) 0),rfl⟩
  have HLL:Hid (L2.length=64):=by show _=_;rw [HL2.out];have:=HL.out;simp;omega
  have c4:∃ v,wc.cell? ⟨g4,r,none⟩=some v:=by
   refine ⟨_,(cell_of_row _ g4 r _ _ _ HSW.out.r4).trans (Array.getElem?_eq_getElem ?_)⟩
   simp only [List.size_toArray,List.length_map];have:=HL.out;omega
  obtain ⟨v4,c4⟩:=c4
  have f4:wc.frozen? ⟨g4,r,none⟩=false:=frozen_of_row _ g4 r _ _ HSW.out.r4
  have HSW1:Hid (SW w (wc.setCell ⟨g4,r,none⟩ (.int .u8 128)) K n g3 g4 V L1):=by
   have h:=HSW.out.set4 L1
   rw [HL1.out,← cy,← setCell_eq_setRow wc g4 r _ 240 (0,0) _ HSW.out.r4] at h
   rw [HL1.out]
   exact h
  have hr1:∃ m,Hid (m=63-r)∧∀ wz,(Instr.sliceAt 240 (.pointer (some ⟨g4,0,none⟩)) (some (.int .i64 ((r:Int)+1))) none none).run Tryz.prog wz=.ok (.slice (some ⟨g4,if r=63 then 0 else r+1,none⟩) m m) wz:=by
   by_cases h63:r=63
   ·subst h63
    exact ⟨0,rfl,fun wz=>lI g4 0 wz⟩
   ·refine ⟨63-r,rfl,fun wz=>?_⟩
    have h:=cx g4 0 (r+1) (by omega) wz
    rw [show ((r+1:Nat):Int)=(r:Int)+1 by omega,show 64-(r+1)=63-r by omega,show 0+(r+1)=r+1 by omega] at h
    rw [if_neg h63];exact h
  obtain ⟨m,HM,hsl⟩:=hr1
  obtain ⟨of,HOF,hofe⟩:∃ of,Hid (of=if r=63 then 0 else r+1)∧(if r=63 then 0 else r+1)=of:=⟨_,rfl,rfl⟩
  rw [hofe] at hsl
  clear hofe
  have HC0:Hid (m=0→(L1.map vb).toArray=(L2.map vb).toArray):=by
   intro h0
   have hm:=HM.out
   have h63:r=63:=by omega
   rw [HL1.out,HL2.out,h63]
   have hl:=HL.out
   congr 2
   rw [List.set_eq_take_append_cons_drop,if_pos (by omega),List.drop_of_length_le (by omega)]
   simp
  have HC1:Hid (0<m→of+m≤((L1.map vb).toArray).size∧((L1.map vb).toArray.toList.take of++List.replicate m (vb 0)++(L1.map vb).toArray.toList.drop (of+m)).toArray=(L2.map vb).toArray):=by
   intro h0
   have hm:=HM.out
   have h63:¬ r=63:=by omega
   have ho:=HOF.out
   rw [if_neg h63] at ho
   have hl:=HL.out
   refine ⟨by simp only [List.size_toArray,List.length_map];rw [HL1.out,List.length_set];omega,?_⟩
   rw [HL1.out,HL2.out,ho,hm]
   rw [List.set_eq_take_append_cons_drop,if_pos (by omega)]
   have hA:((rst.take r).map vb++[vb 128]).length=r+1:=by simp;omega
   have hB:((rst.drop (r+1)).map vb).length=63-r:=by simp;omega
   apply Array.ext'
   show (List.take (r+1) (List.map vb (rst.take r++128::rst.drop (r+1)))++List.replicate (63-r) (vb 0)++List.drop (r+1+(63-r)) (List.map vb (rst.take r++128::rst.drop (r+1))))=List.map vb (rst.take r++128::List.replicate (63-r) 0)
   rw [show List.map vb (rst.take r++128::rst.drop (r+1))=((rst.take r).map vb++[vb 128])++(rst.drop (r+1)).map vb by simp,List.take_append_of_le_length (by omega),List.take_of_length_le (by omega),List.drop_of_length_le (by rw [lA,hA,hB];omega)]
   simp
  by_cases h56:r<56
  ·have h56I:¬ ((56:Int)≤(r:Int)):=by omega
   obtain ⟨F,FE⟩:∃ F,Hid (F=L2.take 56++(Sha.four x1++Sha.four x2)):=⟨_,rfl⟩
   have FE2:Hid (F=rst.take (l.length%64)++(128::(List.replicate (55-l.length%64) 0++Sha.tail8 l.length))):=by
    show _=_
    have hl:=HL.out
    rw [FE.out,HL2.out,← HR.out,List.take_append,List.take_of_length_le (by simp;omega),show 56-(List.take r rst).length=(55-r)+1 by simp;omega,List.take_succ_cons,List.take_replicate,show min (55-r) (63-r)=55-r by omega]
    unfold Sha.tail8
    rw [← HI.out.2.2.2,HX.out.1,HX.out.2]
    simp
   have FOK:Hid (vok V∧F.length=64∧Bytes F):=by
    refine ⟨HI.out.2.1,?_,?_⟩
    ·rw [FE.out];have:=HLL.out;simp [Sha.four];omega
    ·have hb:Bytes L2:=by
      rw [HL2.out];intro x hx
      simp only [List.mem_append,List.mem_cons,List.mem_replicate] at hx
      rcases hx with hx | rfl | hx
      ·exact HI.out.2.2.1 x (List.mem_of_mem_take hx)
      ·decide
      ·omega
     rw [FE.out];intro x hx
     simp only [List.mem_append,Sha.four,List.mem_cons,List.not_mem_nil,or_false] at hx
     rcases hx with hx | hx | hx
     ·exact hb x (List.mem_of_mem_take hx)
     ·omega
     ·omega
   have FSHA:Hid (Sha.out (Sha.mix V (L2.take 56++(Sha.four x1++Sha.four x2)))=Sha.sha l):=by
    show _=_
    rw [← FE.out,FE2.out]
    exact Sha.rZ HI.out.1 (by rw [← HR.out];exact h56)
   go_upto_region 7 with (refine bE rfl (.tmp 24) rfl g4 of m m rfl (L1.map vb).toArray (L2.map vb).toArray 240 HSW1.out.r4 (fun h=>(HC1.out h).1) HC0.out (fun h=>(HC1.out h).2) ?_)
   refine yH (fun wt=>SW w wt K n g3 g4 V L2) (HSW1.out.set4 L2) fun wt HA=>?_
   have HA':Hid (SW w wt K n g3 g4 V L2):=HA
   have cK:=HA.count
   clear HA
   have C1:Hid (Calls Tryz.prog 159 #[.slice (some ⟨g4,56,none⟩) 8 8,.int .u32 (x1:Int)] wt fun e w'=>e=.returned (.tuple #[])∧w'=wt.setRow g4 (put4 ((L2).map vb).toArray 56 x1)):=
    yT g4 56 8 8 x1 _ 240 wt X1.out.1 (by decide) HA'.out.r4 (by simp only [List.size_toArray,List.length_map];have:=HLL.out;omega)
   have C2:Hid (Calls Tryz.prog 159 #[.slice (some ⟨g4,60,none⟩) 4 4,.int .u32 (x2:Int)] (wt.setRow g4 (put4 ((L2).map vb).toArray 56 x1)) fun e w'=>e=.returned (.tuple #[])∧w'=wt.setRow g4 (F.map vb).toArray):=by
    have h:=yT g4 60 4 4 x2 (put4 ((L2).map vb).toArray 56 x1) 240 (wt.setRow g4 (put4 ((L2).map vb).toArray 56 x1)) X1.out.2 (by decide) (setRow_heap _ _ _ _ _ _ HA'.out.r4) (by unfold put4;simp only [Array.size_setIfInBounds,List.size_toArray,List.length_map];have:=HLL.out;omega)
    rw [setRow_setRow,gt _ x1 x2 HLL.out,← FE.out] at h
    exact h
   have HA2:Hid (SW w (wt.setRow g4 (F.map vb).toArray) K n g3 g4 V F):=HA'.out.set4 F
   have cK2:(wt.setRow g4 (put4 ((L2).map vb).toArray 56 x1)).cell? ⟨K,72,none⟩=some (.int .i64 (n:Int)):=by
    rw [cell_setRow_other _ _ _ _ (by show K≠g4;have:=HA'.out.lt4;have:=HA'.out.ltK;omega)];exact cK
   have CM:Hid (∀ wz,Tabs wz→Calls Tryz.prog 158 #[.agg (vagg V),.agg (F.map vb).toArray] wz fun e w'=>e=.returned (.agg (vagg (Sha.mix V F)))∧Below wz.heap.size wz w'):=fun wz hz=>fJ V F wz FOK.out.1 FOK.out.2.1 FOK.out.2.2 hz
   have CB:Hid (∀ wz,Calls Tryz.prog 160 #[.agg (vagg (Sha.mix V F))] wz fun x w'=>x=.returned (.agg ((Sha.out (Sha.mix V F)).map vb).toArray)∧Below wz.heap.size wz w'):=fun wz=>gu _ wz fE
   have HZ94:Hid ((Tryz.prog.info? 238).map (·.size)=some (vagg V).size):=by show _=_;rw [show (vagg V).size=8 from rfl];kernel_rfl
   have HZ96:Hid ((Tryz.prog.info? 240).map (·.size)=some ((F.map vb).toArray).size):=by show _=_;rw [show ((F.map vb).toArray).size=64 by simp only [List.size_toArray,List.length_map];exact FOK.out.2.1];kernel_rfl
   have HZ41:Hid ((Tryz.prog.info? 22).map (·.size)=some (((Sha.out (Sha.mix V F)).map vb).toArray).size):=by show _=_;rw [show (((Sha.out (Sha.mix V F)).map vb).toArray).size=32 by simp only [List.size_toArray,List.length_map];exact lJ _];kernel_rfl
   have HTT:Hid (Tabs (wt.setRow g4 (F.map vb).toArray)):=HT.out.up HA2.out.below
   go_wp2_with (first | (go_at_call 159;(first | with_reducible refine C1.out.mono ?_ | with_reducible refine C2.out.mono ?_);rintro e w1 ⟨rfl,rfl⟩) | refine wpList_load_row rfl 238 (.tmp 3) rfl g3 rfl 238 (vagg V) (0,0) (.array 8 56) HA2.out.r3 Tryz.underlying238 rfl HZ94.out ?_ | refine wpList_load_row rfl 240 (.tmp 4) rfl g4 rfl 240 (F.map vb).toArray (0,0) (.array 64 5) HA2.out.r4 Tryz.underlying240 rfl HZ96.out ?_ | (go_at_call 158;refine (CM.out _ HTT.out).mono ?_;rintro e w2 ⟨rfl,hb2⟩;have HB2:Hid (Below (wt.setRow g4 (F.map vb).toArray).heap.size (wt.setRow g4 (F.map vb).toArray) w2):=hb2;clear hb2) | (go_at_call 160;refine (CB.out _).mono ?_;rintro e w3 ⟨rfl,hb3⟩;have HB3:Hid (SW w w3 K n g3 g4 V F):=(HA2.out.up HB2.out).up hb3;clear hb3) | refine wpList_store_row rfl 22 (.tmp 2) (.tmp 49) rfl w.heap.size ((Sha.out (Sha.mix V F)).map vb).toArray rfl rfl 22 (jg 32 []) HB3.out.out HZ41.out (by rw [yG (by simp)];simp only [List.size_toArray,List.length_map];rfl) (bD _) ?_)
   refine bodyPost_ret (results_cell_row (P:=Tryz.prog) rfl _ _ w.heap.size 22 ((Sha.out (Sha.mix V F)).map vb).toArray (0,0) (.array 32 5) rfl (setRow_heap _ _ _ _ _ _ HB3.out.out) Tryz.underlying22 rfl HZ41.out) rfl ⟨by rw [FE.out,FSHA.out],below_setRow HB3.out.below (Nat.le_refl _) _⟩
  ·have h56I:(56:Int)≤(r:Int):=by omega
   obtain ⟨M,HME⟩:∃ M,Hid (M=Sha.mix V L2):=⟨Sha.mix V L2,rfl⟩
   obtain ⟨Z,HZE⟩:∃ Z:List Nat,Hid (Z=List.replicate 64 0):=⟨List.replicate 64 0,rfl⟩
   have hb2:Hid (Bytes L2):=by
    rw [HL2.out];intro x hx
    simp only [List.mem_append,List.mem_cons,List.mem_replicate] at hx
    rcases hx with hx | rfl | hx
    ·exact HI.out.2.2.1 x (List.mem_of_mem_take hx)
    ·decide
    ·omega
   go_upto_region 6 with (refine bE rfl (.tmp 24) rfl g4 of m m rfl (L1.map vb).toArray (L2.map vb).toArray 240 HSW1.out.r4 (fun h=>(HC1.out h).1) HC0.out (fun h=>(HC1.out h).2) ?_)
   refine yH (fun wt=>SW w wt K n g3 g4 V L2) (HSW1.out.set4 L2) fun w6 HA6=>?_
   have HS6:Hid (SW w w6 K n g3 g4 V L2):=HA6
   clear HA6
   have CM0:Hid (Calls Tryz.prog 158 #[.agg (vagg V),.agg (L2.map vb).toArray] w6 fun e w'=>e=.returned (.agg (vagg M))∧Below w6.heap.size w6 w'):=by
    rw [HME.out];exact fJ V L2 w6 HI.out.2.1 HLL.out hb2.out (HT.out.up HS6.out.below)
   have HZ94a:Hid ((Tryz.prog.info? 238).map (·.size)=some (vagg V).size∧(Tryz.prog.info? 238).map (·.size)=some (vagg M).size):=by refine ⟨?_,?_⟩<;>(show _=some 8;kernel_rfl)
   have HZ96a:Hid ((Tryz.prog.info? 240).map (·.size)=some ((L2.map vb).toArray).size∧(Tryz.prog.info? 240).map (·.size)=some (jg 64 []).size∧((L2.map vb).toArray).size=(jg 64 []).size):=by
    have e1:((L2.map vb).toArray).size=64:=by simp only [List.size_toArray,List.length_map];exact HLL.out
    have e2:(jg 64 []).size=64:=yG (by simp)
    rw [e1,e2]
    exact ⟨by kernel_rfl,by kernel_rfl,rfl⟩
   have HZB:Hid (jg 64 []=(Z.map vb).toArray∧(jg 64 []).all (·.oneCell')=true):=by
    have e:jg 64 []=(Z.map vb).toArray:=by rw [HZE.out];rfl
    exact ⟨e,by rw [e];exact bD _⟩
   go_upto_region 7 with (first | refine wpList_load_row rfl 238 (.tmp 3) rfl g3 rfl 238 (vagg V) (0,0) (.array 8 56) HS6.out.r3 Tryz.underlying238 rfl HZ94a.out.1 ?_ | refine wpList_load_row rfl 240 (.tmp 4) rfl g4 rfl 240 (L2.map vb).toArray (0,0) (.array 64 5) HS6.out.r4 Tryz.underlying240 rfl HZ96a.out.1 ?_ | (go_at_call 158;refine CM0.out.mono ?_;rintro e w2 ⟨rfl,hb2'⟩;have HB2:Hid (SW w w2 K n g3 g4 V L2):=HS6.out.up hb2';clear hb2') | refine fK rfl 240 rfl (jg 64 []) built96 ?_ | refine wpList_store_row rfl 238 (.tmp 3) (.tmp 29) rfl g3 (vagg M) rfl rfl 238 (vagg V) HB2.out.r3 HZ94a.out.2 rfl (eB _) ?_ | refine wpList_store_row rfl 240 (.tmp 4) (.tmp 30) rfl g4 (jg 64 []) rfl rfl 240 (L2.map vb).toArray (HB2.out.set3 M).r4 HZ96a.out.2.1 HZ96a.out.2.2 HZB.out.2 ?_)
   have HFIN6:SW w ((w2.setRow g3 (vagg M)).setRow g4 (jg 64 [])) K n g3 g4 M Z:=by
    have h:=(HB2.out.set3 M).set4 Z
    rw [← HZB.out.1] at h
    exact h
   obtain ⟨F,FE⟩:∃ F,Hid (F=Z.take 56++(Sha.four x1++Sha.four x2)):=⟨_,rfl⟩
   have HLLo:Hid (L2.length=64):=HLL
   clear HLL
   have HLL:Hid (Z.length=64):=by show _=_;rw [HZE.out,List.length_replicate]
   have FOK:Hid (vok M∧F.length=64∧Bytes F):=by
    refine ⟨by rw [HME.out];exact fE,?_,?_⟩
    ·rw [FE.out];have:=HLL.out;simp [Sha.four];omega
    ·rw [FE.out,HZE.out];intro x hx
     simp only [List.mem_append,Sha.four,List.mem_cons,List.not_mem_nil,or_false] at hx
     rcases hx with hx | hx | hx
     ·have:=List.mem_of_mem_take hx;rw [List.mem_replicate] at this;omega
     ·omega
     ·omega
   have FSHA:Hid (Sha.out (Sha.mix M (Z.take 56++(Sha.four x1++Sha.four x2)))=Sha.sha l):=by
    show _=_
    have h:=Sha.tr HI.out.1 (by rw [← HR.out];omega)
    rw [← HR.out,← HL2.out,← HME.out] at h
    rw [show Z.take 56++(Sha.four x1++Sha.four x2)=List.replicate 56 0++Sha.tail8 l.length from ?_]
    ·exact h
    ·unfold Sha.tail8
     rw [← HI.out.2.2.2,HX.out.1,HX.out.2,HZE.out,List.take_replicate]
     rfl
   refine yH (fun wt=>SW w wt K n g3 g4 M Z) HFIN6 fun wt HA=>?_
   have HA':Hid (SW w wt K n g3 g4 M Z):=HA
   have cK:=HA.count
   clear HA
   have C1:Hid (Calls Tryz.prog 159 #[.slice (some ⟨g4,56,none⟩) 8 8,.int .u32 (x1:Int)] wt fun e w'=>e=.returned (.tuple #[])∧w'=wt.setRow g4 (put4 ((Z).map vb).toArray 56 x1)):=
    yT g4 56 8 8 x1 _ 240 wt X1.out.1 (by decide) HA'.out.r4 (by simp only [List.size_toArray,List.length_map];have:=HLL.out;omega)
   have C2:Hid (Calls Tryz.prog 159 #[.slice (some ⟨g4,60,none⟩) 4 4,.int .u32 (x2:Int)] (wt.setRow g4 (put4 ((Z).map vb).toArray 56 x1)) fun e w'=>e=.returned (.tuple #[])∧w'=wt.setRow g4 (F.map vb).toArray):=by
    have h:=yT g4 60 4 4 x2 (put4 ((Z).map vb).toArray 56 x1) 240 (wt.setRow g4 (put4 ((Z).map vb).toArray 56 x1)) X1.out.2 (by decide) (setRow_heap _ _ _ _ _ _ HA'.out.r4) (by unfold put4;simp only [Array.size_setIfInBounds,List.size_toArray,List.length_map];have:=HLL.out;omega)
    rw [setRow_setRow,gt _ x1 x2 HLL.out,← FE.out] at h
    exact h
   have HA2:Hid (SW w (wt.setRow g4 (F.map vb).toArray) K n g3 g4 M F):=HA'.out.set4 F
   have cK2:(wt.setRow g4 (put4 ((Z).map vb).toArray 56 x1)).cell? ⟨K,72,none⟩=some (.int .i64 (n:Int)):=by
    rw [cell_setRow_other _ _ _ _ (by show K≠g4;have:=HA'.out.lt4;have:=HA'.out.ltK;omega)];exact cK
   have CM:Hid (∀ wz,Tabs wz→Calls Tryz.prog 158 #[.agg (vagg M),.agg (F.map vb).toArray] wz fun e w'=>e=.returned (.agg (vagg (Sha.mix M F)))∧Below wz.heap.size wz w'):=fun wz hz=>fJ M F wz FOK.out.1 FOK.out.2.1 FOK.out.2.2 hz
   have CB:Hid (∀ wz,Calls Tryz.prog 160 #[.agg (vagg (Sha.mix M F))] wz fun x w'=>x=.returned (.agg ((Sha.out (Sha.mix M F)).map vb).toArray)∧Below wz.heap.size wz w'):=fun wz=>gu _ wz fE
   have HZ94:Hid ((Tryz.prog.info? 238).map (·.size)=some (vagg M).size):=by show _=_;rw [show (vagg M).size=8 from rfl];kernel_rfl
   have HZ96:Hid ((Tryz.prog.info? 240).map (·.size)=some ((F.map vb).toArray).size):=by show _=_;rw [show ((F.map vb).toArray).size=64 by simp only [List.size_toArray,List.length_map];exact FOK.out.2.1];kernel_rfl
   have HZ41:Hid ((Tryz.prog.info? 22).map (·.size)=some (((Sha.out (Sha.mix M F)).map vb).toArray).size):=by show _=_;rw [show (((Sha.out (Sha.mix M F)).map vb).toArray).size=32 by simp only [List.size_toArray,List.length_map];exact lJ _];kernel_rfl
   have HTT:Hid (Tabs (wt.setRow g4 (F.map vb).toArray)):=HT.out.up HA2.out.below
   go_wp2_with (first | (go_at_call 159;(first | with_reducible refine C1.out.mono ?_ | with_reducible refine C2.out.mono ?_);rintro e w1 ⟨rfl,rfl⟩) | refine wpList_load_row rfl 238 (.tmp 3) rfl g3 rfl 238 (vagg M) (0,0) (.array 8 56) HA2.out.r3 Tryz.underlying238 rfl HZ94.out ?_ | refine wpList_load_row rfl 240 (.tmp 4) rfl g4 rfl 240 (F.map vb).toArray (0,0) (.array 64 5) HA2.out.r4 Tryz.underlying240 rfl HZ96.out ?_ | (go_at_call 158;refine (CM.out _ HTT.out).mono ?_;rintro e w2 ⟨rfl,hb2⟩;have HB2:Hid (Below (wt.setRow g4 (F.map vb).toArray).heap.size (wt.setRow g4 (F.map vb).toArray) w2):=hb2;clear hb2) | (go_at_call 160;refine (CB.out _).mono ?_;rintro e w3 ⟨rfl,hb3⟩;have HB3:Hid (SW w w3 K n g3 g4 M F):=(HA2.out.up HB2.out).up hb3;clear hb3) | refine wpList_store_row rfl 22 (.tmp 2) (.tmp 49) rfl w.heap.size ((Sha.out (Sha.mix M F)).map vb).toArray rfl rfl 22 (jg 32 []) HB3.out.out HZ41.out (by rw [yG (by simp)];simp only [List.size_toArray,List.length_map];rfl) (bD _) ?_)
   refine bodyPost_ret (results_cell_row (P:=Tryz.prog) rfl _ _ w.heap.size 22 ((Sha.out (Sha.mix M F)).map vb).toArray (0,0) (.array 32 5) rfl (setRow_heap _ _ _ _ _ _ HB3.out.out) Tryz.underlying22 rfl HZ41.out) rfl ⟨by rw [FE.out,FSHA.out],below_setRow HB3.out.below (Nat.le_refl _) _⟩
end Go.Proofs.YtjikkhbcbfpocaaGreatDoor.Su
