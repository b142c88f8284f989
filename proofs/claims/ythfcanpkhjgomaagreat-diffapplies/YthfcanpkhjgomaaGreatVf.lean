import Derived.Test.YthfcanpkhjgomaaGreatDKids
import Derived.Test.YthfcanpkhjgomaaGreatVs
set_option maxRecDepth 100000
set_option maxHeartbeats 4000000
namespace Go.Proofs.YthfcanpkhjgomaaGreat.Ch
open Go.RowKit
theorem yielded_at {ops:Array Oper} {t:Array Value} {k d:Nat} (hk:slotB ops k=some d):yielded ops t k=(match t[d]? with | some (.bool b)=>some b | _=>none):=by
 unfold slotB at hk
 unfold yielded
 rw [hk]
 rfl
theorem jD {ops:Array Oper} {t:Array Value} {o:Oper} {k d:Nat} {b:Bool} (hg:o.guard=some (k,b)) (hk:slotB ops k=some d) (hv:t[d]?.getD undef=.bool b):Region.wanted o (yielded ops t)=true:=by
 unfold Region.wanted
 rw [hg]
 simp only
 rw [yielded_at hk]
 cases h:t[d]? with
 | none=>rw [h] at hv;simp [undef] at hv
 | some v=>rw [h] at hv;simp at hv;subst hv;simp
theorem jL {ops:Array Oper} {t:Array Value} {o:Oper} {k d:Nat} {b c:Bool} (hg:o.guard=some (k,b)) (hk:slotB ops k=some d) (hv:t[d]?.getD undef=.bool c) (hn:(c==b)=false):Region.wanted o (yielded ops t)=false:=by
 unfold Region.wanted
 rw [hg]
 simp only
 rw [yielded_at hk]
 cases h:t[d]? with
 | none=>rw [h] at hv;simp [undef] at hv
 | some v=>rw [h] at hv;simp at hv;subst hv;simpa using hn
theorem jc {ops:Array Oper} {t:Array Value} {o:Oper} {k d:Nat} {b:Bool} (hg:o.guard=some (k,b)) (hk:slotB ops k=some d) (hv:t[d]?.getD undef=undef):Region.wanted o (yielded ops t)=false:=by
 unfold Region.wanted
 rw [hg]
 simp only
 rw [yielded_at hk]
 cases h:t[d]? with
 | none=>simp
 | some v=>rw [h] at hv;simp at hv;subst hv;simp [undef]
section
variable {P:Program} {ops:Array Oper} {Q:Exit→Act→World→Prop} {V:Nat→Value} {t0 t:Array Value} {done:Nat→Bool} {Mem:(Nat→Bool)→World→Prop}
theorem jF {i d:Nat} {o:Oper} {w w':World} (hB:dstB ops t0.size=true) (ho:ops[i]?=some o) (hg:Region.wanted o (yielded ops t)=true) (hd:o.dst=some d) (hs:Slots ops V t0 t done) (hM:Mem (upd done i) w') (hrun:(execOp (Act.mk t []).eval o).run P w=.ok (.value (V i)) w'):wpOp P ops Q i (IV ops V t0 Mem (upd done i)) ⟨t,[]⟩ w:=by
 unfold wpOp
 rw [ho]
 simp only
 rw [if_pos hg]
 left
 unfold Oper.wp
 rw [hrun,Oper.upon_value,hd]
 exact ⟨_,rfl,hs.put hB ho hd,hM⟩
theorem jW {i d:Nat} {o:Oper} {w:World} (hB:dstB ops t0.size=true) (ho:ops[i]?=some o) (hg:Region.wanted o (yielded ops t)=false) (hd:o.dst=some d) (hs:Slots ops V t0 t done) (hM:Mem (upd done i) w) (hV:V i=undef):wpOp P ops Q i (IV ops V t0 Mem (upd done i)) ⟨t,[]⟩ w:=by
 unfold wpOp
 rw [ho]
 simp only
 rw [if_neg (by rw [hg];simp),hd]
 have:=hs.put hB ho hd
 rw [hV] at this
 exact ⟨_,rfl,this,hM⟩
theorem iv_callG {i d:Nat} {o:Oper} {w:World} (f:FuncId) (args:Array Value) (hB:dstB ops t0.size=true) (ho:ops[i]?=some o) (hg:Region.wanted o (yielded ops t)=true) (hd:o.dst=some d) (hs:Slots ops V t0 t done) (hrun:(execOp (Act.mk t []).eval o).run P w=.ok (.enter f args) w) (hC:Calls P f args w fun e w'=>e=.returned (V i)∧Mem (upd done i) w'):wpOp P ops Q i (IV ops V t0 Mem (upd done i)) ⟨t,[]⟩ w:=by
 unfold wpOp
 rw [ho]
 simp only
 rw [if_pos hg]
 left
 unfold Oper.wp
 rw [hrun]
 refine Calls.mono hC ?_
 rintro e w' ⟨rfl,hM⟩
 rw [hd]
 exact ⟨_,rfl,hs.put hB ho hd,hM⟩
theorem jB {o:Oper} {y:Nat→Option Bool} (hg:o.guard=none):Region.wanted o y=true:=by simp [Region.wanted,hg]
end
section
variable {F:Fence} {n0:Nat} {P:Program} {ops:Array Oper} {Q:Exit→Act→World→Prop}
theorem inv_regionIn {id:Nat} {a:Act} {w:World} (hm:P.follows .mixedOrders=true) (I:(Nat→Bool)→Act→World→Prop) (hback:backB ops=true) (h0:I (fun _=>false) a w.drew)
  (hs:∀ i o done a w,ops[i]?=some o→I done a w→done i=false→Deps o done→Closed ops done→wpOpIn F n0 P ops Q i (I (upd done i)) a w)
  (hd:∀ done a w,I done a w→(∀ i,i<ops.size→done i=true)→Q .normal a w):(Code.region id ops true).wpIn F n0 P Q a w:=by
 refine wpIn_region_any hm ?_
 have key:∀ (n:Nat) (listed:Array Bool) (a:Act) (w:World),listed.size=ops.size→listed.toList.count false≤n→I (fun i=>listed.getD i false) a w→Closed ops (fun i=>listed.getD i false)→wpAnyIn F n0 P .any ops Q n listed a w:=by
  have full:∀ (listed:Array Bool) (a:Act) (w:World),listed.size=ops.size→I (fun i=>listed.getD i false) a w→Region.ready .any ops listed=[]→Q .normal a w:=by
   intro listed a w hz hI hr
   refine hd _ a w hI ?_
   intro i
   induction i using Nat.strongRecOn with
   | ind i ih=>
    intro hi
    cases hl:listed.getD i false with
    | true=>rfl
    | false=>
     have hm:i∈Region.ready .any ops listed:=by
      refine mem_ready.2 ⟨?_,ops[i],by simp [hi],fun e he hb=>?_⟩
      ·have:i<listed.size:=by omega
       simp [Array.getD,this] at hl ⊢
       exact hl
      ·have hlt:=back_spec hback (i:=i) (o:=ops[i]) (by simp [hi]) e he hb
       exact ih e.on hlt (by omega)
     rw [hr] at hm
     cases hm
  intro n
  induction n with
  | zero=>
   intro listed a w hz hc hI hC
   have hr:Region.ready .any ops listed=[]:=by
    rw [List.eq_nil_iff_forall_not_mem]
    intro i hi
    obtain ⟨h1,_⟩:=mem_ready.1 hi
    have hlt:i<listed.size:=by
     by_cases h:i<listed.size
     ·exact h
     ·simp [Array.getD,h] at h1
    have:listed.toList.count false=0:=by omega
    rw [List.count_eq_zero] at this
    refine this ?_
    simp [Array.getD,hlt] at h1
    rw [← h1]
    exact Array.getElem_mem_toList hlt
   exact ⟨hr,full listed a w hz hI hr⟩
  | succ n ih=>
   intro listed a w hz hc hI hC
   refine ⟨full listed a w hz hI,fun i hi=>?_⟩
   obtain ⟨h1,o,ho,h2⟩:=mem_ready.1 hi
   have hlt:i<listed.size:=by
    by_cases h:i<listed.size
    ·exact h
    ·simp [Array.getD,h] at h1
   have hnd:listed.getD i false=false:=by
    simp [Array.getD,hlt] at h1 ⊢;exact h1
   have eu:(fun j=>(listed.setIfInBounds i true).getD j false)=upd (fun j=>listed.getD j false) i:=by
    funext j
    unfold upd
    by_cases hji:j=i
    ·subst hji;simp [Array.getD,hlt]
    ·rw [if_neg hji]
     by_cases hjl:j<listed.size
     ·simp only [Array.getD,hjl,Array.size_setIfInBounds,dif_pos]
      exact Array.getElem_setIfInBounds_ne hjl (Ne.symm hji)
     ·simp [Array.getD,hjl]
   refine wpOpIn_mono (fun a' w' hI'=>ih _ a' w' (by simp [hz]) ?_ (by rw [eu];exact hI') ?_) (hs i o _ a w ho hI hnd h2 hC)
   ·simp [Array.getD,hlt] at h1
    have e1:(listed.setIfInBounds i true).toList=listed.toList.set i true:=by simp
    rw [e1,List.count_set (by simpa using hlt)]
    have:listed.toList[i]'(by simpa using hlt)=false:=by simpa using h1
    rw [this]
    have hpos:0<listed.toList.count false:=List.count_pos_iff.2 (by rw [← this];exact List.getElem_mem _)
    simp only [beq_self_eq_true,if_true,Bool.true_eq_false,beq_iff_eq,if_false,Nat.add_zero]
    omega
   ·rw [eu]
    intro j oj hoj hj e he hb
    unfold upd at hj ⊢
    by_cases hji:j=i
    ·subst hji
     rw [ho] at hoj
     injection hoj with hoj
     subst hoj
     have:=h2 e he hb
     split
     ·rfl
     ·exact this
    ·rw [if_neg hji] at hj
     have:=hC j oj hoj hj e he hb
     split
     ·rfl
     ·exact this
 exact key ops.size _ a _ (by simp) (by simp) (by
  have:(fun i=>(Array.replicate ops.size false).getD i false)=fun _=>false:=by
   funext i
   by_cases h:i<ops.size<;>simp [Array.getD,h]
  rw [this];exact h0) (by
  intro j oj _ hj
  by_cases h:j<ops.size<;>simp [Array.getD,h] at hj)
variable {V:Nat→Value} {t0 t:Array Value} {done:Nat→Bool} {Mem:(Nat→Bool)→World→Prop}
end
attribute [local go_sem] Oper.semAt_some
end Go.Proofs.YthfcanpkhjgomaaGreat.Ch
namespace Go.Proofs.YthfcanpkhjgomaaGreat
open Go.RowKit
open Ch
theorem AtT.uniq {w:World} {p:Nat} {v v':Vd} {m m':Md} {k k':K} (h:AtT w p v m k) (h':AtT w p v' m' k'):v=v'∧m=m'∧k=k':=by
 obtain ⟨pk,h1,h2⟩:=h
 obtain ⟨pk',h1',h2'⟩:=h'
 obtain ⟨e1,e2,e3⟩:=lies_tc h1 h1'
 subst e3
 exact ⟨e1,e2,h2.uniq h2'⟩
def cvV (v:Vd):Ch.Vd:=⟨v.kind,v.mode,v.size,v.sum,v.len⟩
theorem cvV_inj {v v':Vd} (h:cvV v=cvV v'):v=v':=by
 obtain ⟨k,m,s,l,hl⟩:=v
 obtain ⟨k',m',s',l',hl'⟩:=v'
 simp only [cvV,Ch.Vd.mk.injEq] at h
 obtain ⟨rfl,rfl,rfl,rfl⟩:=h
 rfl
def toC (d:DO.Dif):Cd:=⟨ofB (joinL d.p),cvV d.o,cvV d.n⟩
def vcV (v:Ch.Vd):Vd:=⟨v.kind,v.mode,v.size,v.sum,v.len⟩
theorem cvV_vc (v:Ch.Vd):cvV (vcV v)=v:=rfl
def startsB (t:T3) (L:List Cd):Bool:=L.all fun c=>decide (atV t c.path=vcV c.old)
theorem cvar (w:World) (r:Cd) (B:Nat) (hB:w.heap.size=B):Below w.heap.size w ((w.alloc (.cells z55 66)).setRow B (cc r))∧Ch.Lies ((w.alloc (.cells z55 66)).setRow B (cc r)) B 0 (cc r)∧(w.alloc (.cells z55 66)).heap[B]?=some (.cells z55 66 (0,0)):=by
 have n1:=Ch.new_varT w 66 z55 (cc r)
 rw [hB] at n1
 refine ⟨by rw [hB];exact n1.1,fun j u hj=>by simp only [World.cell?,n1.2.1,Nat.zero_add];exact hj,by rw [← hB];exact World.alloc_heap_new w _⟩
theorem vvar (w:World) (v:Vd) (B:Nat) (hB:w.heap.size=B):G w ((w.alloc (.cells (vx Vd.zero).toArray 24)).setRow B (vx v).toArray)∧Lies ((w.alloc (.cells (vx Vd.zero).toArray 24)).setRow B (vx v).toArray) B 0 (vx v).toArray∧Var24 (w.alloc (.cells (vx Vd.zero).toArray 24)) B (vx Vd.zero).toArray:=by
 have n1:=Ch.new_varT w 24 (vx Vd.zero).toArray (vx v).toArray
 rw [hB] at n1
 refine ⟨by have:=n1.1;rwa [← hB] at this ⊢,fun j u hj=>by simp only [World.cell?,n1.2.1,Nat.zero_add];exact hj,by rw [← hB];exact World.alloc_heap_new w _⟩
theorem all_step {α:Type} {f:α→Bool} {L:List α} {k:Nat} {x:α} (h:L[k]?=some x):(L.drop k).all f=(f x&&(L.drop (k+1)).all f):=by
 have hlt:=(List.getElem?_eq_some_iff.1 h).1
 have hx:=(List.getElem?_eq_some_iff.1 h).2
 rw [List.drop_eq_getElem_cons hlt,hx,List.all_cons]
theorem starts_any (p:Nat) (t:T3) (ao:Option Addr) (cp:Nat) (L:List Cd) (w:World) (ht:T1 w p t) (hr:t.2.2.rises) (h:HasA w (.slice ao L.length cp) L) (hn:L.length≤1000000) (hp:∀ c∈L,c.path.size≤1048576):
  Calls Tryz.prog 39 #[.pointer (some ⟨p,0,none⟩),.slice ao L.length cp] w fun e w'=>e=.returned (.bool (startsB t L))∧G w w':=by
 obtain ⟨n,hn'⟩:∃ n,L.length=n:=⟨_,rfl⟩
 have HA:=hid h
 have HN:=hid hn'
 have HP:=hid hp
 have HT:=hid (⟨ht,hr⟩:T1 w p t∧t.2.2.rises)
 rw [hn'] at hn HA ⊢
 clear h hn' hp ht hr
 go_enter Tryz.func39,Tryz.ntmps39
 go_wp2
 go_loopg [11] n (fun gh i wr=>∃ k:Nat,k≤n∧gh=n-k∧i=.int .i64 (k:Int)∧Hid (G w wr)∧Hid (startsB t L=startsB t (L.drop k)))
 case atStart=>exact ⟨0,Nat.zero_le _,rfl,rfl,G.refl _,by show startsB t L=startsB t (L.drop 0);rw [List.drop_zero]⟩
 case round=>
  obtain ⟨k,hk,rfl,rfl,HS,HR⟩:=hrel
  by_cases hlt:k<n
  ·have i1:(k:Int)<(n:Int):=by omega
   have i0:(0:Int)≤(k:Int):=by omega
   obtain ⟨r,hx⟩:∃ r,L[k]?=some r:=⟨L[k]'(by rw [HN.out];exact hlt),by simp⟩
   obtain ⟨ga,oa,rfl,la⟩:=(HA.out.below HS.out).at hx
   have hs:=HP.out r (List.mem_of_getElem? hx)
   have HRK:Hid (startsB t L=(decide (atV t r.path=vcV r.old)&&startsB t (L.drop (k+1)))):=by
    show startsB t L=_
    rw [HR.out];unfold startsB;exact all_step hx
   obtain ⟨B1,hB1⟩:∃ B1,wr.heap.size=B1:=⟨_,rfl⟩
   obtain ⟨g1,lv,hA1⟩:=cvar wr r B1 hB1
   obtain ⟨X,hX⟩:∃ X,cc r=X:=⟨_,rfl⟩
   have HX:Hid (X.size=71∧X.all (·.oneCell')=true):=⟨by rw [← hX];exact jl r,by rw [← hX];exact cc_one r⟩
   have HLa:Hid (Ch.Lies wr ga (oa+k*71) (cc r)):=la
   rw [hX] at HLa g1 lv
   obtain ⟨w1,hw1⟩:∃ w1,(wr.alloc (.cells z55 66)).setRow B1 X=w1:=⟨_,rfl⟩
   rw [hw1] at g1 lv
   rw [← hX] at lv
   have HA1:=hid hA1
   have HW1:=hid hw1
   have HS1:Hid (G w w1):=HS.out.trans g1
   have c0:w1.cell? ⟨B1,0,none⟩=some (.string r.path):=lv.path
   have HLV:=hid lv
   have HSP:=hid (at_any p t r.path w1 (HT.out.1.grow HS1.out) HT.out.2 hs)
   obtain ⟨VA,hVA⟩:∃ VA,(vx (atV t r.path)).toArray=VA:=⟨_,rfl⟩
   have HVA:Hid (VA=(vx (atV t r.path)).toArray∧VA.size=35∧VA.all (·.oneCell')=true):=⟨hVA.symm,by rw [← hVA];simp [jQ],by rw [← hVA];exact vx_one _⟩
   rw [hVA] at HSP
   clear la lv g1 hw1 hA1 hX hx HR
   go_upto_region 4 with (first
    | ((with_reducible refine jA (.agg X) ?_ ?_ ?_);exact Ch.exec_load 66 _ rfl ga (oa+k*71) rfl X _ HLa.out Ch.under55 rfl (by rw [Ch.size55,HX.out.1]);kernel_rfl)
    | ((with_reducible refine jJ (.pointer (some ⟨B1,0,none⟩)) (wr.alloc (.cells z55 66)) ?_ ?_ ?_);exact Ch.exec_allocT 66 z55 rfl zero55 _ _ hB1;kernel_rfl)
    | ((with_reducible refine jP w1 ?_ ?_ ?_);exact (by rw [← HW1.out];exact Ch.exec_storeT 66 _ _ rfl B1 X z55 rfl rfl _ HA1.out (by rw [Ch.size55,HX.out.1]) (by rw [z55_size,HX.out.1]) HX.out.2);kernel_rfl))
   generalize hb:decide (atV t r.path=vcV r.old)=b at *
   generalize (subS t r.path).isSome=sb at *
   obtain ⟨w2,hw2⟩:∃ w2:World,w2=w2:=⟨w1,rfl⟩
   clear hw2 w2
   go_upto_region 5 with (first
    | (go_at_call 82;refine HSP.out.mono ?_;rintro e w2 ⟨rfl,hg2⟩;obtain ⟨B2,hB2⟩:∃ B2,w2.heap.size=B2:=⟨_,rfl⟩;have H2:=vvar w2 (atV t r.path) B2 hB2;rw [← HVA.out.1] at H2;have HS2:Hid (G w w2∧G w1 w2):=⟨HS1.out.trans hg2,hg2⟩;have HV2:=hid H2;obtain ⟨w3,hw3⟩:∃ w3,(w2.alloc (.cells (vx Vd.zero).toArray 24)).setRow B2 VA=w3:=⟨_,rfl⟩;have HW3:=hid hw3;clear hg2 H2 hw3)
    | ((with_reducible refine jJ (.pointer (some ⟨B2,0,none⟩)) (w2.alloc (.cells (vx Vd.zero).toArray 24)) ?_ ?_ ?_);exact (by rw [← hB2];exact exec_alloc24 rfl _);kernel_rfl)
    | ((with_reducible refine jP w3 ?_ ?_ ?_);exact (by rw [← HW3.out];exact exec_store24 _ _ rfl B2 VA (vx Vd.zero).toArray rfl rfl _ HV2.out.2.2 HVA.out.2.1 (vx_size _) HVA.out.2.2);kernel_rfl))
   have HV3:Hid (G w w3∧G w1 w3∧Lies w3 B2 0 VA):=by
    have:=HV2.out
    rw [HW3.out] at this
    exact ⟨HS2.out.1.trans this.1,HS2.out.2.trans this.1,this.2.1⟩
   have HO:Hid (Lies w3 B1 1 (vx (vcV r.old)).toArray):=by
    have h1:Ch.Lies w3 B1 0 (cc r):=HLV.out.below HV3.out.2.1
    have:=h1.old;rwa [Nat.zero_add] at this
   obtain ⟨YO,hYO⟩:∃ Y,(vx (vcV r.old)).toArray=Y:=⟨_,rfl⟩
   have HYO:Hid ((vx (vcV r.old)).toArray=YO∧YO.size=35):=⟨hYO,by rw [← hYO];simp [jQ]⟩
   rw [hYO] at HO
   have HBB:=hid hb
   clear hYO hb HV2 HW3 HS2 HSP HLV HA1 HW1 c0
   cases b with
   | false=>
    have HE:Hid (startsB t L=false):=by
     show startsB t L=false
     rw [HRK.out];rfl
    go_wp2_with (first
     | ((with_reducible refine jA (.agg VA) ?_ ?_ ?_);exact jE _ rfl B2 0 rfl VA HVA.out.2.1 HV3.out.2.2;kernel_rfl)
     | ((with_reducible refine jA (.agg YO) ?_ ?_ ?_);exact jE _ rfl B1 1 rfl YO HYO.out.2 HO.out;kernel_rfl)
     | ((with_reducible refine jA (.bool true) ?_ ?_ ?_);exact jd _ _ rfl VA YO rfl rfl (atV t r.path) (vcV r.old) HVA.out.1 HYO.out.1.symm true (by rw [HBB.out];rfl) _;kernel_rfl))
    go_ret
    exact ⟨by rw [HE.out];rfl,HV3.out.1⟩
   | true=>
    go_wp2_with (first
     | ((with_reducible refine jA (.agg VA) ?_ ?_ ?_);exact jE _ rfl B2 0 rfl VA HVA.out.2.1 HV3.out.2.2;kernel_rfl)
     | ((with_reducible refine jA (.agg YO) ?_ ?_ ?_);exact jE _ rfl B1 1 rfl YO HYO.out.2 HO.out;kernel_rfl)
     | ((with_reducible refine jA (.bool false) ?_ ?_ ?_);exact jd _ _ rfl VA YO rfl rfl (atV t r.path) (vcV r.old) HVA.out.1 HYO.out.1.symm false (by rw [HBB.out];rfl) _;kernel_rfl))
    go_roundg (n-(k+1))
    case rel=>exact ⟨k+1,by omega,rfl,by go_num,HV3.out.1,by show startsB t L=startsB t (L.drop (k+1));rw [HRK.out,Bool.true_and]⟩
    case measure=>omega
  ·have i1:¬ (k:Int)<(n:Int):=by omega
   have HE:Hid (startsB t L=true):=by
    show startsB t L=true
    rw [HR.out,List.drop_of_length_le (by have:=HN.out;omega)];rfl
   go_wp2
   go_ret
   exact ⟨by rw [HE.out];rfl,HS.out⟩
theorem build30v (v:Vd) (w:World):(Instr.build 30 #[(1,.agg (vx v).toArray)]).run Tryz.prog w=.ok (.agg (nc ⟨#[]⟩ v Md.zero (.slice none 0 0))) w:=by
 refine run_build w 30 _ _ ?_
 have hz:∃ z:List Value,(Tryz.prog.info? 30).bind (·.zero)=some (.agg (List.toArray (.string ⟨#[]⟩::(z++(mx Md.zero++[.slice none 0 0])))))∧z.length=35:=⟨vx Vd.zero,by kernel_rfl,by kernel_rfl⟩
 obtain ⟨z,hz,hl⟩:=hz
 have hp:(Tryz.prog.fieldsOf 30).toList.mapM (fun f=>(Tryz.prog.info? f.type).map fun i=>(f.offset,i.size))=some [(0,1),(1,35),(36,4),(40,1)]:=by kernel_rfl
 have hu2:Tryz.prog.underlying 30=some (.struct (Tryz.prog.fieldsOf 30)):=by kernel_rfl
 unfold Program.built
 cases hi:Tryz.prog.info? 30 with
 | none=>rw [hi] at hz;cases hz
 | some it=>
  rw [hi] at hz
  simp only [Option.bind_some] at hz
  simp only [hu2,hz,hp]
  show Instr.fill _ (List.toArray _) _=_
  have hx:=jQ v
  rw [fill_cons _ _ 1 1 35 _ (vx v) _ rfl rfl hx (by simp;omega),Instr.fill]
  simp only [over,nc,hx]
  refine congrArg some (congrArg List.toArray ?_)
  simp only [List.nil_append,List.cons_append,List.drop_succ_cons,List.take_succ_cons,List.take_zero,Nat.reduceAdd]
  rw [List.drop_append,hl,List.drop_of_length_le (by omega)]
  simp
theorem exec_build30v {o:Oper} {a:Act} (x:Operand) (ho:o.op=.build 30 #[(1,x)]) (v:Vd) (X:Array Value) (hX:X=(vx v).toArray) (hx:a.eval x=.agg X) (Z:Array Value) (hZ:nc ⟨#[]⟩ v Md.zero (.slice none 0 0)=Z) (w:World):
  (execOp a.eval o).run Tryz.prog w=.ok (.value (.agg Z)) w:=by
 subst hX hZ
 unfold execOp
 simp only [ho,List.map_toArray,List.map_cons,List.map_nil,hx]
 simp only [Sem.run_bind,build30v,Result.andThen_ok,Sem.run_pure]
theorem qJ:Tryz.prog.built 24 []=some (vx Vd.zero).toArray:=by kernel_rfl
theorem own_zero27:Tryz.prog.built 27 []=some (mx Md.zero).toArray:=by kernel_rfl
def toN (c:Cd):Cn:=⟨cutN c.path,vcV c.old,vcV c.new⟩
def lyE (t:T3) (c:Cd):Int:=if vcV c.old≠Vd.zero then setE t c.path (vcV c.new) Md.zero else if checkE (vcV c.new) Md.zero .nil≠0 then checkE (vcV c.new) Md.zero .nil else putE t (vcV c.new,Md.zero,.nil) c.path
def lyT (t:T3) (c:Cd):T3:=putT t (cutN c.path) (vcV c.new,Md.zero,if vcV c.old≠Vd.zero then kidsAt t (cutN c.path) else .nil)
def TreeTo (t:T3) (E:Int) (r:T3) (w:World) (e:Ending) (w':World):Prop:=∃ u,e=.returned (.tuple #[u,.int .i64 E])∧G w w'∧(E≠0→u=.pointer none)∧(E=0→∃ p',u=.pointer (some ⟨p',0,none⟩)∧T1 w' p' r)∧t=t
theorem lay_any (p:Nat) (t:T3) (c:Cd) (X:Array Value) (hX:cc c=X) (w:World) (ht:T1 w p t) (hr:t.2.2.rises) (hs:c.path.size≤1048576) (hb:t.2.2.size≤150000):
  Calls Tryz.prog 87 #[.pointer (some ⟨p,0,none⟩),.agg X] w (TreeTo t (lyE t c) (lyT t c) w):=by
 obtain ⟨B,hB⟩:∃ B,w.heap.size=B:=⟨_,rfl⟩
 have lv:Ch.Lies (w.alloc (.cells X 66)) B 0 (cc c):=by
  rw [hX,← hB]
  exact jh w X 66
 have hG:G w (w.alloc (.cells X 66)):=G.alloc _ _
 have c0:(w.alloc (.cells X 66)).cell? ⟨B,0,none⟩=some (.string c.path):=lv.path
 have HT:=hid (⟨ht,hr,hb,hs⟩:T1 w p t∧t.2.2.rises∧t.2.2.size≤150000∧c.path.size≤1048576)
 have HO:Hid (Lies (w.alloc (.cells X 66)) B 1 (vx (vcV c.old)).toArray):=by have:=lv.old;rwa [Nat.zero_add] at this
 have HNw:Hid (Lies (w.alloc (.cells X 66)) B 36 (vx (vcV c.new)).toArray):=by have:=lv.new;rwa [Nat.zero_add] at this
 obtain ⟨YO,hYO⟩:∃ Y,(vx (vcV c.old)).toArray=Y:=⟨_,rfl⟩
 obtain ⟨YN,hYN⟩:∃ Y,(vx (vcV c.new)).toArray=Y:=⟨_,rfl⟩
 obtain ⟨ZO,hZO⟩:∃ Y,(vx Vd.zero).toArray=Y:=⟨_,rfl⟩
 have HYO:Hid (YO=(vx (vcV c.old)).toArray∧YO.size=35):=⟨hYO.symm,by rw [← hYO];simp [jQ]⟩
 have HYN:Hid (YN=(vx (vcV c.new)).toArray∧YN.size=35):=⟨hYN.symm,by rw [← hYN];simp [jQ]⟩
 have HZO:Hid (ZO=(vx Vd.zero).toArray):=hZO.symm
 obtain ⟨MZ,hMZ⟩:∃ Y,(mx Md.zero).toArray=Y:=⟨_,rfl⟩
 have HMZ:Hid (MZ=(mx Md.zero).toArray):=hMZ.symm
 have HG:=hid (⟨hG,hB⟩:_∧_)
 have HLV:=hid lv
 rw [hYO] at HO
 rw [hYN] at HNw
 clear lv hYO hYN hZO hMZ ht hr hb hs hX hG
 by_cases ho:vcV c.old=Vd.zero
 case neg=>
  have hE:lyE t c=setE t c.path (vcV c.new) Md.zero:=by unfold lyE;rw [if_pos ho]
  have hT:lyT t c=putT t (cutN c.path) (vcV c.new,Md.zero,kidsAt t (cutN c.path)):=by unfold lyT;rw [if_pos ho]
  rw [hE,hT]
  have C:=hid (set_any p t c.path (vcV c.new) Md.zero YN MZ HYN.out.1 HMZ.out _ (HT.out.1.grow HG.out.1) HT.out.2.1 HT.out.2.2.2 HT.out.2.2.1)
  have HBO:Hid ((!decide (vcV c.old=Vd.zero))=true):=by show (!decide (vcV c.old=Vd.zero))=true;simp [ho]
  clear hE hT ho
  go_enter Tryz.func87,Tryz.ntmps87
  go_upto_region 1 with fail
  try simp only [hB]
  generalize w.alloc (.cells X 66)=w1 at *
  clear hB
  go_wp2_with (first
   | ((with_reducible refine jA (.agg YO) ?_ ?_ ?_);exact jE _ rfl B 1 rfl YO HYO.out.2 HO.out;kernel_rfl)
   | ((with_reducible refine jA (.agg ZO) ?_ ?_ ?_);exact jR 24 rfl ZO (by rw [HZO.out];exact qJ) _;kernel_rfl)
   | ((with_reducible refine jA (.agg MZ) ?_ ?_ ?_);exact jR 27 rfl MZ (by rw [HMZ.out];exact own_zero27) _;kernel_rfl)
   | ((with_reducible refine jA (.bool true) ?_ ?_ ?_);exact jd _ _ rfl YO ZO rfl rfl (vcV c.old) Vd.zero HYO.out.1 HZO.out true HBO.out _;kernel_rfl)
   | ((with_reducible refine jA (.agg YN) ?_ ?_ ?_);exact jE _ rfl B 36 rfl YN HYN.out.2 HNw.out;kernel_rfl)
   | (go_at_call 121;refine C.out.mono ?_;rintro e w2 ⟨u,rfl,q1,q2,q3⟩;have HQ:=hid (⟨HG.out.1.trans q1,q2,q3⟩:_∧_∧_);clear q1 q2 q3))
  go_ret2
  exact ⟨u,rfl,HQ.out.1,HQ.out.2.1,HQ.out.2.2,rfl⟩
 have HBO:Hid ((!decide (vcV c.old=Vd.zero))=false):=by show (!decide (vcV c.old=Vd.zero))=false;simp [ho]
 have hT:lyT t c=putT t (cutN c.path) (vcV c.new,Md.zero,.nil):=by unfold lyT;rw [if_neg (by simpa using ho)]
 obtain ⟨NC,hNC⟩:∃ NC,nc ⟨#[]⟩ (vcV c.new) Md.zero (.slice none 0 0)=NC:=⟨_,rfl⟩
 have HC:Hid (∀ W,G w W→Calls Tryz.prog 29 #[.agg NC] W fun e w'=>∃ u,e=.returned (.tuple #[u,.int .i64 (checkE (vcV c.new) Md.zero .nil)])∧G W w'∧OfResP w' u (checkE (vcV c.new) Md.zero .nil) (vcV c.new) Md.zero .nil):=fun W _=>of_anyP NC ⟨#[]⟩ (vcV c.new) Md.zero .nil W ⟨.slice none 0 0,hNC.symm,none,0,rfl,Nat.le_refl _,.inl rfl⟩ (by decide)
 have HNC:=hid hNC
 obtain ⟨E,hE1⟩:∃ E,checkE (vcV c.new) Md.zero .nil=E:=⟨_,rfl⟩
 have HE1:=hid hE1
 rw [hE1] at HC
 have C1:=hid (HC.out _ HG.out.1)
 by_cases h0:E=0
 case neg=>
  have hE:lyE t c=E:=by unfold lyE;rw [if_neg (by simpa using ho),HE1.out,if_pos h0]
  rw [hE]
  have h1:(E != 0)=true:=by simpa using h0
  have H0:=hid h0
  clear hE hT ho h0 HC hNC hE1
  go_enter Tryz.func87,Tryz.ntmps87
  go_upto_region 1 with fail
  try simp only [hB]
  generalize w.alloc (.cells X 66)=w1 at *
  clear hB
  go_wp2_with (first
   | ((with_reducible refine jA (.agg YO) ?_ ?_ ?_);exact jE _ rfl B 1 rfl YO HYO.out.2 HO.out;kernel_rfl)
   | ((with_reducible refine jA (.agg ZO) ?_ ?_ ?_);exact jR 24 rfl ZO (by rw [HZO.out];exact qJ) _;kernel_rfl)
   | ((with_reducible refine jA (.bool false) ?_ ?_ ?_);exact jd _ _ rfl YO ZO rfl rfl (vcV c.old) Vd.zero HYO.out.1 HZO.out false HBO.out _;kernel_rfl)
   | ((with_reducible refine jA (.agg YN) ?_ ?_ ?_);exact jE _ rfl B 36 rfl YN HYN.out.2 HNw.out;kernel_rfl)
   | ((with_reducible refine jA (.agg NC) ?_ ?_ ?_);exact exec_build30v _ rfl (vcV c.new) YN HYN.out.1 rfl NC HNC.out _;kernel_rfl)
   | (go_at_call 29;refine C1.out.mono ?_;rintro e w2 ⟨u,rfl,q1,q2⟩;have HQ:=hid (HG.out.1.trans q1);clear q1 q2))
  go_ret2
  exact ⟨_,rfl,HQ.out,fun _=>rfl,fun h=>absurd h H0.out,rfl⟩
 subst h0
 have hE:lyE t c=putE t (vcV c.new,Md.zero,.nil) c.path:=by unfold lyE;rw [if_neg (by simpa using ho),HE1.out,if_neg (by simp)]
 rw [hE,hT]
 clear hE hT ho HC hNC hE1
 go_enter Tryz.func87,Tryz.ntmps87
 go_upto_region 1 with fail
 try simp only [hB]
 generalize w.alloc (.cells X 66)=w1 at *
 clear hB
 go_wp2_with (first
  | ((with_reducible refine jA (.agg YO) ?_ ?_ ?_);exact jE _ rfl B 1 rfl YO HYO.out.2 HO.out;kernel_rfl)
  | ((with_reducible refine jA (.agg ZO) ?_ ?_ ?_);exact jR 24 rfl ZO (by rw [HZO.out];exact qJ) _;kernel_rfl)
  | ((with_reducible refine jA (.bool false) ?_ ?_ ?_);exact jd _ _ rfl YO ZO rfl rfl (vcV c.old) Vd.zero HYO.out.1 HZO.out false HBO.out _;kernel_rfl)
  | ((with_reducible refine jA (.agg YN) ?_ ?_ ?_);exact jE _ rfl B 36 rfl YN HYN.out.2 HNw.out;kernel_rfl)
  | ((with_reducible refine jA (.agg NC) ?_ ?_ ?_);exact exec_build30v _ rfl (vcV c.new) YN HYN.out.1 rfl NC HNC.out _;kernel_rfl)
  | (go_at_call 29;refine C1.out.mono ?_;rintro e w2 ⟨u,rfl,q1,q2⟩;obtain ⟨ps,rfl,hps⟩:∃ ps,u=.pointer (some ⟨ps,0,none⟩)∧T1 w2 ps (vcV c.new,Md.zero,.nil):=(by rcases q2 with ⟨q,_⟩ | ⟨_,ps,k,e1,e2,e3,e4,e5⟩;exact absurd rfl q;exact ⟨ps,e1,AtTF.of e2 e4 e5 e3⟩);have HQ:=hid (⟨HG.out.1.trans q1,hps⟩:_∧_);have c2:w2.cell? ⟨B,0,none⟩=some (.string c.path):=q1.cell c0;have C2:=put_any (P:=fun _=>True) (R:=Tr w2) p ps t (vcV c.new,Md.zero,.nil) c.path w2 (HT.out.1.grow HQ.out.1) HQ.out.2 HT.out.2.1 HT.out.2.2.2 (by have:=HT.out.2.2.1;show t.2.2.size+0≤300000;omega) (fun _ _=>trivial);clear q1 q2 hps)
  | (go_at_call 122;refine C2.mono ?_;rintro e w3 ⟨u2,rfl,q1,q2,q3⟩;have HF:=hid (⟨HQ.out.1.trans q1,q2,fun h=>(q3 h).imp fun _ h=>⟨h.1,h.2.joinT q1⟩⟩:_∧_∧(_→∃ p',_∧T1 w3 p' _));clear q1 q2 q3))
 go_ret2
 exact ⟨u2,rfl,HF.out.1,HF.out.2.1,HF.out.2.2,rfl⟩
theorem putT_le:∀ {t:T3} {L:List ByteArray} {s x:T3},t.2.2.rises→dn t L=some x→s.2.2.size≤x.2.2.size→(putT t L s).2.2.size≤t.2.2.size
 | t,[],s,x,_,h,hs=>by cases h;exact hs
 | t,nm::L,s,x,ht,h,hs=>by
  rw [dn] at h
  cases e:t.2.2.get nm with
  | none=>rw [e] at h;cases h
  | some y=>
   rw [e,Option.bind_some] at h
   rw [putT,e,Option.getD_some]
   exact F.put_le ht e (putT_le (F.rises_get ht e).1 h hs)
theorem putT_size1:∀ {t:T3} {L:List ByteArray} {s:T3},t.2.2.rises→wayTo t L→(putT t L s).2.2.size≤t.2.2.size+s.2.2.size+1
 | t,[],s,_,_=>by rw [putT];omega
 | t,nm::L,s,ht,hw=>by
  rw [putT]
  cases e:t.2.2.get nm with
  | some y=>
   rw [Option.getD_some]
   have hw2:wayTo y L:=by
    rcases hw with rfl | ⟨s',q1,q2⟩
    ·trivial
    ·rw [e] at q1;cases q1;exact q2
   have h1:=F.put_get (nm:=nm) (v:=(putT y L s).1) (m:=(putT y L s).2.1) (fk:=(putT y L s).2.2) ht
   have h2:=putT_size1 (s:=s) (F.rises_get ht e).1 hw2
   rw [e] at h1
   simp only at h1 ⊢
   omega
  | none=>
   obtain rfl:L=[]:=by
    rcases hw with rfl | ⟨s',q1,_⟩
    ·rfl
    ·rw [e] at q1;cases q1
   rw [Option.getD_none,putT]
   exact F.put_size _
theorem kidsAt_rises {t:T3} {L:List ByteArray} (h:t.2.2.rises):(kidsAt t L).rises:=by
 unfold kidsAt
 cases e:dn t L with
 | none=>trivial
 | some x=>exact (dn_rises h e).1
theorem setE_dn {t:T3} {s:ByteArray} {v:Vd} {m:Md} (h:setE t s v m=0):wayE t s=0∧∃ x,dn t (cutN s)=some x:=by
 unfold setE at h
 by_cases h0:wayE t s=0
 ·rw [if_neg (by simpa using h0)] at h
  cases e:dn t (cutN s) with
  | none=>rw [e] at h;cases h
  | some x=>exact ⟨h0,x,rfl⟩
 ·rw [if_pos h0] at h;exact absurd h h0
theorem lyT_rises {t:T3} {c:Cd} (h:t.2.2.rises):(lyT t c).2.2.rises:=by
 unfold lyT
 refine putT_rises h ?_
 split
 ·exact kidsAt_rises h
 ·trivial
theorem lyT_size {t:T3} {c:Cd} (h:t.2.2.rises) (he:lyE t c=0):(lyT t c).2.2.size≤t.2.2.size+1:=by
 unfold lyE at he
 unfold lyT
 by_cases ho:vcV c.old=Vd.zero
 ·rw [if_neg (by simpa using ho)] at he ⊢
  by_cases h1:checkE (vcV c.new) Md.zero .nil=0
  ·rw [if_neg (by simpa using h1)] at he
   have:=putT_size1 (s:=(vcV c.new,Md.zero,F.nil)) h (wayE_ok (putE_ok he).1).2
   simpa [F.size] using this
  ·rw [if_pos h1] at he;exact absurd he h1
 ·rw [if_pos ho] at he ⊢
  obtain ⟨_,x,hx⟩:=setE_dn he
  have:=putT_le (s:=(vcV c.new,Md.zero,kidsAt t (cutN c.path))) h hx (by unfold kidsAt;rw [hx];exact Nat.le_refl _)
  omega
def ldM:T3→List Cd→Option T3
 | t,[]=>some t
 | t,c::L=>if vcV c.new=Vd.zero then ldM t L else if lyE t c≠0 then none else ldM (lyT t c) L
def OptTo (o:Option T3) (w:World) (e:Ending) (w':World):Prop:=∃ u E,e=.returned (.tuple #[u,.int .i64 E])∧G w w'∧match o with
 | none=>E≠0
 | some r=>E=0∧∃ p',u=.pointer (some ⟨p',0,none⟩)∧T1 w' p' r
theorem laid_any (p:Nat) (t:T3) (ao:Option Addr) (cp:Nat) (L:List Cd) (w:World) (ht:T1 w p t) (hr:t.2.2.rises) (h:HasA w (.slice ao L.length cp) L) (hn:L.length≤50000) (hb:t.2.2.size≤50000) (hp:∀ c∈L,c.path.size≤1048576):
  Calls Tryz.prog 41 #[.pointer (some ⟨p,0,none⟩),.slice ao L.length cp] w (OptTo (ldM t L) w):=by
 obtain ⟨n,hn'⟩:∃ n,L.length=n:=⟨_,rfl⟩
 have HA:=hid h
 have HN:=hid hn'
 have HP:=hid hp
 obtain ⟨R,hR⟩:∃ R,ldM t L=R:=⟨_,rfl⟩
 have H0:Hid (T1 w p t∧t.2.2.rises∧t.2.2.size≤50000+0∧R=ldM t (L.drop 0)):=⟨ht,hr,hb,by rw [List.drop_zero,hR]⟩
 rw [hR]
 rw [hn'] at hn HA ⊢
 clear h hn' hp ht hr hb hR
 go_enter Tryz.func41,Tryz.ntmps41
 go_wp2
 go_loopg [0,11] n (fun gh p0 i wr=>∃ (k pk:Nat) (tk:T3),k≤n∧gh=n-k∧p0=.pointer (some ⟨pk,0,none⟩)∧i=.int .i64 (k:Int)∧Hid (G w wr)∧Hid (T1 wr pk tk∧tk.2.2.rises∧tk.2.2.size≤50000+k∧R=ldM tk (L.drop k)))
 case atStart=>exact ⟨0,p,t,Nat.zero_le _,rfl,rfl,rfl,G.refl _,H0⟩
 case round=>
  clear H0
  obtain ⟨k,pk,tk,hk,rfl,rfl,rfl,HS,HT⟩:=hrel
  by_cases hlt:k<n
  ·have i1:(k:Int)<(n:Int):=by omega
   have i0:(0:Int)≤(k:Int):=by omega
   obtain ⟨r,hx⟩:∃ r,L[k]?=some r:=⟨L[k]'(by rw [HN.out];exact hlt),by simp⟩
   obtain ⟨ga,oa,rfl,la⟩:=(HA.out.below HS.out).at hx
   have hs:=HP.out r (List.mem_of_getElem? hx)
   have HRK:Hid (R=ldM tk (r::L.drop (k+1))):=by
    show R=_
    have hlt':=(List.getElem?_eq_some_iff.1 hx).1
    rw [HT.out.2.2.2,List.drop_eq_getElem_cons hlt',(List.getElem?_eq_some_iff.1 hx).2]
   obtain ⟨B1,hB1⟩:∃ B1,wr.heap.size=B1:=⟨_,rfl⟩
   obtain ⟨g1,lv,hA1⟩:=cvar wr r B1 hB1
   obtain ⟨X,hX⟩:∃ X,cc r=X:=⟨_,rfl⟩
   have HX:Hid (X.size=71∧X.all (·.oneCell')=true∧cc r=X):=⟨by rw [← hX];exact jl r,by rw [← hX];exact cc_one r,hX⟩
   have HLa:Hid (Ch.Lies wr ga (oa+k*71) (cc r)):=la
   rw [hX] at HLa g1 lv
   obtain ⟨w1,hw1⟩:∃ w1,(wr.alloc (.cells z55 66)).setRow B1 X=w1:=⟨_,rfl⟩
   rw [hw1] at g1 lv
   have HLX:Hid (Ch.Lies w1 B1 0 X):=lv
   rw [← hX] at lv
   have HA1:=hid hA1
   have HW1:=hid hw1
   have HS1:Hid (G w w1∧G wr w1):=⟨HS.out.trans g1,g1⟩
   have HNw:Hid (Lies w1 B1 36 (vx (vcV r.new)).toArray):=by have:=lv.new;rwa [Nat.zero_add] at this
   obtain ⟨YN,hYN⟩:∃ Y,(vx (vcV r.new)).toArray=Y:=⟨_,rfl⟩
   obtain ⟨ZO,hZO⟩:∃ Y,(vx Vd.zero).toArray=Y:=⟨_,rfl⟩
   have HYN:Hid (YN=(vx (vcV r.new)).toArray∧YN.size=35):=⟨hYN.symm,by rw [← hYN];simp [jQ]⟩
   have HZO:Hid (ZO=(vx Vd.zero).toArray):=hZO.symm
   rw [hYN] at HNw
   clear la lv g1 hw1 hA1 hX hx hYN hZO
   go_upto_region 4 with (first
    | ((with_reducible refine jA (.agg X) ?_ ?_ ?_);exact Ch.exec_load 66 _ rfl ga (oa+k*71) rfl X _ HLa.out Ch.under55 rfl (by rw [Ch.size55,HX.out.1]);kernel_rfl)
    | ((with_reducible refine jJ (.pointer (some ⟨B1,0,none⟩)) (wr.alloc (.cells z55 66)) ?_ ?_ ?_);exact Ch.exec_allocT 66 z55 rfl zero55 _ _ hB1;kernel_rfl)
    | ((with_reducible refine jP w1 ?_ ?_ ?_);exact (by rw [← HW1.out];exact Ch.exec_storeT 66 _ _ rfl B1 X z55 rfl rfl _ HA1.out (by rw [Ch.size55,HX.out.1]) (by rw [z55_size,HX.out.1]) HX.out.2.1);kernel_rfl))
   by_cases hz:vcV r.new=Vd.zero
   ·have HBO:Hid (decide (vcV r.new=Vd.zero)=true):=by show decide (vcV r.new=Vd.zero)=true;simp [hz]
    have HE:Hid (R=ldM tk (L.drop (k+1))):=by
     show R=_
     rw [HRK.out,ldM,if_pos hz]
    clear hz HRK
    go_wp2_with (first
     | ((with_reducible refine jA (.agg YN) ?_ ?_ ?_);exact jE _ rfl B1 36 rfl YN HYN.out.2 HNw.out;kernel_rfl)
     | ((with_reducible refine jA (.agg ZO) ?_ ?_ ?_);exact jR 24 rfl ZO (by rw [HZO.out];exact qJ) _;kernel_rfl)
     | ((with_reducible refine jA (.bool true) ?_ ?_ ?_);exact exec_eq24' _ _ rfl YN ZO rfl rfl (vcV r.new) Vd.zero HYN.out.1 HZO.out true HBO.out _;kernel_rfl))
    go_roundg (n-(k+1))
    case measure=>omega
    case rel=>exact ⟨k+1,pk,tk,by omega,rfl,rfl,by go_num,HS1.out.1,HT.out.1.grow HS1.out.2,HT.out.2.1,by have:=HT.out.2.2.1;omega,HE.out⟩
   ·have HBO:Hid (decide (vcV r.new=Vd.zero)=false):=by show decide (vcV r.new=Vd.zero)=false;simp [hz]
    have CL:=hid (lay_any pk tk r X HX.out.2.2 w1 (HT.out.1.grow HS1.out.2) HT.out.2.1 hs (by have:=HT.out.2.2.1;omega))
    have hRn:R=if lyE tk r≠0 then none else ldM (lyT tk r) (L.drop (k+1)):=by rw [HRK.out,ldM,if_neg hz]
    obtain ⟨E,hE⟩:∃ E,lyE tk r=E:=⟨_,rfl⟩
    have HE:=hid hE
    rw [hE] at CL hRn
    have HRn:=hid hRn
    clear hz HRK hE hRn
    by_cases h0:E=0
    ·subst h0
     have HR2:Hid (R=ldM (lyT tk r) (L.drop (k+1))):=by
      show R=_
      rw [HRn.out,if_neg (by simp)]
     clear HRn
     go_wp2_with (first
      | ((with_reducible refine jA (.agg YN) ?_ ?_ ?_);exact jE _ rfl B1 36 rfl YN HYN.out.2 HNw.out;kernel_rfl)
      | ((with_reducible refine jA (.agg ZO) ?_ ?_ ?_);exact jR 24 rfl ZO (by rw [HZO.out];exact qJ) _;kernel_rfl)
      | ((with_reducible refine jA (.bool false) ?_ ?_ ?_);exact exec_eq24' _ _ rfl YN ZO rfl rfl (vcV r.new) Vd.zero HYN.out.1 HZO.out false HBO.out _;kernel_rfl)
      | ((with_reducible refine jA (.agg X) ?_ ?_ ?_);exact Ch.exec_load 66 _ rfl B1 0 rfl X _ HLX.out Ch.under55 rfl (by rw [Ch.size55,HX.out.1]);kernel_rfl)
      | (go_at_call 87;refine CL.out.mono ?_;rintro e w2 ⟨u,rfl,q1,_,q3,_⟩;obtain ⟨p2,rfl,hp2⟩:=q3 rfl;have HQ:=hid (⟨HS1.out.1.trans q1,hp2⟩:_∧_);clear q1 q3 hp2))
     go_roundg (n-(k+1))
     case measure=>omega
     case rel=>exact ⟨k+1,p2,lyT tk r,by omega,rfl,rfl,by go_num,HQ.out.1,HQ.out.2,lyT_rises HT.out.2.1,by have:=HT.out.2.2.1;have:=lyT_size HT.out.2.1 HE.out;omega,HR2.out⟩
    ·have h1:(E != 0)=true:=by simpa using h0
     have HR2:Hid (R=none∧E≠0):=⟨by rw [HRn.out,if_pos h0],h0⟩
     clear HRn h0
     go_wp2_with (first
      | ((with_reducible refine jA (.agg YN) ?_ ?_ ?_);exact jE _ rfl B1 36 rfl YN HYN.out.2 HNw.out;kernel_rfl)
      | ((with_reducible refine jA (.agg ZO) ?_ ?_ ?_);exact jR 24 rfl ZO (by rw [HZO.out];exact qJ) _;kernel_rfl)
      | ((with_reducible refine jA (.bool false) ?_ ?_ ?_);exact exec_eq24' _ _ rfl YN ZO rfl rfl (vcV r.new) Vd.zero HYN.out.1 HZO.out false HBO.out _;kernel_rfl)
      | ((with_reducible refine jA (.agg X) ?_ ?_ ?_);exact Ch.exec_load 66 _ rfl B1 0 rfl X _ HLX.out Ch.under55 rfl (by rw [Ch.size55,HX.out.1]);kernel_rfl)
      | (go_at_call 87;refine CL.out.mono ?_;rintro e w2 ⟨u,rfl,q1,_,_,_⟩;have HQ:=hid (HS1.out.1.trans q1);clear q1))
     go_ret2
     exact ⟨_,_,rfl,HQ.out,by rw [HR2.out.1];exact HR2.out.2⟩
  ·have i1:¬ (k:Int)<(n:Int):=by omega
   have HE:Hid (R=some tk):=by
    show R=_
    rw [HT.out.2.2.2,List.drop_of_length_le (by have:=HN.out;omega)];rfl
   go_wp2
   go_ret2
   exact ⟨_,_,rfl,HS.out,by rw [HE.out];exact ⟨rfl,pk,rfl,HT.out.1⟩⟩
end Go.Proofs.YthfcanpkhjgomaaGreat
namespace Go.Proofs.YthfcanpkhjgomaaGreat.Ch
open Go.RowKit
section
variable {α:Type} {P:Program} {ops:Array Oper} {Q:Exit→Act→World→Prop} {V:α→Nat→Value} {t0 t:Array Value} {done:Nat→Bool} {Mem:α→(Nat→Bool)→World→Prop}
def IE (ops:Array Oper) (V:α→Nat→Value) (t0:Array Value) (Mem:α→(Nat→Bool)→World→Prop) (done:Nat→Bool) (a:Act) (w:World):Prop:=∃ r,IV ops (V r) t0 (Mem r) done a w
theorem Slots.re {V V':Nat→Value} (h:Slots ops V t0 t done) (he:∀ k,done k=true→V' k=V k):Slots ops V' t0 t done:=by
 obtain ⟨h1,h2,h3⟩:=h
 refine ⟨h1,h2,?_⟩
 intro i o d ho hd hi
 rw [he i hi]
 exact h3 i o d ho hd hi
theorem jK {i d:Nat} {o:Oper} {w w':World} (r:α) (hB:dstB ops t0.size=true) (ho:ops[i]?=some o) (hg:Region.wanted o (yielded ops t)=true) (hd:o.dst=some d) (hs:Slots ops (V r) t0 t done) (hM:Mem r (upd done i) w') (hrun:(execOp (Act.mk t []).eval o).run P w=.ok (.value (V r i)) w'):wpOp P ops Q i (IE ops V t0 Mem (upd done i)) ⟨t,[]⟩ w:=by
 unfold wpOp
 rw [ho]
 simp only
 rw [if_pos hg]
 left
 unfold Oper.wp
 rw [hrun,Oper.upon_value,hd]
 exact ⟨r,_,rfl,hs.put hB ho hd,hM⟩
theorem ie_store {i:Nat} {o:Oper} {w w':World} (r:α) (ho:ops[i]?=some o) (hg:Region.wanted o (yielded ops t)=true) (hd:o.dst=none) (hs:Slots ops (V r) t0 t done) (hM:Mem r (upd done i) w') (hrun:(execOp (Act.mk t []).eval o).run P w=.ok .skip w'):wpOp P ops Q i (IE ops V t0 Mem (upd done i)) ⟨t,[]⟩ w:=by
 unfold wpOp
 rw [ho]
 simp only
 rw [if_pos hg]
 left
 unfold Oper.wp
 rw [hrun,Oper.upon_skip,hd]
 exact ⟨r,_,rfl,hs.skip ho hd,hM⟩
theorem qI {i d:Nat} {o:Oper} {w:World} (r:α) (f:FuncId) (args:Array Value) (hB:dstB ops t0.size=true) (ho:ops[i]?=some o) (hg:Region.wanted o (yielded ops t)=true) (hd:o.dst=some d) (hs:Slots ops (V r) t0 t done) (hrun:(execOp (Act.mk t []).eval o).run P w=.ok (.enter f args) w)
  (hC:Calls P f args w fun e w'=>∃ r',e=.returned (V r' i)∧(∀ k,done k=true→V r' k=V r k)∧Mem r' (upd done i) w'):wpOp P ops Q i (IE ops V t0 Mem (upd done i)) ⟨t,[]⟩ w:=by
 unfold wpOp
 rw [ho]
 simp only
 rw [if_pos hg]
 left
 unfold Oper.wp
 rw [hrun]
 refine Calls.mono hC ?_
 rintro e w' ⟨r',rfl,he,hM⟩
 rw [hd]
 exact ⟨r',_,rfl,(hs.re he).put hB ho hd,hM⟩
end
section
variable {α:Type} {F:Fence} {n0:Nat} {P:Program} {ops:Array Oper} {Q:Exit→Act→World→Prop} {V:α→Nat→Value} {t0 t:Array Value} {done:Nat→Bool} {Mem:α→(Nat→Bool)→World→Prop}
theorem ie_valI {i d:Nat} {o:Oper} {w w':World} (r:α) (hF:∀ f,F.fn f) (hB:dstB ops t0.size=true) (ho:ops[i]?=some o) (hg:Region.wanted o (yielded ops t)=true) (hd:o.dst=some d) (hs:Slots ops (V r) t0 t done) (hn:∀ c,o.op≠.defer c) (hM:Mem r (upd done i) w') (hrun:(execOp (Act.mk t []).eval o).run P w=.ok (.value (V r i)) w'):wpOpIn F n0 P ops Q i (IE ops V t0 Mem (upd done i)) ⟨t,[]⟩ w:=by
 unfold wpOpIn
 rw [ho]
 simp only
 rw [if_pos hg]
 refine ⟨fun f _=>hF f,?_⟩
 rw [Oper.semAt_plain _ _ _ hn,hrun,Oper.uponIn_value,hd]
 exact ⟨r,_,rfl,hs.put hB ho hd,hM⟩
theorem ie_skipI {i d:Nat} {o:Oper} {w:World} (r:α) (hF:∀ f,F.fn f) (hB:dstB ops t0.size=true) (ho:ops[i]?=some o) (hg:Region.wanted o (yielded ops t)=false) (hd:o.dst=some d) (hs:Slots ops (V r) t0 t done) (hM:Mem r (upd done i) w) (hV:V r i=undef):wpOpIn F n0 P ops Q i (IE ops V t0 Mem (upd done i)) ⟨t,[]⟩ w:=by
 unfold wpOpIn
 rw [ho]
 simp only
 rw [if_neg (by rw [hg];simp),hd]
 have:=hs.put hB ho hd
 rw [hV] at this
 exact ⟨fun f _=>hF f,r,_,rfl,this,hM⟩
end
end Go.Proofs.YthfcanpkhjgomaaGreat.Ch
namespace Go.Proofs.YthfcanpkhjgomaaGreat
open Go.RowKit Ch
structure Kp (S:Nat→Prop) (w w':World):Prop where
 os:w'.os=w.os
 tape:w'.tape=w.tape
 output:w'.output=w.output
 size:w.heap.size≤w'.heap.size
 block:∀ b,b<w.heap.size→¬ S b→w'.heap[b]?=w.heap[b]?
theorem Kp.trans {S S':Nat→Prop} {w w1 w2:World} (h:Kp S w w1) (k:Kp S' w1 w2) (hs:∀ b,b<w.heap.size→S' b→S b):Kp S w w2:=
 ⟨k.os.trans h.os,k.tape.trans h.tape,k.output.trans h.output,Nat.le_trans h.size k.size,fun b hb hn=>(k.block b (Nat.lt_of_lt_of_le hb h.size) fun e=>hn (hs b hb e)).trans (h.block b hb hn)⟩
theorem Kp.mono {S S':Nat→Prop} {w w1:World} (h:Kp S w w1) (hs:∀ b,b<w.heap.size→S b→S' b):Kp S' w w1:=⟨h.os,h.tape,h.output,h.size,fun b hb hn=>h.block b hb fun e=>hn (hs b hb e)⟩
theorem Kp.of {S:Nat→Prop} {w w1:World} (h:Below w.heap.size w w1):Kp S w w1:=⟨h.os,h.tape,h.output,h.size,fun b hb _=>h.block b hb⟩
theorem Kp.below {S:Nat→Prop} {B:Nat} {w w1:World} (h:Kp S w w1) (hB:B≤w.heap.size) (hs:∀ b,S b→B≤b):Below B w w1:=⟨h.os,h.tape,h.output,h.size,fun b hb=>h.block b (by omega) fun e=>by have:=hs b e;omega⟩
theorem Kp.refl (S:Nat→Prop) (w:World):Kp S w w:=Kp.of (Below.refl _ _)
theorem Kp.grown {w w1:World} {row:Option Nat} (h:w.grownBy w1 row):Kp (fun b=>row=some b) w w1:=⟨h.os,h.tape,h.output,h.size,fun b hb hn=>h.block b hb fun e=>hn e.symm⟩
theorem Kp.set (w:World) (b o:Nat) (u:Value):Kp (fun c=>c=b) w (w.setCell ⟨b,o,none⟩ u):=⟨rfl,rfl,rfl,by simp,fun c _ hn=>Below.heap_setCell w ⟨b,o,none⟩ u c hn⟩
abbrev Ys:=Bool→List Cd→(Nat→Prop)→World→Prop
structure Yd (lo:Nat) (J:Ys):Prop where
 keep:∀ {g pre M W W'} (S:Nat→Prop),J g pre M W→Kp S W W'→(∀ b,S b→¬ M b)→(∀ b,S b→lo≤b)→J g pre M W'
 own:∀ {g pre M W b},J g pre M W→M b→lo≤b∧∃ o:Obj,W.heap[b]?=some o∧o.isCells=true
theorem Yd.lt {lo:Nat} {J:Ys} (h:Yd lo J) {g pre M W b} (hj:J g pre M W) (hb:M b):b<W.heap.size:=by
 obtain ⟨_,o,ho,_⟩:=h.own hj hb
 exact (Array.getElem?_eq_some_iff.1 ho).1
theorem Yd.up {lo:Nat} {J:Ys} (h:Yd lo J) {g pre M W W'} (hj:J g pre M W) (hb:Below W.heap.size W W'):J g pre M W':=h.keep (fun _=>False) hj (Kp.of hb) (fun _ e=>e.elim) (fun _ e=>e.elim)
end Go.Proofs.YthfcanpkhjgomaaGreat
namespace Go.Proofs.YthfcanpkhjgomaaGreat
open Go.RowKit Go.Shelf
def SeqAt {α:Type} (F:Fence) (n:Nat) (P:Program) (g:Nat) (lb:Array Value) (encs:α→Array Value) (Kq:World→World→Prop) (S Sp:List α→Prop) (w:World):Prop:=
 ∀ (l:Nat) (J Jx:List α→World→Prop) (W:World),Below w.heap.size w W→AbidesFrom W.heap.size J→AbidesFrom W.heap.size Jx→
  (∀ pre x W1,J pre W1→Sp (pre++[x])→YieldAt F (n-1) P l (encs x) W1 fun e W'=>(e=.returned (.bool true)∧J (pre++[x]) W'∧Kq W1 W')∨(e=.returned (.bool false)∧Jx (pre++[x]) W'))→
  J [] W→CallsIn F n P g (#[.func (.yield l) #[] #[]]++lb) W fun e W'=>(∃ v,e=.returned v)∧((∃ xs,S xs∧J xs W')∨(∃ pre,Sp pre∧Jx pre W'))
open Ch
attribute [local go_sem] Oper.semAt_some
def revs (N:Nat):List Nat:=(List.range N).reverse
abbrev ixs {N:Nat} (ys:List (Fin N)):List Nat:=ys.map fun x=>x.1
theorem revs_take {N n:Nat} (h:n<N):(revs N).take (n+1)=(revs N).take n++[N-1-n]:=by
 have h1:(revs N)[n]?=some (N-1-n):=by
  unfold revs
  rw [List.getElem?_reverse (by simpa using h),List.length_range,List.getElem?_range (by omega)]
 rw [List.take_add_one,h1];rfl
def KeepB (Bs gr:Nat) (W W':World):Prop:=W'.heap[Bs]?=W.heap[Bs]?∧W'.heap[gr]?=W.heap[gr]?
theorem keepB_t {Bs gr:Nat} {A B C:World} (h:KeepB Bs gr A B) (k:KeepB Bs gr B C):KeepB Bs gr A C:=⟨k.1.trans h.1,k.2.trans h.2⟩
def iP (v:Value):Nat:=match v with | .int _ i=>(i+1).toNat | _=>0
theorem backF_any (ao:Option Addr) (N cap:Nat) (w:World):
  Calls Tryz.prog 83 #[.slice ao N cap] w fun e w'=>e=.returned (.func (.func 116) #[] #[.pointer (some ⟨w.heap.size,0,none⟩)])∧w'=w.alloc (.cells #[.slice ao N cap] 31):=by
 have hmf:∀ (fn:Fn) (first cap:Array Value) (w:World),(Instr.makeFunc fn first cap).run Tryz.prog w=.ok (.func fn first cap) w:=fun _ _ _ _=>rfl
 go_enter Tryz.func83,Tryz.ntmps83
 go_wp2
 go_ret
 exact ⟨rfl,rfl⟩
def encB (L:List Cd) (N:Nat) (i:Fin N):Array Value:=#[.int .i64 (i.1:Int),.agg (cc (L.getD i.1 (chP ⟨#[]⟩)))]
theorem back_at (n0:Nat) (hn0:1≤n0) (Bs ga oa N cp:Nat) (ao:Option Addr) (L:List Cd) (hN:L.length=N) (hN2:N≤1048576) (w:World) (hB:w.cell? ⟨Bs,0,none⟩=some (.slice ao N cp)) (hBs:Bs<w.heap.size) (hga:N=0∨(ao=some ⟨ga,oa,none⟩∧ga<w.heap.size)) (hL:∀ i x,L[i]?=some x→Ch.Lies w ga (oa+i*71) (cc x)):
  SeqAt Fence.wide n0 Tryz.prog 116 #[.pointer (some ⟨Bs,0,none⟩)] (encB L N) (KeepB Bs ga) (fun ys=>ixs ys=revs N) (fun ys=>ixs ys <+: revs N) w:=by
 intro l J Jx W hbel hJ hJx hY h0
 have HL:Hid (∀ (i:Nat) x,L[i]?=some x→N≠0→Ch.Lies W ga (oa+i*71) (cc x)):=fun i x hx _ j u hj=>(World.cell?_of_block (a:=⟨ga,oa+i*71+j,none⟩) (hbel.block ga (by rcases hga with h | ⟨_,h⟩;omega;exact h))).trans (hL i x hx j u hj)
 have hc1:W.cell? ⟨Bs,0,none⟩=some (.slice ao N cp):=(World.cell?_of_block (a:=⟨Bs,0,none⟩) (hbel.block Bs hBs)).trans hB
 have HN:=hid hN
 clear hL hB hN
 refine callsIn_of_wp Tryz.func116 rfl trivial ?_ rfl
 simp only [Tryz.ntmps116,List.size_toArray,List.length_cons,List.length_nil,Nat.reduceAdd,Nat.reduceSub,Array.replicate_succ,Array.replicate_zero,List.push_toArray,List.append_toArray,List.nil_append,List.cons_append]
 gi_wp2
 gi_loopw [3] (fun x wr=>∃ (m:Nat) (ys:List (Fin N)),x=.int .i64 ((N:Int)-1-(m:Int))∧m≤N∧wr.cell? ⟨Bs,0,none⟩=some (.slice ao N cp)∧Hid (J ys wr∧ixs ys=(revs N).take m∧(wr.heap[ga]?=W.heap[ga]?))) (fun x _=>iP x)
 case atStart=>exact ⟨0,[],by go_num,Nat.zero_le _,hc1,h0,by simp,rfl⟩
 case round=>
  obtain ⟨m,ys,rfl,hmN,hcb,HI⟩:=hrel
  by_cases hlt:m<N
  ·obtain ⟨i,hi⟩:∃ i,N-1-m=i:=⟨_,rfl⟩
   have hiN:i<N:=by omega
   have hI:(N:Int)-1-(m:Int)=(i:Int):=by omega
   rw [hI]
   have hao:ao=some ⟨ga,oa,none⟩:=by rcases hga with h | h;omega;exact h.1
   subst hao
   obtain ⟨r,hx⟩:∃ r,L[i]?=some r:=⟨L[i]'(by rw [HN.out];exact hiN),by simp⟩
   have HLI:Hid (Ch.Lies wr ga (oa+i*71) (cc r)):=fun j u hj=>(World.cell?_of_block (a:=⟨ga,oa+i*71+j,none⟩) HI.out.2.2).trans (HL.out i r hx (by omega) j u hj)
   have HS:Hid (ixs (ys++[⟨i,hiN⟩])=(revs N).take (m+1)):=by
    show _=_
    rw [revs_take hlt,← HI.out.2.1,hi];simp
   obtain ⟨fn,tmps,assign,body,hy,hR⟩:=hY ys ⟨i,hiN⟩ _ HI.out.1 (by rw [HS.out];exact List.take_prefix _ _)
   have he:encB L N ⟨i,hiN⟩=#[.int .i64 (i:Int),.agg (cc r)]:=by unfold encB;simp [List.getD,hx]
   rw [he] at hy
   obtain ⟨X,hX⟩:∃ X,cc r=X:=⟨_,rfl⟩
   have HX:Hid (X.size=71):=by show X.size=71;rw [← hX];exact jl r
   rw [hX] at hy HLI
   have HG:Hid (wr.heap[ga]?=W.heap[ga]?):=HI.out.2.2
   have i1:(0:Int)≤(i:Int):=by omega
   have i2:(i:Int)<(N:Int):=by omega
   clear HI hX hx he
   gi_wp2_with ((with_reducible refine jT (.agg X) wr ?_ ?_ ?_ ?_ ?_);rfl;exact Ch.exec_load 66 _ rfl ga (oa+i*71) rfl X _ HLI.out Ch.under55 rfl (by rw [Ch.size55,HX.out]);(intro c h;cases h);exact fun _ _=>trivial)
   refine hR.mono ?_
   rintro e W3 (⟨rfl,hJ3,hk3⟩ | ⟨rfl,hJx3⟩)
   ·have c3:W3.cell? ⟨Bs,0,none⟩=some (.slice (some ⟨ga,oa,none⟩) N cp):=(World.cell?_of_block (a:=⟨Bs,0,none⟩) hk3.1).trans hcb
    have HJ3:Hid (J (ys++[⟨i,hiN⟩]) W3∧W3.heap[ga]?=W.heap[ga]?):=⟨hJ3,hk3.2.trans HG.out⟩
    clear hJ3 hk3 hR hy
    gi_wp2
    go_roundw
    case rel=>exact ⟨m+1,_,by go_num,by omega,c3,HJ3.out.1,HS.out,HJ3.out.2⟩
    case measure=>simp [iP]
   ·have HX3:Hid (Jx (ys++[⟨i,hiN⟩]) W3):=hJx3
    have PRE:Hid (ixs (ys++[⟨i,hiN⟩]) <+: revs N):=by
     show _ <+: _
     rw [HS.out];exact List.take_prefix _ _
    clear hJx3 hR hy
    gi_wp2
    refine bodyPost_ret (results_none rfl _ _ _) rfl ?_
    exact ⟨⟨_,rfl⟩,.inr ⟨_,PRE.out,HX3.out⟩⟩
  ·have hm2:m=N:=by omega
   subst hm2
   have HE:Hid (∃ ys:List (Fin m),ixs ys=revs m∧J ys wr):=⟨ys,by rw [HI.out.2.1,List.take_of_length_le (by simp [revs])],HI.out.1⟩
   have hI:(m:Int)-1-(m:Int)=-1:=by omega
   rw [hI]
   clear HI
   gi_wp2
   exact ⟨rfl,_,results_none rfl _ _ _,⟨_,rfl⟩,.inl HE.out⟩
end Go.Proofs.YthfcanpkhjgomaaGreat
namespace Go.Proofs.YthfcanpkhjgomaaGreat.Ch
open Go.RowKit
def Bx (w:World) (b t:Nat) (v:Value):Prop:=w.heap[b]?=some (.cells #[v] t (0,0))
theorem Bx.cell {w:World} {b t:Nat} {v:Value} (h:Bx w b t v):w.cell? ⟨b,0,none⟩=some v:=cell_of_row _ _ 0 _ _ _ h
theorem Bx.frozen {w:World} {b t:Nat} {v:Value} (h:Bx w b t v):w.frozen? ⟨b,0,none⟩=false:=by simp [World.frozen?,show w.heap[b]?=_ from h]
theorem Bx.set {w:World} {b t:Nat} {v:Value} (h:Bx w b t v) (u:Value):Bx (w.setCell ⟨b,0,none⟩ u) b t u:=by
 unfold Bx at *
 simp only [World.setCell,Array.getElem?_modify,if_true,h]
 rfl
theorem Bx.other {w:World} {b b' t:Nat} {v u:Value} (h:Bx w b t v) (hn:b≠b'):Bx (w.setCell ⟨b',0,none⟩ u) b t v:=(Below.heap_setCell w ⟨b',0,none⟩ u b hn).trans h
end Go.Proofs.YthfcanpkhjgomaaGreat.Ch
namespace Go.Proofs.YthfcanpkhjgomaaGreat
open Go.RowKit Ch
def dropE (t:T3) (s:ByteArray):Int:=if wayE t s≠0 then wayE t s else if cutN s=[] then 46 else if dn t (cutN s)=none then 45 else 0
def OneTo (E:Int) (r:T3) (w:World) (e:Ending) (w':World):Prop:=∃ u,e=.returned (.tuple #[u,.int .i64 E])∧G w w'∧(E≠0→u=.pointer none)∧(E=0→∃ p',u=.pointer (some ⟨p',0,none⟩)∧T1 w' p' r)
theorem drop_any (p:Nat) (t:T3) (s:ByteArray) (w:World) (ht:T1 w p t) (hr:t.2.2.rises) (hs:s.size≤1048576) (hb:t.2.2.size≤150000):
  Calls Tryz.prog 86 #[.pointer (some ⟨p,0,none⟩),.string s] w (OneTo (dropE t s) (dropT t (cutN s)) w):=by
 by_cases h0:wayE t s=0
 case neg=>
  have hE:dropE t s=wayE t s:=by unfold dropE;rw [if_pos h0]
  rw [hE]
  have C1:=way_any p t s w ht hr hs
  obtain ⟨E,hE2⟩:∃ E,wayE t s=E:=⟨_,rfl⟩
  rw [hE2] at C1 h0 ⊢
  have h1:(E != 0)=true:=by simpa using h0
  have H0:=hid h0
  clear hE hE2 h0 ht hr
  go_enter Tryz.func86,Tryz.ntmps86
  go_wp2_with (go_at_call 119;refine C1.mono ?_;rintro e w1 ⟨an,n,cn,rfl,_,hg1⟩;have HG1:=hid hg1;clear hg1)
  go_ret2
  exact ⟨_,rfl,HG1.out,fun _=>rfl,fun h=>absurd h H0.out⟩
 by_cases hc:cutN s=[]
 ·have hE:dropE t s=46:=by unfold dropE;rw [if_neg (by simpa using h0),if_pos hc]
  rw [hE]
  exact (drop_root p t s w ht hr hs h0 hc).mono fun e w' ⟨h1,h2⟩=>⟨_,h1,h2,fun _=>rfl,fun h=>absurd h (by decide)⟩
 cases hd:dn t (cutN s) with
 | none=>
  have hE:dropE t s=45:=by unfold dropE;rw [if_neg (by simpa using h0),if_neg hc,if_pos hd]
  rw [hE]
  exact (drop_none p t s w ht hr hs h0 hc hd).mono fun e w' ⟨h1,h2⟩=>⟨_,h1,h2,fun _=>rfl,fun h=>absurd h (by decide)⟩
 | some z=>
  have hE:dropE t s=0:=by unfold dropE;rw [if_neg (by simpa using h0),if_neg hc,if_neg (by rw [hd];simp)]
  rw [hE]
  exact (drop_done p t s w ht hr hs h0 hc z hd (by omega)).mono fun e w' ⟨p',h1,h2,h3⟩=>⟨_,h1,h3,fun h=>absurd rfl h,fun _=>⟨p',rfl,h2⟩⟩
def Cel (A B:World):Prop:=∀ (a:Addr) u,A.cell? a=some u→B.cell? a=some u
theorem Cel.lies {A B:World} (h:Cel A B) {g o:Nat} {c:Array Value} (hl:Lies A g o c):Lies B g o c:=fun j u hj=>h _ _ (hl j u hj)
theorem At.cel {A B:World} (h:Cel A B):∀ {k:K} {u:Value},At A k u→At B k u
 | .nil,_,q=>q
 | .node _ _ _ _ _ _ _ _,_,⟨h1,pk,pa,pb,⟨h2,h3⟩,h4,h5,h6⟩=>⟨h1,pk,pa,pb,⟨h.lies h2,h.lies h3⟩,At.cel h h4,At.cel h h5,At.cel h h6⟩
theorem T1.cel {A B:World} (h:Cel A B) (hT:∀ b,Tr A b→Tr B b) {p:Nat} {t:T3} (ht:T1 A p t):T1 B p t:=by
 obtain ⟨k,⟨pk,h1,h2⟩,h3,h4,h5⟩:=ht
 exact ⟨k,⟨pk,h.lies h1,h2.cel h⟩,h3,K.all_monoR hT h4,h5.1,hT _ h5.2⟩
theorem cel_grown {A B:World} {row:Option Nat} (hg:A.grownBy B row) (hr:∀ r,row=some r→∃ o:Obj,A.heap[r]?=some o∧o.isCells=false):Cel A B:=fun a u ha=>by
 have hlt:=World.block_lt_of_cell? _ _ ha
 obtain ⟨o,ho⟩:∃ o,A.heap[a.block]?=some o:=⟨A.heap[a.block]'hlt,Array.getElem?_eq_getElem hlt⟩
 have hc:o.isCells=true:=by
  cases o<;>first | rfl | (exfalso;simp [World.cell?,ho] at ha)
 exact (World.cell?_of_block (a:=a) (grownBy_keeps_cells hg hr ho hc)).trans ha
theorem bx_grown {A B:World} {row:Option Nat} (hg:A.grownBy B row) (hr:∀ r,row=some r→∃ o:Obj,A.heap[r]?=some o∧o.isCells=false) {b t:Nat} {v:Value} (h:Bx A b t v):Bx B b t v:=(grownBy_keeps_cells hg hr h rfl).trans h
theorem tr_grown {A B:World} {row:Option Nat} (hg:A.grownBy B row) (hr:∀ r,row=some r→∃ o:Obj,A.heap[r]?=some o∧o.isCells=false) (b:Nat) (h:Tr A b):Tr B b:=by
 obtain ⟨c,h⟩:=h
 exact ⟨c,(grownBy_keeps_cells hg hr h rfl).trans h⟩
theorem below_grown {w A B:World} {row:Option Nat} (hb:G w A) (hg:A.grownBy B row) (hr:∀ r,row=some r→w.heap.size≤r):G w B:=
 ⟨hg.os.trans hb.os,hg.tape.trans hb.tape,hg.output.trans hb.output,Nat.le_trans hb.size hg.size,fun b h=>(hg.block b (Nat.lt_of_lt_of_le h hb.size) (fun e=>by have:=hr b e.symm;omega)).trans (hb.block b h)⟩
end Go.Proofs.YthfcanpkhjgomaaGreat
