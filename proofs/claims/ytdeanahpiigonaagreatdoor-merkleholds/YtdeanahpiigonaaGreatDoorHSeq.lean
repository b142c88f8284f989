import Derived.Test.YtdeanahpiigonaaGreatDoorOwn
set_option maxRecDepth 100000
namespace Go.Proofs.YtdeanahpiigonaaGreatDoor.Hm
open Go.RowKit
section
variable {P:Program} {ops:Array Oper} {Q:Exit→Act→World→Prop}
def gj (ops:Array Oper):Bool:=(List.range ops.size).all fun i=>((ops[i]?).map fun o=>o.after.all fun e=>!Region.binds .any e||decide (e.on<i)).getD true
theorem lH (h:gj ops=true) {i:Nat} {o:Oper} (hi:ops[i]?=some o):∀ e∈o.after,Region.binds .any e=true→e.on<i:=by
 intro e he hb
 have h1:=List.all_eq_true.1 h i (List.mem_range.2 (ga hi).1)
 rw [hi] at h1
 simp only [Option.map_some,Option.getD_some,Array.all_eq_true_iff_forall_mem] at h1
 have h2:=h1 e he
 rw [hb] at h2
 simpa using h2
end
section
variable {P:Program} {ops:Array Oper} {Q:Exit→Act→World→Prop}
def upd (done:Nat→Bool) (i:Nat):Nat→Bool:=fun j=>if j=i then true else done j
def lY (ops:Array Oper) (done:Nat→Bool):Prop:=∀ (j:Nat) (o:Oper),ops[j]?=some o→done j=true→∀ e∈o.after,Region.binds .any e=true→done e.on=true
def Deps (o:Oper) (done:Nat→Bool):Prop:=∀ e∈o.after,Region.binds .any e=true→done e.on=true
theorem jL {id:Nat} {a:Act} {w:World} (hm:P.follows .mixedOrders=true) (I:(Nat→Bool)→Act→World→Prop) (hback:gj ops=true) (h0:I (fun _=>false) a w.drew)
  (hs:∀ i o done a w,ops[i]?=some o→I done a w→done i=false→Deps o done→lY ops done→wpOp P ops Q i (I (upd done i)) a w)
  (hd:∀ done a w,I done a w→(∀ i,i<ops.size→done i=true)→Q .normal a w):(Code.region id ops true).wp P Q a w:=by
 refine wp_region_any hm ?_
 have key:∀ (n:Nat) (listed:Array Bool) (a:Act) (w:World),listed.size=ops.size→listed.toList.count false≤n→I (fun i=>listed.getD i false) a w→lY ops (fun i=>listed.getD i false)→wpAny P .any ops Q n listed a w:=by
  have full:∀ (listed:Array Bool) (a:Act) (w:World),listed.size=ops.size→I (fun i=>listed.getD i false) a w→Region.ready .any ops listed=[]→Q .normal a w:=by
   intro listed a w hz hI hr
   refine hd _ a w hI ?_
   intro i
   induction i using Nat.strongRecOn with
   | ind i ih=>
    intro hi
    cases hl:listed.getD i false with
    | true=>rfl
    | false=>
     have hm:i∈Region.ready .any ops listed:=by
      refine mem_ready.2 ⟨?_,ops[i],by simp [hi],fun e he hb=>?_⟩
      ·have:i<listed.size:=by omega
       simp [Array.getD,this] at hl ⊢
       exact hl
      ·have hlt:=lH hback (i:=i) (o:=ops[i]) (by simp [hi]) e he hb
       exact ih e.on hlt (by omega)
     rw [hr] at hm
     cases hm
  intro n
  induction n with
  | zero=>
   intro listed a w hz hc hI hC
   have hr:Region.ready .any ops listed=[]:=by
    rw [List.eq_nil_iff_forall_not_mem]
    intro i hi
    obtain ⟨h1,_⟩:=mem_ready.1 hi
    have hlt:i<listed.size:=by
     by_cases h:i<listed.size
     ·exact h
     ·simp [Array.getD,h] at h1
    have:listed.toList.count false=0:=by omega
    rw [List.count_eq_zero] at this
    refine this ?_
    simp [Array.getD,hlt] at h1
    rw [← h1]
    exact Array.getElem_mem_toList hlt
   exact ⟨hr,full listed a w hz hI hr⟩
  | succ n ih=>
   intro listed a w hz hc hI hC
   refine ⟨full listed a w hz hI,fun i hi=>?_⟩
   obtain ⟨h1,o,ho,h2⟩:=mem_ready.1 hi
   have hlt:i<listed.size:=by
    by_cases h:i<listed.size
    ·exact h
    ·simp [Array.getD,h] at h1
   have hnd:listed.getD i false=false:=by
    simp [Array.getD,hlt] at h1 ⊢;exact h1
   have eu:(fun j=>(listed.setIfInBounds i true).getD j false)=upd (fun j=>listed.getD j false) i:=by
    funext j
    unfold upd
    by_cases hji:j=i
    ·subst hji;simp [Array.getD,hlt]
    ·rw [if_neg hji]
     by_cases hjl:j<listed.size
     ·simp only [Array.getD,hjl,Array.size_setIfInBounds,dif_pos]
      exact Array.getElem_setIfInBounds_ne hjl (Ne.symm hji)
     ·simp [Array.getD,hjl]
   refine wpOp_mono (fun a' w' hI'=>ih _ a' w' (by simp [hz]) ?_ (by rw [eu];exact hI') ?_) (hs i o _ a w ho hI hnd h2 hC)
   ·simp [Array.getD,hlt] at h1
    have e1:(listed.setIfInBounds i true).toList=listed.toList.set i true:=by simp
    rw [e1,List.count_set (by simpa using hlt)]
    have:listed.toList[i]'(by simpa using hlt)=false:=by simpa using h1
    rw [this]
    have hpos:0<listed.toList.count false:=List.count_pos_iff.2 (by rw [← this];exact List.getElem_mem _)
    simp only [beq_self_eq_true,if_true,Bool.true_eq_false,beq_iff_eq,if_false,Nat.add_zero]
    omega
   ·rw [eu]
    intro j oj hoj hj e he hb
    unfold upd at hj ⊢
    by_cases hji:j=i
    ·subst hji
     rw [ho] at hoj
     injection hoj with hoj
     subst hoj
     have:=h2 e he hb
     split
     ·rfl
     ·exact this
    ·rw [if_neg hji] at hj
     have:=hC j oj hoj hj e he hb
     split
     ·rfl
     ·exact this
 exact key ops.size _ a _ (by simp) (by simp) (by
  have:(fun i=>(Array.replicate ops.size false).getD i false)=fun _=>false:=by
   funext i
   by_cases h:i<ops.size<;>simp [Array.getD,h]
  rw [this];exact h0) (by
  intro j oj _ hj
  by_cases h:j<ops.size<;>simp [Array.getD,h] at hj)
def qu (ops:Array Oper) (V:Nat→Value) (t0 t:Array Value) (done:Nat→Bool):Prop:=
 t.size=t0.size∧(∀ d:Nat,(∀ (k:Nat) (o:Oper),ops[k]?=some o→o.dst=some d→done k=false)→t.getD d undef=t0.getD d undef)∧∀ (k:Nat) (o:Oper) (d:Nat),ops[k]?=some o→o.dst=some d→done k=true→t.getD d undef=V k
def dstB (ops:Array Oper) (n:Nat):Bool:=(List.range ops.size).all fun i=>(match (ops[i]?).bind (·.dst) with | some x=>decide (x<n) | none=>true)&&(List.range ops.size).all fun j=>decide (i=j)||(match (ops[i]?).bind (·.dst),(ops[j]?).bind (·.dst) with | some x,some y=>x !=y | _,_=>true)
theorem a1f {n i d:Nat} {o:Oper} (h:dstB ops n=true) (ho:ops[i]?=some o) (hd:o.dst=some d):d<n:=by
 have h1:=List.all_eq_true.1 h i (List.mem_range.2 (ga ho).1)
 rw [Bool.and_eq_true] at h1
 have h2:=h1.1
 rw [ho] at h2
 simp only [Option.bind_some,hd] at h2
 simpa using h2
theorem tA {n i j d:Nat} {o p:Oper} (h:dstB ops n=true) (ho:ops[i]?=some o) (hp:ops[j]?=some p) (hd:o.dst=some d) (he:p.dst=some d):i=j:=by
 have h1:=List.all_eq_true.1 h i (List.mem_range.2 (ga ho).1)
 rw [Bool.and_eq_true] at h1
 have h2:=List.all_eq_true.1 h1.2 j (List.mem_range.2 (ga hp).1)
 rw [ho,hp] at h2
 simp only [Option.bind_some,hd,he,bne_self_eq_false,Bool.or_false,decide_eq_true_eq] at h2
 exact h2
theorem fo {t:Array Value} {d e:Nat} {v:Value} (hd:d<t.size):(t.setIfInBounds d v).getD e undef=if e=d then v else t.getD e undef:=by
 by_cases h:e=d
 ·subst h;simp [Array.getD,hd]
 ·rw [if_neg h]
  by_cases he:e<t.size
  ·simp only [Array.getD,he,Array.size_setIfInBounds,dif_pos]
   exact Array.getElem_setIfInBounds_ne he (Ne.symm h)
  ·simp [Array.getD,he]
variable {V:Nat→Value} {t0 t:Array Value} {done:Nat→Bool}
theorem qu.put {i d:Nat} {o:Oper} (h:qu ops V t0 t done) (hB:dstB ops t0.size=true) (ho:ops[i]?=some o) (hd:o.dst=some d):qu ops V t0 (t.setIfInBounds d (V i)) (upd done i):=by
 obtain ⟨h1,h2,h3⟩:=h
 have hlt:d<t.size:=by rw [h1];exact a1f hB ho hd
 refine ⟨by simp [h1],fun e he=>?_,fun k p e hp hpd hk=>?_⟩
 ·rw [fo hlt,if_neg (fun q=>by have:=he i o ho (by rw [hd,q]);simp [upd] at this)]
  refine h2 e fun k p hp hpd=>?_
  have:=he k p hp hpd
  unfold upd at this
  split at this
  ·cases this
  ·exact this
 ·rw [fo hlt]
  split
  ·rename_i q
   subst q
   have:=tA hB ho hp hd hpd
   rw [this]
  ·rename_i q
   refine h3 k p e hp hpd ?_
   unfold upd at hk
   rw [if_neg] at hk
   ·exact hk
   ·intro q2
    subst q2
    rw [ho] at hp
    injection hp with hp
    subst hp
    rw [hd] at hpd
    injection hpd with hpd
    exact q hpd.symm
theorem qu.skip {i:Nat} {o:Oper} (h:qu ops V t0 t done) (ho:ops[i]?=some o) (hd:o.dst=none):qu ops V t0 t (upd done i):=by
 obtain ⟨h1,h2,h3⟩:=h
 refine ⟨h1,fun e he=>h2 e fun k p hp hpd=>?_,fun k p e hp hpd hk=>h3 k p e hp hpd ?_⟩
 ·have:=he k p hp hpd
  unfold upd at this
  split at this
  ·cases this
  ·exact this
 unfold upd at hk
 rw [if_neg] at hk
 ·exact hk
 ·intro q2
  subst q2
  rw [ho] at hp
  injection hp with hp
  subst hp
  rw [hd] at hpd
  cases hpd
def fold (ops:Array Oper) (V:Nat→Value) (t0:Array Value):Nat→Array Value
 | 0=>t0
 | k+1=>match (ops[k]?).bind (·.dst) with | some d=>(fold ops V t0 k).setIfInBounds d (V k) | none=>fold ops V t0 k
theorem bi (hB:dstB ops t0.size=true):∀ m,m≤ops.size→qu ops V t0 (fold ops V t0 m) (fun k=>decide (k<m))
 | 0,_=>⟨rfl,fun _ _=>rfl,fun k _ _ _ _ h=>by simp at h⟩
 | m+1,hm=>by
  have ih:=bi hB m (by omega)
  have hlt:m<ops.size:=by omega
  have ho:ops[m]?=some ops[m]:=by simp [hlt]
  have eu:(fun k=>decide (k<m+1))=upd (fun k=>decide (k<m)) m:=by
   funext k
   unfold upd
   by_cases h:k=m
   ·subst h;simp
   ·rw [if_neg h];congr 1;simp;omega
  rw [eu,fold,ho]
  simp only [Option.bind_some]
  cases hd:ops[m].dst with
  | none=>exact ih.skip ho hd
  | some d=>exact ih.put hB ho hd
theorem qu.full {t':Array Value} {done':Nat→Bool} (h:qu ops V t0 t done) (h':qu ops V t0 t' done') (hd:∀ i,i<ops.size→done i=true) (hd':∀ i,i<ops.size→done' i=true):t=t':=by
 apply Array.ext
 ·rw [h.1,h'.1]
 ·intro d hd1 hd2
  have e:t.getD d undef=t'.getD d undef:=by
   by_cases hq:∀ (k:Nat) (o:Oper),ops[k]?=some o→o.dst≠some d
   ·rw [h.2.1 d (fun k o ho hk=>absurd hk (hq k o ho)),h'.2.1 d (fun k o ho hk=>absurd hk (hq k o ho))]
   ·simp only [Classical.not_forall,Classical.not_not,ne_eq] at hq
    obtain ⟨k,o,ho,hk⟩:=hq
    have hkl:=(ga ho).1
    rw [h.2.2 k o d ho hk (hd k hkl),h'.2.2 k o d ho hk (hd' k hkl)]
  simpa [Array.getD,hd1,hd2] using e
theorem qu.end (h:qu ops V t0 t done) (hB:dstB ops t0.size=true) (hd:∀ i,i<ops.size→done i=true):t=fold ops V t0 ops.size:=
 h.full (bi hB _ (Nat.le_refl _)) hd (fun i hi=>by simpa using hi)
def IV (ops:Array Oper) (V:Nat→Value) (t0:Array Value) (Mem:(Nat→Bool)→World→Prop) (done:Nat→Bool) (a:Act) (w:World):Prop:=∃ t,a=⟨t,[]⟩∧qu ops V t0 t done∧Mem done w
variable {Mem:(Nat→Bool)→World→Prop}
end
def zn (n:Nat):Code→Option (Array Oper)
 | .region id ops _=>if id=n then some ops else none
 | .seq a b=>(zn n a).or (zn n b)
 | .cond _ a b=>(zn n a).or (zn n b)
 | .block _ c=>zn n c
 | .loop c=>zn n c
 | .rangeFunc _ _ a b=>(zn n a).or (zn n b)
 | .scope c=>zn n c
 | _=>none
def kS (f:Func) (n:Nat):Array Oper:=((f.body).bind (zn n)).getD #[]
def say (ops:Array Oper) (k:Nat):Option (Option Nat × Op × Option (Nat × Bool)):=(ops[k]?).map fun o=>(o.dst,o.op,o.guard)
theorem jB {ops:Array Oper} {k:Nat} {o:Oper} {x:Option Nat × Op × Option (Nat × Bool)} (h:say ops k=some x) (ho:ops[k]?=some o):o.dst=x.1∧o.op=x.2.1∧o.guard=x.2.2:=by
 unfold say at h
 rw [ho] at h
 injection h with h
 subst h
 exact ⟨rfl,rfl,rfl⟩
def gq (ops:Array Oper) (k j:Nat):Bool:=((ops[k]?).map fun o=>o.after.any fun e=>Region.binds .any e&&e.on==j).getD false
theorem dJ {ops:Array Oper} {k j:Nat} {o:Oper} (h:gq ops k j=true) (ho:ops[k]?=some o):∃ e∈o.after,Region.binds .any e=true∧e.on=j:=by
 unfold gq at h
 rw [ho] at h
 simp only [Option.map_some,Option.getD_some,Array.any_eq_true',Bool.and_eq_true,beq_iff_eq] at h
 exact h
theorem jy {ops:Array Oper} {k j:Nat} {o:Oper} {done:Nat→Bool} (h:gq ops k j=true) (ho:ops[k]?=some o) (hd:Deps o done):done j=true:=by
 obtain ⟨e,he,hb,rfl⟩:=dJ h ho
 exact hd e he hb
theorem j8 {ops:Array Oper} {k j:Nat} {done:Nat→Bool} (h:gq ops j k=true) (hc:lY ops done) (hk:done k=false):done j=false:=by
 cases hj:done j with
 | false=>rfl
 | true=>
  cases ho:ops[j]? with
  | none=>unfold gq at h;rw [ho] at h;simp at h
  | some o=>
   obtain ⟨e,he,hb,rfl⟩:=dJ h ho
   rw [hc j o ho hj e he hb] at hk
   cases hk
def aL (ops:Array Oper) (k:Nat):Option Nat:=(ops[k]?).bind (·.dst)
theorem qu.at {ops:Array Oper} {V:Nat→Value} {t0 t:Array Value} {done:Nat→Bool} (h:qu ops V t0 t done) {k d:Nat} (hk:aL ops k=some d) (hd:done k=true):t[d]?.getD undef=V k:=by
 unfold aL at hk
 cases ho:ops[k]? with
 | none=>rw [ho] at hk;cases hk
 | some o=>
  rw [ho] at hk
  have:=h.2.2 k o d ho hk hd
  rwa [gd] at this
def a1g (ops:Array Oper) (d:Nat):Bool:=(List.range ops.size).all fun k=>aL ops k !=some d
theorem qu.old {ops:Array Oper} {V:Nat→Value} {t0 t:Array Value} {done:Nat→Bool} (h:qu ops V t0 t done) {d:Nat} (hf:a1g ops d=true):t[d]?.getD undef=t0.getD d undef:=by
 have:=h.2.1 d (fun k o ho e=>absurd e <| by
  have h1:=List.all_eq_true.1 hf k (List.mem_range.2 (ga ho).1)
  unfold aL at h1
  rw [ho] at h1
  intro e
  simp [e] at h1)
 rwa [gd] at this
theorem qu.yet {ops:Array Oper} {V:Nat→Value} {t0 t:Array Value} {done:Nat→Bool} {n:Nat} (h:qu ops V t0 t done) (hB:dstB ops n=true) {k d:Nat} (hk:aL ops k=some d) (hd:done k=false):t[d]?.getD undef=t0.getD d undef:=by
 unfold aL at hk
 cases ho:ops[k]? with
 | none=>rw [ho] at hk;cases hk
 | some o=>
  rw [ho] at hk
  have:=h.2.1 d (fun k' o' ho' e'=>by
   have:=tA hB ho ho' hk e'
   rw [← this];exact hd)
  rwa [gd] at this
section
variable {P:Program} {ops:Array Oper} {Q:Exit→Act→World→Prop} {V:Nat→Value} {t0 t:Array Value} {done:Nat→Bool} {Mem:(Nat→Bool)→World→Prop}
end
theorem fp (done:Nat→Bool) (i:Nat):upd done i i=true:=by simp [upd]
theorem xy (done:Nat→Bool) {i j:Nat} (h:j≠i):upd done i j=done j:=by simp [upd,h]
theorem bj {ops:Array Oper} {t:Array Value} {k d:Nat} (hk:aL ops k=some d):yielded ops t k=(match t[d]? with | some (.bool b)=>some b | _=>none):=by
 unfold aL at hk
 unfold yielded
 rw [hk]
 rfl
theorem jN {ops:Array Oper} {t:Array Value} {o:Oper} {k d:Nat} {b:Bool} (hg:o.guard=some (k,b)) (hk:aL ops k=some d) (hv:t[d]?.getD undef=.bool b):Region.wanted o (yielded ops t)=true:=by
 unfold Region.wanted
 rw [hg]
 simp only
 rw [bj hk]
 cases h:t[d]? with
 | none=>rw [h] at hv;simp [undef] at hv
 | some v=>rw [h] at hv;simp at hv;subst hv;simp
theorem jH {ops:Array Oper} {t:Array Value} {o:Oper} {k d:Nat} {b c:Bool} (hg:o.guard=some (k,b)) (hk:aL ops k=some d) (hv:t[d]?.getD undef=.bool c) (hn:(c==b)=false):Region.wanted o (yielded ops t)=false:=by
 unfold Region.wanted
 rw [hg]
 simp only
 rw [bj hk]
 cases h:t[d]? with
 | none=>rw [h] at hv;simp [undef] at hv
 | some v=>rw [h] at hv;simp at hv;subst hv;simpa using hn
section
variable {P:Program} {ops:Array Oper} {Q:Exit→Act→World→Prop} {V:Nat→Value} {t0 t:Array Value} {done:Nat→Bool} {Mem:(Nat→Bool)→World→Prop}
theorem j0 {o:Oper} {y:Nat→Option Bool} (hg:o.guard=none):Region.wanted o y=true:=by simp [Region.wanted,hg]
end
section
variable {F:Fence} {n0:Nat} {P:Program} {ops:Array Oper} {Q:Exit→Act→World→Prop}
variable {V:Nat→Value} {t0 t:Array Value} {done:Nat→Bool} {Mem:(Nat→Bool)→World→Prop}
end
section
variable {α:Type} {P:Program} {ops:Array Oper} {Q:Exit→Act→World→Prop} {V:α→Nat→Value} {t0 t:Array Value} {done:Nat→Bool} {Mem:α→(Nat→Bool)→World→Prop}
def IE (ops:Array Oper) (V:α→Nat→Value) (t0:Array Value) (Mem:α→(Nat→Bool)→World→Prop) (done:Nat→Bool) (a:Act) (w:World):Prop:=∃ r,IV ops (V r) t0 (Mem r) done a w
theorem qu.re {V V':Nat→Value} (h:qu ops V t0 t done) (he:∀ k,done k=true→V' k=V k):qu ops V' t0 t done:=by
 obtain ⟨h1,h2,h3⟩:=h
 refine ⟨h1,h2,?_⟩
 intro i o d ho hd hi
 rw [he i hi]
 exact h3 i o d ho hd hi
theorem jJ {i d:Nat} {o:Oper} {w w':World} (r:α) (hB:dstB ops t0.size=true) (ho:ops[i]?=some o) (hg:Region.wanted o (yielded ops t)=true) (hd:o.dst=some d) (hs:qu ops (V r) t0 t done) (hM:Mem r (upd done i) w') (hrun:(execOp (Act.mk t []).eval o).run P w=.ok (.value (V r i)) w'):wpOp P ops Q i (IE ops V t0 Mem (upd done i)) ⟨t,[]⟩ w:=by
 unfold wpOp
 rw [ho]
 simp only
 rw [if_pos hg]
 left
 unfold Oper.wp
 rw [hrun,Oper.upon_value,hd]
 exact ⟨r,_,rfl,hs.put hB ho hd,hM⟩
theorem qh {i:Nat} {o:Oper} {w w':World} (r:α) (ho:ops[i]?=some o) (hg:Region.wanted o (yielded ops t)=true) (hd:o.dst=none) (hs:qu ops (V r) t0 t done) (hM:Mem r (upd done i) w') (hrun:(execOp (Act.mk t []).eval o).run P w=.ok .skip w'):wpOp P ops Q i (IE ops V t0 Mem (upd done i)) ⟨t,[]⟩ w:=by
 unfold wpOp
 rw [ho]
 simp only
 rw [if_pos hg]
 left
 unfold Oper.wp
 rw [hrun,Oper.upon_skip,hd]
 exact ⟨r,_,rfl,hs.skip ho hd,hM⟩
theorem jb {i d:Nat} {o:Oper} {w:World} (r:α) (f:FuncId) (args:Array Value) (hB:dstB ops t0.size=true) (ho:ops[i]?=some o) (hg:Region.wanted o (yielded ops t)=true) (hd:o.dst=some d) (hs:qu ops (V r) t0 t done) (hrun:(execOp (Act.mk t []).eval o).run P w=.ok (.enter f args) w)
  (hC:Calls P f args w fun e w'=>∃ r',e=.returned (V r' i)∧(∀ k,done k=true→V r' k=V r k)∧Mem r' (upd done i) w'):wpOp P ops Q i (IE ops V t0 Mem (upd done i)) ⟨t,[]⟩ w:=by
 unfold wpOp
 rw [ho]
 simp only
 rw [if_pos hg]
 left
 unfold Oper.wp
 rw [hrun]
 refine Calls.mono hC ?_
 rintro e w' ⟨r',rfl,he,hM⟩
 rw [hd]
 exact ⟨r',_,rfl,(hs.re he).put hB ho hd,hM⟩
end
theorem sd {ops:Array Oper} {k d:Nat} {x:Op × Option (Nat × Bool)} (h:say ops k=some (some d,x)):aL ops k=some d:=by
 cases e:ops[k]? with
 | none=>unfold say at h;rw [e] at h;cases h
 | some o=>unfold aL;rw [e];exact (jB h e).1
theorem qu.ol {ops:Array Oper} {V:Nat→Value} {t0 t:Array Value} {done:Nat→Bool} (h:qu ops V t0 t done) {d:Nat} {v:Value} (e:t0.getD d undef=v) (hf:a1g ops d=true:=by kernel_rfl):t[d]?.getD undef=v:=(h.old hf).trans e
theorem jM {P:Program} {ops:Array Oper} {Q:Exit→Act→World→Prop} {α:Type} {V:α→Nat→Value} {t0 t:Array Value} {done:Nat→Bool} {Mem:α→(Nat→Bool)→World→Prop} {i d:Nat} {o:Oper} {w w':World} {X:Op} (h:say ops i=some (some d,X,none)) (r:α) (hB:dstB ops t0.size=true) (ho:ops[i]?=some o) (hs:qu ops (V r) t0 t done) (hM:Mem r (upd done i) w') (hrun:o.op=X→(execOp (Act.mk t []).eval o).run P w=.ok (.value (V r i)) w'):wpOp P ops Q i (IE ops V t0 Mem (upd done i)) ⟨t,[]⟩ w:=by
 obtain ⟨hd,hop,hgd⟩:=jB h ho
 exact jJ r hB ho (j0 hgd) hd hs hM (hrun hop)
theorem qu.gt {ops:Array Oper} {V:Nat→Value} {t0 t:Array Value} {done:Nat→Bool} (h:qu ops V t0 t done) {k d j:Nat} {o:Oper} {x:Op × Option (Nat × Bool)} (hk:say ops k=some (some d,x)) (ho:ops[j]?=some o) (hd:Deps o done) (hw:gq ops j k=true:=by kernel_rfl):t[d]?.getD undef=V k:=h.at (sd hk) (jy hw ho hd)
def over (cs:List Value) (off:Nat) (c:List Value):List Value:=cs.take off++c++cs.drop (off+c.length)
theorem ft (off:Nat) (x:Value) (cs:List Value) (h:off<cs.length):cs.set off x=cs.take off++x::cs.drop (off+1):=by
 rw [List.set_eq_take_append_cons_drop,if_pos h]
theorem dK (off:Nat):∀ (c:List Value) (k:Nat) (cs:List Value),off+k+c.length≤cs.length→
  (c.zipIdx k).foldl (fun (a:Array Value) (p:Value × Nat)=>a.setIfInBounds (off+p.2) p.1) cs.toArray=(over cs (off+k) c).toArray
 | [],k,cs,_=>by simp [over]
 | x::c,k,cs,h=>by
  simp only [List.length_cons] at h
  rw [List.zipIdx_cons,List.foldl_cons]
  simp only [List.setIfInBounds_toArray]
  rw [dK off c (k+1) (cs.set (off+k) x) (by simp;omega)]
  congr 1
  unfold over
  rw [ft _ _ _ (by omega),List.length_cons]
  have h1:(cs.take (off+k)).length=off+k:=by simp;omega
  have e1:(cs.take (off+k)++x::cs.drop (off+k+1)).take (off+(k+1))=cs.take (off+k)++[x]:=by
   rw [List.take_append,h1,show off+(k+1)-(off+k)=1 by omega,List.take_of_length_le (by omega)]
   rfl
  have e2:(cs.take (off+k)++x::cs.drop (off+k+1)).drop (off+(k+1)+c.length)=cs.drop (off+k+(c.length+1)):=by
   rw [List.drop_append,h1,List.drop_of_length_le (by omega),show off+(k+1)+c.length-(off+k)=c.length+1 by omega,List.drop_succ_cons,List.drop_drop]
   simp only [List.nil_append]
   congr 1
   omega
  rw [e1,e2]
  simp
theorem qv (place:Nat→Option (Nat × Nat)) (cs:List Value) (i off n:Nat) (v:Value) (c:List Value) (rest:List (Nat × Value)) (hp:place i=some (off,n)) (hv:v.cells=c.toArray) (hc:c.length=n) (ho:off+n≤cs.length):
  Instr.fill place cs.toArray ((i,v)::rest)=Instr.fill place (over cs off c).toArray rest:=by
 rw [Instr.fill,hp]
 simp only [hv]
 have hf:=dK off c 0 cs (by omega)
 rw [Nat.add_zero] at hf
 rw [if_neg (by simp;omega)]
 have hz:c.toArray.zipIdx=c.zipIdx.toArray:=by
  apply Array.ext_getElem?
  intro j
  simp
 rw [← hf,hz,List.foldl_toArray]
theorem dL {ops:Array Oper} {rest:List Oper} {o:Oper} {a:Act} {w:World} {Q:Exit→Act→World→Prop} (v:Value) (w':World)
  (he:(execOp a.eval o).run Tryz.prog w=.ok (.value v) w') (hw:Region.wanted o (yielded ops a.tmps)=true) (h:wpList Tryz.prog ops Q rest (a.put o.dst v) w'):wpList Tryz.prog ops Q (o::rest) a w:=by
 refine wpList_step fun K hK=>?_
 rw [if_pos hw]
 unfold Oper.wp
 rw [he,Oper.upon_value]
 exact hK _ _ h
theorem zJ {ops:Array Oper} {rest:List Oper} {o:Oper} {a:Act} {w:World} {Q:Exit→Act→World→Prop} (w':World)
  (he:(execOp a.eval o).run Tryz.prog w=.ok .skip w') (hw:Region.wanted o (yielded ops a.tmps)=true) (h:wpList Tryz.prog ops Q rest (a.put o.dst undef) w'):wpList Tryz.prog ops Q (o::rest) a w:=by
 refine wpList_step fun K hK=>?_
 rw [if_pos hw]
 unfold Oper.wp
 rw [he,Oper.upon_skip]
 exact hK _ _ h
theorem lk (t:TypeId) (z:Array Value) (hz:(Tryz.prog.info? t).bind (·.zero)=some (.agg z)) (w:World):(zeroValue t).run Tryz.prog w=.ok (.agg z) w:=by
 cases hq:Tryz.prog.info? t with
 | none=>rw [hq] at hz;cases hz
 | some i=>
  rw [hq] at hz
  simp only [Option.bind_some] at hz
  simp [zeroValue,typeInfo,hq,hz]
theorem yH {o:Oper} {a:Act} (t:TypeId) (z:Array Value) (ho:o.op=.alloc t) (hz:(Tryz.prog.info? t).bind (·.zero)=some (.agg z)) (w:World) (b:Nat) (hb:w.heap.size=b):(execOp a.eval o).run Tryz.prog w=.ok (.value (.pointer (some ⟨b,0,none⟩))) (w.alloc (.cells z t)):=by
 subst hb
 unfold execOp
 simp only [ho,Instr.alloc,Sem.run_bind,lk t z hz,Result.andThen_ok]
 simp [newVar,newRow,newObj,Value.cells]
 rfl
theorem qN {o:Oper} {a:Act} (t:TypeId) (x y:Operand) (ho:o.op=.store t x y) (g:Nat) (c old:Array Value) (hx:a.eval x=.pointer (some ⟨g,0,none⟩)) (hy:a.eval y=.agg c) (w:World) (hg:w.heap[g]?=some (.cells old t (0,0)))
  (hz:(Tryz.prog.info? t).map (·.size)=some c.size) (hs':old.size=c.size) (h1:c.all (·.oneCell')=true):(execOp a.eval o).run Tryz.prog w=.ok .skip (w.setRow g c):=by
 unfold execOp
 simp only [ho,hx,hy,Instr.storeAt,Instr.sureAddr,Sem.run_bind,Sem.run_pure,Result.andThen_ok,run_storeVar_row (P:=Tryz.prog) w g t t old c hg hz hs' h1]
theorem pI (xs r:List Value) (o:Nat) (v:Value) (h:o<xs.length):over (xs.set o v) (o+1) r=over xs o (v::r):=by
 unfold over
 rw [ft _ _ _ h]
 have h1:(xs.take o).length=o:=by simp;omega
 have e1:(xs.take o++v::xs.drop (o+1)).take (o+1)=xs.take o++[v]:=by
  rw [List.take_append,h1,show o+1-o=1 by omega,List.take_of_length_le (by omega)]
  rfl
 have e2:(xs.take o++v::xs.drop (o+1)).drop (o+1+r.length)=xs.drop (o+(r.length+1)):=by
  rw [List.drop_append,h1,List.drop_of_length_le (l:=xs.take o) (by omega),show o+1+r.length-o=r.length+1 by omega,List.drop_succ_cons,List.drop_drop]
  simp only [List.nil_append]
  congr 1
  omega
 rw [e1,e2]
 simp
theorem gr {w:World} {g o n:Nat} {cs:Array Value} {T:TypeId} (h:w.heap[g]?=some (.cells cs T (0,0))) (hn:o+n≤cs.size):w.there g o n:=fun j hj=>by
 refine ⟨?_,by simp [World.frozen?,h]⟩
 simp only [World.cell?,h]
 have:o+j<cs.size:=by omega
 simp [this]
theorem eN {o:Oper} {a:Act} (t:TypeId) (x y:Operand) (ho:o.op=.store t x y) (g f:Nat) (c:Array Value) (hx:a.eval x=.pointer (some ⟨g,f,none⟩)) (hy:a.eval y=.agg c) (w:World) (ht:w.there g f c.size)
  (hz:(Tryz.prog.info? t).map (·.size)=some c.size) (h1:c.all (·.oneCell')=true):(execOp a.eval o).run Tryz.prog w=.ok .skip (w.setCells g f c.toList):=by
 unfold execOp
 simp only [ho,hx,hy,Sem.run_bind,Sem.run_pure,Result.andThen_ok,run_storeAt_mid (P:=Tryz.prog) w g f t c ht hz h1]
theorem row_form {w:World} {lo e s n:Nat} {v:Value} {xs:List Value} (h:w.ownsRow lo e s v n xs):∃ p c,v=.slice p n c:=by
 obtain ⟨_,h | ⟨g,cap,cur,hv,_⟩⟩:=h
 ·exact ⟨none,0,by rw [h.1,h.2]⟩
 ·exact ⟨_,cap,hv⟩
structure Kp (S:Nat→Prop) (w w':World):Prop where
 os:w'.os=w.os
 tape:w'.tape=w.tape
 output:w'.output=w.output
 size:w.heap.size≤w'.heap.size
 block:∀ b,b<w.heap.size→¬ S b→w'.heap[b]?=w.heap[b]?
theorem Kp.trans {S S':Nat→Prop} {w w1 w2:World} (h:Kp S w w1) (k:Kp S' w1 w2) (hs:∀ b,b<w.heap.size→S' b→S b):Kp S w w2:=
 ⟨k.os.trans h.os,k.tape.trans h.tape,k.output.trans h.output,Nat.le_trans h.size k.size,fun b hb hn=>(k.block b (Nat.lt_of_lt_of_le hb h.size) fun e=>hn (hs b hb e)).trans (h.block b hb hn)⟩
theorem Kp.mono {S S':Nat→Prop} {w w1:World} (h:Kp S w w1) (hs:∀ b,b<w.heap.size→S b→S' b):Kp S' w w1:=⟨h.os,h.tape,h.output,h.size,fun b hb hn=>h.block b hb fun e=>hn (hs b hb e)⟩
theorem Kp.of {S:Nat→Prop} {w w1:World} (h:Below w.heap.size w w1):Kp S w w1:=⟨h.os,h.tape,h.output,h.size,fun b hb _=>h.block b hb⟩
theorem Kp.below {S:Nat→Prop} {B:Nat} {w w1:World} (h:Kp S w w1) (hB:B≤w.heap.size) (hs:∀ b,S b→B≤b):Below B w w1:=⟨h.os,h.tape,h.output,h.size,fun b hb=>h.block b (by omega) fun e=>by have:=hs b e;omega⟩
theorem Kp.refl (S:Nat→Prop) (w:World):Kp S w w:=Kp.of (Below.refl _ _)
theorem Kp.grown {w w1:World} {row:Option Nat} (h:w.grownBy w1 row):Kp (fun b=>row=some b) w w1:=⟨h.os,h.tape,h.output,h.size,fun b hb hn=>h.block b hb fun e=>hn e.symm⟩
theorem Kp.set (w:World) (b o:Nat) (u:Value):Kp (fun c=>c=b) w (w.setCell ⟨b,o,none⟩ u):=⟨rfl,rfl,rfl,by simp,fun c _ hn=>Below.heap_setCell w ⟨b,o,none⟩ u c hn⟩
def Lies (w:World) (g o:Nat) (c:Array Value):Prop:=∀ j u,c[j]?=some u→w.cell? ⟨g,o+j,none⟩=some u
theorem Lies.block {w w':World} {g o:Nat} {c:Array Value} (h:Lies w g o c) (hb:∀ a:Addr,a.block<w.heap.size→w'.cell? a=w.cell? a):Lies w' g o c:=fun j u hj=>by
 have:=h j u hj
 rw [hb _ (World.block_lt_of_cell? w _ this)]
 exact this
theorem Lies.below {w w':World} {g o:Nat} {c:Array Value} (h:Lies w g o c) (hb:Below w.heap.size w w'):Lies w' g o c:=h.block fun _ ha=>hb.cell ha
theorem Lies.part {w:World} {g o:Nat} {c:Array Value} (h:Lies w g o c) (i j:Nat):Lies w g (o+i) (c.extract i j):=fun k u hk=>by
 have hk2:c[i+k]?=some u:=by
  rw [Array.getElem?_extract] at hk
  split at hk
  ·exact hk
  ·cases hk
 have:=h (i+k) u hk2
 rwa [show o+i+k=o+(i+k) by omega]
theorem j9 {w:World} {g:Nat} {cs:Array Value} {T:TypeId} {f:Nat × Nat} (h:w.heap[g]?=some (.cells cs T f)) (j:Nat):w.cell? ⟨g,j,none⟩=cs[j]?:=by
 simp [World.cell?,h]
theorem Lies.of_heap {w:World} {g:Nat} {cs:Array Value} {T:TypeId} {f:Nat × Nat} (h:w.heap[g]?=some (.cells cs T f)):Lies w g 0 cs:=fun j u hj=>by
 rw [Nat.zero_add,j9 h];exact hj
theorem ag {w:World} {g o:Nat} {c:Array Value} (ty:TypeId) (d:TypeDesc) (hu:Tryz.prog.underlying ty=some d) (hd:d.isRow=true) (hi:(Tryz.prog.info? ty).map (·.size)=some c.size) (h:Lies w g o c):
  (Instr.loadAt ty (.pointer (some ⟨g,o,none⟩))).run Tryz.prog w=.ok (.agg c) w:=by
 have:=run_loadAt_mid (P:=Tryz.prog) w g o ty c.toList d (fun j v hv=>h j v (by simpa using hv)) hu hd (by rw [hi];simp)
 simpa using this
theorem jQ {o:Oper} {a:Act} {w:World} (ty:TypeId) (x:Operand) (ho:o.op=.load ty x) (b off:Nat) (hx:a.eval x=.pointer (some ⟨b,off,none⟩)) (c:Array Value) (d:TypeDesc) (hc:Lies w b off c)
  (hu:Tryz.prog.underlying ty=some d) (hd:d.isRow=true) (hi:(Tryz.prog.info? ty).map (·.size)=some c.size):(execOp a.eval o).run Tryz.prog w=.ok (.value (.agg c)) w:=by
 unfold execOp
 simp only [ho,hx,Sem.run_bind,ag ty d hu hd hi hc,Result.andThen_ok,Sem.run_pure]
def Ek (sT eT s:Nat):Prop:=Tryz.prog.underlying sT=some (.slice eT)∧0<s∧s≤1000∧∃ (z:Value) (bt:Nat),z.cells.size=s∧bt≤4096∧(Tryz.prog.info? eT).map (fun i=>(i.zero,i.size,i.bytes))=some (some z,s,bt)
def fl (L:List (Array Value)):List Value:=(L.map Array.toList).flatten
theorem eO (x:Array Value) (L:List (Array Value)):fl (x::L)=x.toList++fl L:=rfl
theorem a2H (L M:List (Array Value)):fl (L++M)=fl L++fl M:=by simp [fl]
theorem ll {s:Nat}:∀ {L:List (Array Value)},(∀ x∈L,x.size=s)→(fl L).length=L.length*s
 | [],_=>by simp [fl]
 | x::L,h=>by
  rw [eO,List.length_append,ll fun y hy=>h y (by simp [hy]),Array.length_toList,h x (by simp),List.length_cons,Nat.add_mul]
  omega
theorem wm {s:Nat}:∀ {L:List (Array Value)},(∀ x∈L,x.size=s)→∀ {i:Nat} {x:Array Value} {j:Nat},L[i]?=some x→j<s→(fl L)[i*s+j]?=x[j]?
 | [],_,i,x,j,h,_=>by simp at h
 | y::L,hs,0,x,j,h,hj=>by
  simp at h
  subst h
  have:=hs y (by simp)
  rw [eO,Nat.zero_mul,Nat.zero_add,List.getElem?_append_left (by simp;omega)]
  simp
 | y::L,hs,i+1,x,j,h,hj=>by
  have h0:=hs y (by simp)
  rw [eO,List.getElem?_append_right (by simp [h0,Nat.add_mul];omega),Array.length_toList,h0,show (i+1)*s+j-s=i*s+j by rw [Nat.add_mul];omega]
  exact wm (fun z hz=>hs z (by simp [hz])) (by simpa using h) hj
structure OwL (eT s:Nat) (w:World) (lo:Nat) (v:Value) (L:List (Array Value)):Prop where
 own:w.ownsRow lo eT s v L.length (fl L)
 sz:∀ x∈L,x.size=s
def HsL (s:Nat) (w:World) (v:Value) (L:List (Array Value)):Prop:=
 (v=.slice none 0 0∧L=[])∨∃ g o cap,v=.slice (some ⟨g,o,none⟩) L.length cap∧L.length≤cap∧∀ i x,L[i]?=some x→Lies w g (o+i*s) x
theorem OwL.nil (eT s:Nat) (w:World) (lo:Nat):OwL eT s w lo (.slice none 0 0) []:=⟨World.ownsRow_nil _ _ _ _,by simp⟩
theorem OwL.has {eT s:Nat} {w:World} {lo:Nat} {v:Value} {L:List (Array Value)} (h:OwL eT s w lo v L):HsL s w v L:=by
 have h0:=h.own
 obtain ⟨_,h1 | ⟨g,cap,cur,hv,hg,hh,hn,hm,hs,ht⟩⟩:=h.own
 ·exact .inl ⟨h1.1,List.length_eq_zero_iff.1 h1.2⟩
 ·subst hv
  refine .inr ⟨g,0,cap,rfl,hn,fun i x hi j u hj=>?_⟩
  have hx:=h.sz x (List.mem_of_getElem? hi)
  have hjl:j<s:=by rw [← hx];exact (ga hj).1
  have:=World.ownsRow.cells h0 (g:=g) rfl (i*s+j) u (by rw [wm h.sz hi hjl];exact hj)
  rw [Addr.add_mid,Nat.zero_add] at this
  rw [Nat.zero_add];exact this
theorem OwL.block {eT s:Nat} {w w':World} {lo:Nat} {v:Value} {L:List (Array Value)} (h:OwL eT s w lo v L) (hb:∀ k,v.ownBlock=some k→w'.heap[k]?=w.heap[k]?):OwL eT s w' lo v L:=by
 refine ⟨?_,h.sz⟩
 obtain ⟨h1,h2 | ⟨g,cap,cur,hv,hg,hh,hr⟩⟩:=h.own
 ·exact ⟨h1,.inl h2⟩
 ·subst hv
  exact ⟨h1,.inr ⟨g,cap,cur,rfl,hg,(hb g rfl).trans hh,hr⟩⟩
theorem OwL.lt {eT s:Nat} {w:World} {lo:Nat} {v:Value} {L:List (Array Value)} (h:OwL eT s w lo v L):∀ k,v.ownBlock=some k→lo≤k∧k<w.heap.size:=World.ownsRow.lt h.own
theorem OwL.up {eT s:Nat} {w w':World} {lo:Nat} {v:Value} {L:List (Array Value)} (h:OwL eT s w lo v L) (hb:Below w.heap.size w w'):OwL eT s w' lo v L:=h.block fun k hk=>hb.block k (h.lt k hk).2
theorem OwL.mono {eT s:Nat} {w:World} {lo lo':Nat} {v:Value} {L:List (Array Value)} (h:OwL eT s w lo v L) (hl:lo'≤lo):OwL eT s w lo' v L:=by
 refine ⟨?_,h.sz⟩
 obtain ⟨h1,h2 | ⟨g,cap,cur,hv,hg,hr⟩⟩:=h.own
 ·exact ⟨h1,.inl h2⟩
 ·exact ⟨h1,.inr ⟨g,cap,cur,hv,Nat.le_trans hl hg,hr⟩⟩
theorem OwL.form {eT s:Nat} {w:World} {lo:Nat} {v:Value} {L:List (Array Value)} (h:OwL eT s w lo v L):∃ p c,v=.slice p L.length c:=row_form h.own
theorem HsL.form {s:Nat} {w:World} {v:Value} {L:List (Array Value)} (h:HsL s w v L):∃ p c,v=.slice p L.length c:=by
 rcases h with ⟨rfl,rfl⟩ | ⟨g,o,cap,rfl,_,_⟩
 ·exact ⟨none,0,rfl⟩
 ·exact ⟨_,cap,rfl⟩
theorem HsL.block {s:Nat} {w w':World} {v:Value} {L:List (Array Value)} (h:HsL s w v L) (hb:∀ a:Addr,a.block<w.heap.size→w'.cell? a=w.cell? a):HsL s w' v L:=by
 rcases h with h | ⟨g,o,cap,rfl,hc,h⟩
 ·exact .inl h
 ·exact .inr ⟨g,o,cap,rfl,hc,fun i x hi=>(h i x hi).block hb⟩
theorem HsL.up {s:Nat} {w w':World} {v:Value} {L:List (Array Value)} (h:HsL s w v L) (hb:Below w.heap.size w w'):HsL s w' v L:=h.block fun _ ha=>hb.cell ha
theorem jf {sT eT s:Nat} (hk:Ek sT eT s) {o:Oper} {a:Act} (x:Operand) (ho:o.op=.buildSlice sT 1 #[(0,x)]) (xv:Value) (c:Array Value) (hx:a.eval x=xv) (hxc:xv.cells=c) (hs:c.size=s) (w:World) (b:Nat) (hb:w.heap.size=b):
  (execOp a.eval o).run Tryz.prog w=.ok (.value (.slice (some ⟨b,0,none⟩) 1 1)) (w.alloc (.cells c eT)):=by
 subst hb
 obtain ⟨hu,hp,hp2,z,bt,hz,_,hi⟩:=hk
 obtain ⟨i0,hi,hz0,hz1,hz2⟩:=info_parts hi
 have hf:Instr.fill (fun i=>some (i*s,s)) ((Array.range (1*s)).map (z.cells[·%z.cells.size]!)) [(0,xv)]=some c:=by
  obtain ⟨y,hy,hyl⟩:∃ y:List Value,((Array.range (1*s)).map (z.cells[·%z.cells.size]!))=y.toArray∧y.length=s:=⟨((Array.range (1*s)).map (z.cells[·%z.cells.size]!)).toList,Array.toArray_toList.symm,by simp⟩
  rw [hy,qv _ y 0 0 s _ c.toList _ (by simp) (by simpa using hxc) (by simpa using hs) (by omega),Instr.fill]
  have hd:y.drop s=[]:=List.drop_of_length_le (by omega)
  simp [over,hs,hd]
 have hsz:(sizeOf eT).run Tryz.prog w=.ok s w:=by simp [sizeOf,typeInfo,hi,hz1]
 have hzv:(zeroValue eT).run Tryz.prog w=.ok z w:=by simp [zeroValue,typeInfo,hi,hz0]
 have hb:(Instr.buildSlice sT 1 #[(0,xv)]).run Tryz.prog w=.ok (.slice (some ⟨w.heap.size,0,none⟩) 1 1) (w.alloc (.cells c eT)):=by
  unfold Instr.buildSlice
  simp only [Sem.run_bind,run_underlying hu,Result.andThen_ok,hsz]
  have h1:¬ (1*s > 2 ^ 24):=by omega
  have h2:¬ (1*s=0):=by omega
  simp only [h1,h2,if_false,Sem.run_bind,Sem.run_pure,Result.andThen_ok,hzv,hf]
  rfl
 unfold execOp
 simp only [ho]
 have hmap:(#[(0,x)].map fun (p:Nat × Operand)=>match p with | (i,x)=>(i,a.eval x))=#[(0,xv)]:=by simp [hx]
 rw [hmap]
 simp only [Sem.run_bind,hb,Result.andThen_ok,Sem.run_pure]
theorem lm {sT eT s:Nat} (hk:Ek sT eT s) {w:World} {lo:Nat} {v u:Value} {R L:List (Array Value)} (ty:TypeId) (h:OwL eT s w lo v R) (hs:HsL s w u L) (hL:∀ x∈L,x.size=s∧x.all (·.oneCell')=true) (hb:lo≤w.heap.size) (hl:R.length+L.length≤100000000):
  ∃ v' w',(Builtin.append_ #[sT,sT] ty #[v,u]).run Tryz.prog w=.ok v' w'∧OwL eT s w' lo v' (R++L)∧w.grownBy w' v.ownBlock∧(v'.ownBlock=v.ownBlock∨v'.ownBlock=some w.heap.size):=by
 obtain ⟨hu,hp,hp2,z,bt,hz,hbt,hi⟩:=hk
 obtain ⟨i0,hi,hz0,hz1,hz2⟩:=info_parts hi
 have hsz:∀ x∈R++L,x.size=s:=fun x hx=>(List.mem_append.1 hx).elim (h.sz x) fun q=>(hL x q).1
 rcases hs with ⟨rfl,rfl⟩ | ⟨g,o,cp,rfl,hc,hat⟩
 ·exact ⟨v,w,run_append_owned_none (P:=Tryz.prog) (w:=w) lo sT ty eT i0 s hu hi v _ _ h.own,by simpa using h,⟨rfl,rfl,rfl,Nat.le_refl _,fun _ _ _=>rfl⟩,.inl rfl⟩
 ·have hLs:∀ x∈L,x.size=s:=fun x hx=>(hL x hx).1
  obtain ⟨v',w',h1,h2,h3,_,h5⟩:=run_append_own_at (P:=Tryz.prog) w lo sT ty eT i0 z s bt hu hi hz0 hz1 hz2 hz hp v R.length (fl R) h.own ⟨g,o,none⟩ L.length cp (fl L) (ll hLs) (fun j u hj=>by
   have hlt:j<L.length*s:=by have:=(List.getElem?_eq_some_iff.1 hj).1;rwa [ll hLs] at this
   have hq:j/s<L.length:=(Nat.div_lt_iff_lt_mul hp).2 hlt
   obtain ⟨x,hx⟩:∃ x,L[j/s]?=some x:=⟨L[j/s]'hq,by simp [hq]⟩
   have hm:j%s<s:=Nat.mod_lt _ hp
   have e2:=wm hLs hx hm
   have ej:j/s*s+j%s=j:=by rw [Nat.mul_comm];exact Nat.div_add_mod j s
   rw [ej,hj] at e2
   have:=hat _ _ hx (j%s) u e2.symm
   rw [Addr.add_mid]
   rw [Nat.add_assoc,ej] at this
   exact this) (fun u hu=>by
    unfold fl at hu
    obtain ⟨l,hl,hul⟩:=List.mem_flatten.1 hu
    obtain ⟨x,hx,rfl⟩:=List.mem_map.1 hl
    exact Array.all_eq_true_iff_forall_mem.1 (hL x hx).2 u (by simpa using hul)) (by unfold maxLen;omega) (by
     have:(R.length+L.length)*bt≤100000000*4096:=Nat.mul_le_mul hl hbt
     omega) hb
  refine ⟨v',w',h1,⟨?_,hsz⟩,h3,h5⟩
  rw [List.length_append,a2H]
  exact h2
theorem qc {sT:Nat} {o:Oper} {a:Act} {s x:Operand} (ho:o.op=.call { callee:=.builtin .append,args:=#[s,x],argTypes:=#[sT,sT] }) {v src v':Value} {w w':World} (hs:a.eval s=v) (hx:a.eval x=src)
  (hr:(Builtin.append_ #[sT,sT] o.type #[v,src]).run Tryz.prog w=.ok v' w'):(execOp a.eval o).run Tryz.prog w=.ok (.value v') w':=by
 unfold execOp
 simp only [ho,resolve,invoke,builtin,Sem.run_bind,Sem.run_pure,Result.andThen_ok,List.map_toArray,List.map_cons,List.map_nil,hs,hx,hr]
theorem wn {s:Nat} {eT:TypeId} {w:World} {B:Nat} {Z:Array Value} (h:w.heap[B]?=some (.cells Z eT (0,0))):HsL s w (.slice (some ⟨B,0,none⟩) 1 1) [Z]:=by
 refine .inr ⟨B,0,1,rfl,Nat.le_refl _,fun i x hi=>?_⟩
 match i,hi with
 | 0,hi=>
  simp at hi
  subst hi
  simpa using Lies.of_heap h
theorem zy {sT eT s:Nat} (hk:Ek sT eT s) {w:World} {lo:Nat} {v:Value} {R:List (Array Value)} (ty:TypeId) (Z:Array Value) (hZ:Z.size=s) (hZ1:Z.all (·.oneCell')=true) (h:OwL eT s w lo v R) (hb:lo≤w.heap.size) (hl:R.length+1≤100000000) (B:Nat) (hB:w.heap.size=B):
  ∃ v' w',(Builtin.append_ #[sT,sT] ty #[v,.slice (some ⟨B,0,none⟩) 1 1]).run Tryz.prog (w.alloc (.cells Z eT))=.ok v' w'∧OwL eT s w' lo v' (R++[Z])∧w.grownBy w' v.ownBlock∧(∀ b,v'.ownBlock=some b→v.ownBlock=some b∨w.heap.size≤b):=by
 subst hB
 have h1:OwL eT s (w.alloc (.cells Z eT)) lo v R:=h.up ((Below.refl _ _).alloc (Nat.le_refl _) _)
 obtain ⟨v',w',r1,r2,r3,r5⟩:=lm hk (L:=[Z]) ty h1 (wn (World.alloc_heap_new w _)) (by intro x hx;simp at hx;subst hx;exact ⟨hZ,hZ1⟩) (by simp;omega) (by simpa using hl)
 refine ⟨v',w',r1,r2,⟨r3.os,r3.tape,r3.output,by have:=r3.size;simp at this;omega,fun b hb hn=>?_⟩,fun b e=>?_⟩
 ·rw [r3.block b (by simp;omega) hn,Below.heap_alloc w _ b hb]
 ·rcases r5 with q | q
  ·rw [q] at e;exact .inl e
  ·rw [q] at e
   injection e with e
   simp at e
   exact .inr (by omega)
section
variable {ops:Array Oper} {rest:List Oper} {o:Oper} {a:Act} {w:World} {Q:Exit→Act→World→Prop}
theorem jT (d:Nat) (v:Value) (w':World) (hd:o.dst=some d) (hw:Region.wanted o (yielded ops a.tmps)=true) (he:(execOp a.eval o).run Tryz.prog w=.ok (.value v) w') (h:wpList Tryz.prog ops Q rest (a.put (some d) v) w'):wpList Tryz.prog ops Q (o::rest) a w:=by
 refine dL v w' he hw ?_
 rw [hd]
 exact h
theorem pR (d:Nat) (t:TypeId) (z:Array Value) (hd:o.dst=some d) (ho:o.op=.alloc t) (hw:Region.wanted o (yielded ops a.tmps)=true) (hz:(Tryz.prog.info? t).bind (·.zero)=some (.agg z))
  (h:∀ w' b,w.heap.size=b→Below w.heap.size w w'→w'.heap[b]?=some (.cells z t (0,0))→w'.heap.size=b+1→wpList Tryz.prog ops Q rest (a.put (some d) (.pointer (some ⟨b,0,none⟩))) w'):wpList Tryz.prog ops Q (o::rest) a w:=by
 refine jT d _ _ hd hw (yH t z ho hz w _ rfl) (h _ _ rfl ((Below.refl _ _).alloc (Nat.le_refl _) _) (World.alloc_heap_new w _) (by simp))
theorem qo (t:TypeId) (x y:Operand) (g:Nat) (c old:Array Value) (hd:o.dst=none) (ho:o.op=.store t x y) (hw:Region.wanted o (yielded ops a.tmps)=true) (hx:a.eval x=.pointer (some ⟨g,0,none⟩)) (hy:a.eval y=.agg c) (hg:w.heap[g]?=some (.cells old t (0,0)))
  (hz:(Tryz.prog.info? t).map (·.size)=some c.size) (hs:old.size=c.size) (h1:c.all (·.oneCell')=true)
  (h:∀ w',Kp (fun b=>b=g) w w'→w'.heap[g]?=some (.cells c t (0,0))→w'.heap.size=w.heap.size→wpList Tryz.prog ops Q rest a w'):wpList Tryz.prog ops Q (o::rest) a w:=by
 refine zJ (w.setRow g c) (qN t x y ho g c old hx hy w hg hz hs h1) hw ?_
 rw [hd]
 exact h _ ⟨rfl,rfl,rfl,by simp,fun b _ hn=>setRow_other _ g b _ hn⟩ (setRow_heap _ _ _ _ _ _ hg) (by simp)
theorem xM:∀ (vs:List Value) (g o:Nat) (w:World),(w.setCells g o vs).heap.size=w.heap.size
 | [],_,_,_=>rfl
 | v::r,g,o,w=>by rw [World.setCells,xM r];simp
theorem am:∀ (vs:List Value) (g o:Nat) (w:World),Kp (fun b=>b=g) w (w.setCells g o vs)
 | [],_,_,_=>Kp.refl _ _
 | v::r,g,o,w=>(Kp.set w g o v).trans (am r g (o+1) _) fun _ _ e=>e
theorem jI {w:World} {R o:Nat} {c:Array Value} {T:TypeId} {f:Nat × Nat} (v:Value) (h:w.heap[R]?=some (.cells c T f)):(w.setCell ⟨R,o,none⟩ v).heap[R]?=some (.cells (c.setIfInBounds o v) T f):=by
 simp [World.setCell,Array.getElem?_modify,h]
theorem xN {g:Nat} {T:TypeId} {f:Nat × Nat}:∀ (vs:List Value) (o:Nat) (w:World) (xs:List Value),w.heap[g]?=some (.cells xs.toArray T f)→o+vs.length≤xs.length→(w.setCells g o vs).heap[g]?=some (.cells (over xs o vs).toArray T f)
 | [],o,w,xs,h,_=>by simpa [over,World.setCells] using h
 | v::r,o,w,xs,h,hl=>by
  simp only [List.length_cons] at hl
  have h1:=jI (o:=o) v h
  rw [List.setIfInBounds_toArray] at h1
  have h2:=xN r (o+1) _ _ h1 (by simp;omega)
  rw [pI _ _ _ _ (by omega)] at h2
  exact h2
theorem mC (t:TypeId) (x y:Operand) (g f:Nat) (c:Array Value) (T:TypeId) (old:List Value) (hd:o.dst=none) (ho:o.op=.store t x y) (hw:Region.wanted o (yielded ops a.tmps)=true) (hx:a.eval x=.pointer (some ⟨g,f,none⟩)) (hy:a.eval y=.agg c) (hg:w.heap[g]?=some (.cells old.toArray T (0,0)))
  (hs:f+c.size≤old.length) (hz:(Tryz.prog.info? t).map (·.size)=some c.size) (h1:c.all (·.oneCell')=true)
  (h:∀ w',Kp (fun b=>b=g) w w'→w'.heap[g]?=some (.cells (over old f c.toList).toArray T (0,0))→w'.heap.size=w.heap.size→wpList Tryz.prog ops Q rest a w'):wpList Tryz.prog ops Q (o::rest) a w:=by
 refine zJ (w.setCells g f c.toList) (eN t x y ho g f c hx hy w (gr hg (by simpa using hs)) hz h1) hw ?_
 rw [hd]
 exact h _ (am _ _ _ _) (xN _ _ _ _ hg (by simpa using hs)) (xM _ _ _ _)
theorem xO (t:TypeId) (x y:Operand) (g f:Nat) (v:Value) (T:TypeId) (old:Array Value) (hd:o.dst=none) (_ho:o.op=.store t x y) (hw:Region.wanted o (yielded ops a.tmps)=true) (he:(execOp a.eval o).run Tryz.prog w=.ok .skip (w.setCell ⟨g,f,none⟩ v)) (hg:w.heap[g]?=some (.cells old T (0,0)))
  (h:∀ w',Kp (fun b=>b=g) w w'→w'.heap[g]?=some (.cells (old.setIfInBounds f v) T (0,0))→w'.heap.size=w.heap.size→wpList Tryz.prog ops Q rest a w'):wpList Tryz.prog ops Q (o::rest) a w:=by
 refine zJ _ he hw ?_
 rw [hd]
 exact h _ (Kp.set _ _ _ _) (jI _ hg) (by simp)
theorem jE (d:Nat) (ty:TypeId) (x:Operand) (b off:Nat) (c:Array Value) (u:TypeDesc) (hd:o.dst=some d) (ho:o.op=.load ty x) (hw:Region.wanted o (yielded ops a.tmps)=true) (hx:a.eval x=.pointer (some ⟨b,off,none⟩)) (hc:Lies w b off c)
  (hu:Tryz.prog.underlying ty=some u) (hr:u.isRow=true) (hi:(Tryz.prog.info? ty).map (·.size)=some c.size) (h:wpList Tryz.prog ops Q rest (a.put (some d) (.agg c)) w):wpList Tryz.prog ops Q (o::rest) a w:=
 jT d _ _ hd hw (jQ ty x ho b off hx c u hc hu hr hi) h
theorem qG (d:Nat) (f:FuncId) (args:Array Value) (R:Value→World→Prop) (hd:o.dst=some d) (hw:Region.wanted o (yielded ops a.tmps)=true) (he:(execOp a.eval o).run Tryz.prog w=.ok (.enter f args) w) (hC:Calls Tryz.prog f args w fun e w'=>∃ v,e=.returned v∧R v w')
  (h:∀ v w',R v w'→wpList Tryz.prog ops Q rest (a.put (some d) v) w'):wpList Tryz.prog ops Q (o::rest) a w:=by
 refine wpList_step fun K hK=>?_
 rw [if_pos hw]
 unfold Oper.wp
 rw [he,Oper.upon_enter]
 refine hC.mono ?_
 rintro e w' ⟨v,rfl,hR⟩
 rw [hd]
 exact hK _ _ (h v w' hR)
theorem mD {o:Oper} {a:Act} (t:TypeId) (x:Operand) (ho:o.op=.box t x) (c:Array Value) (hx:a.eval x=.agg c) (w:World) (b:Nat) (hb:w.heap.size=b):(execOp a.eval o).run Tryz.prog w=.ok (.value (.pointer (some ⟨b,0,none⟩))) (w.alloc (.cells c t)):=by
 subst hb
 unfold execOp
 simp only [ho,hx]
 simp [Instr.box,newVar,newRow,newObj,Value.cells]
 rfl
theorem tg (d:Nat) (t:TypeId) (x:Operand) (c:Array Value) (hd:o.dst=some d) (ho:o.op=.box t x) (hw:Region.wanted o (yielded ops a.tmps)=true) (hx:a.eval x=.agg c)
  (h:∀ w' b,w.heap.size=b→Below w.heap.size w w'→w'.heap[b]?=some (.cells c t (0,0))→w'.heap.size=b+1→wpList Tryz.prog ops Q rest (a.put (some d) (.pointer (some ⟨b,0,none⟩))) w'):wpList Tryz.prog ops Q (o::rest) a w:=by
 refine jT d _ _ hd hw (mD t x ho c hx w _ rfl) (h _ _ rfl ((Below.refl _ _).alloc (Nat.le_refl _) _) (World.alloc_heap_new w _) (by simp))
theorem qC (d:Nat) (t:TypeId) (z:Array Value) (hd:o.dst=some d) (ho:o.op=.alloc t) (hw:Region.wanted o (yielded ops a.tmps)=true) (hz:(Tryz.prog.info? t).bind (·.zero)=some (.agg z)) (h:∀ w' b,Hid (w.heap.size=b∧Below w.heap.size w w'∧w'.heap[b]?=some (.cells z t (0,0))∧w'.heap.size=b+1)→wpList Tryz.prog ops Q rest (a.put (some d) (.pointer (some ⟨b,0,none⟩))) w'):wpList Tryz.prog ops Q (o::rest) a w:=pR d t z hd ho hw hz fun w' b h1 h2 h3 h4=>h w' b ⟨h1,h2,h3,h4⟩
theorem jt (d:Nat) (t:TypeId) (x:Operand) (c:Array Value) (hd:o.dst=some d) (ho:o.op=.box t x) (hw:Region.wanted o (yielded ops a.tmps)=true) (hx:a.eval x=.agg c) (h:∀ w' b,Hid (w.heap.size=b∧Below w.heap.size w w'∧w'.heap[b]?=some (.cells c t (0,0))∧w'.heap.size=b+1)→wpList Tryz.prog ops Q rest (a.put (some d) (.pointer (some ⟨b,0,none⟩))) w'):wpList Tryz.prog ops Q (o::rest) a w:=tg d t x c hd ho hw hx fun w' b h1 h2 h3 h4=>h w' b ⟨h1,h2,h3,h4⟩
theorem qj (t:TypeId) (x y:Operand) (g:Nat) (c old:Array Value) (hd:o.dst=none) (ho:o.op=.store t x y) (hw:Region.wanted o (yielded ops a.tmps)=true) (hx:a.eval x=.pointer (some ⟨g,0,none⟩)) (hy:a.eval y=.agg c) (hg:w.heap[g]?=some (.cells old t (0,0))) (hz:(Tryz.prog.info? t).map (·.size)=some c.size) (hs:old.size=c.size) (h1:c.all (·.oneCell')=true) (h:∀ w',Hid (Kp (fun b=>b=g) w w'∧w'.heap[g]?=some (.cells c t (0,0))∧w'.heap.size=w.heap.size)→wpList Tryz.prog ops Q rest a w'):wpList Tryz.prog ops Q (o::rest) a w:=qo t x y g c old hd ho hw hx hy hg hz hs h1 fun w' k1 k2 k3=>h w' ⟨k1,k2,k3⟩
theorem aN (t:TypeId) (x y:Operand) (g f:Nat) (c:Array Value) (T:TypeId) (old:List Value) (hd:o.dst=none) (ho:o.op=.store t x y) (hw:Region.wanted o (yielded ops a.tmps)=true) (hx:a.eval x=.pointer (some ⟨g,f,none⟩)) (hy:a.eval y=.agg c) (hg:w.heap[g]?=some (.cells old.toArray T (0,0))) (hs:f+c.size≤old.length) (hz:(Tryz.prog.info? t).map (·.size)=some c.size) (h1:c.all (·.oneCell')=true) (h:∀ w',Hid (Kp (fun b=>b=g) w w'∧w'.heap[g]?=some (.cells (over old f c.toList).toArray T (0,0))∧w'.heap.size=w.heap.size)→wpList Tryz.prog ops Q rest a w'):wpList Tryz.prog ops Q (o::rest) a w:=mC t x y g f c T old hd ho hw hx hy hg hs hz h1 fun w' k1 k2 k3=>h w' ⟨k1,k2,k3⟩
theorem xP (t:TypeId) (x y:Operand) (g f:Nat) (v:Value) (T:TypeId) (old:Array Value) (hd:o.dst=none) (ho:o.op=.store t x y) (hw:Region.wanted o (yielded ops a.tmps)=true) (he:(execOp a.eval o).run Tryz.prog w=.ok .skip (w.setCell ⟨g,f,none⟩ v)) (hg:w.heap[g]?=some (.cells old T (0,0))) (h:∀ w',Hid (Kp (fun b=>b=g) w w'∧w'.heap[g]?=some (.cells (old.setIfInBounds f v) T (0,0))∧w'.heap.size=w.heap.size)→wpList Tryz.prog ops Q rest a w'):wpList Tryz.prog ops Q (o::rest) a w:=xO t x y g f v T old hd ho hw he hg fun w' k1 k2 k3=>h w' ⟨k1,k2,k3⟩
end
end Go.Proofs.YtdeanahpiigonaaGreatDoor.Hm
