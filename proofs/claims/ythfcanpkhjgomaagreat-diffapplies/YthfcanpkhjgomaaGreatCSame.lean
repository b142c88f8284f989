import Derived.Test.YthfcanpkhjgomaaGreatCApp
set_option maxRecDepth 100000
set_option maxHeartbeats 4000000
namespace Go.Proofs.YthfcanpkhjgomaaGreat.Ch
open Go.RowKit
section
variable {P:Program} {ops:Array Oper} {Q:Exit→Act→World→Prop}
def backB (ops:Array Oper):Bool:=(List.range ops.size).all fun i=>((ops[i]?).map fun o=>o.after.all fun e=>!Region.binds .any e||decide (e.on<i)).getD true
theorem back_spec (h:backB ops=true) {i:Nat} {o:Oper} (hi:ops[i]?=some o):∀ e∈o.after,Region.binds .any e=true→e.on<i:=by
 intro e he hb
 have h1:=List.all_eq_true.1 h i (List.mem_range.2 (Array.getElem?_eq_some_iff.1 hi).1)
 rw [hi] at h1
 simp only [Option.map_some,Option.getD_some,Array.all_eq_true_iff_forall_mem] at h1
 have h2:=h1 e he
 rw [hb] at h2
 simpa using h2
end
section
variable {P:Program} {ops:Array Oper} {Q:Exit→Act→World→Prop}
def upd (done:Nat→Bool) (i:Nat):Nat→Bool:=fun j=>if j=i then true else done j
def Closed (ops:Array Oper) (done:Nat→Bool):Prop:=∀ (j:Nat) (o:Oper),ops[j]?=some o→done j=true→∀ e∈o.after,Region.binds .any e=true→done e.on=true
def Deps (o:Oper) (done:Nat→Bool):Prop:=∀ e∈o.after,Region.binds .any e=true→done e.on=true
theorem jk {id:Nat} {a:Act} {w:World} (hm:P.follows .mixedOrders=true) (I:(Nat→Bool)→Act→World→Prop) (hback:backB ops=true) (h0:I (fun _=>false) a w.drew)
  (hs:∀ i o done a w,ops[i]?=some o→I done a w→done i=false→Deps o done→Closed ops done→wpOp P ops Q i (I (upd done i)) a w)
  (hd:∀ done a w,I done a w→(∀ i,i<ops.size→done i=true)→Q .normal a w):(Code.region id ops true).wp P Q a w:=by
 refine wp_region_any hm ?_
 have key:∀ (n:Nat) (listed:Array Bool) (a:Act) (w:World),listed.size=ops.size→listed.toList.count false≤n→I (fun i=>listed.getD i false) a w→Closed ops (fun i=>listed.getD i false)→wpAny P .any ops Q n listed a w:=by
  have full:∀ (listed:Array Bool) (a:Act) (w:World),listed.size=ops.size→I (fun i=>listed.getD i false) a w→Region.ready .any ops listed=[]→Q .normal a w:=by
   intro listed a w hz hI hr
   refine hd _ a w hI ?_
   intro i
   induction i using Nat.strongRecOn with
   | ind i ih=>
    intro hi
    cases hl:listed.getD i false with
    | true=>rfl
    | false=>
     have hm:i∈Region.ready .any ops listed:=by
      refine mem_ready.2 ⟨?_,ops[i],by simp [hi],fun e he hb=>?_⟩
      ·have:i<listed.size:=by omega
       simp [Array.getD,this] at hl ⊢
       exact hl
      ·have hlt:=back_spec hback (i:=i) (o:=ops[i]) (by simp [hi]) e he hb
       exact ih e.on hlt (by omega)
     rw [hr] at hm
     cases hm
  intro n
  induction n with
  | zero=>
   intro listed a w hz hc hI hC
   have hr:Region.ready .any ops listed=[]:=by
    rw [List.eq_nil_iff_forall_not_mem]
    intro i hi
    obtain ⟨h1,_⟩:=mem_ready.1 hi
    have hlt:i<listed.size:=by
     by_cases h:i<listed.size
     ·exact h
     ·simp [Array.getD,h] at h1
    have:listed.toList.count false=0:=by omega
    rw [List.count_eq_zero] at this
    refine this ?_
    simp [Array.getD,hlt] at h1
    rw [← h1]
    exact Array.getElem_mem_toList hlt
   exact ⟨hr,full listed a w hz hI hr⟩
  | succ n ih=>
   intro listed a w hz hc hI hC
   refine ⟨full listed a w hz hI,fun i hi=>?_⟩
   obtain ⟨h1,o,ho,h2⟩:=mem_ready.1 hi
   have hlt:i<listed.size:=by
    by_cases h:i<listed.size
    ·exact h
    ·simp [Array.getD,h] at h1
   have hnd:listed.getD i false=false:=by
    simp [Array.getD,hlt] at h1 ⊢;exact h1
   have eu:(fun j=>(listed.setIfInBounds i true).getD j false)=upd (fun j=>listed.getD j false) i:=by
    funext j
    unfold upd
    by_cases hji:j=i
    ·subst hji;simp [Array.getD,hlt]
    ·rw [if_neg hji]
     by_cases hjl:j<listed.size
     ·simp only [Array.getD,hjl,Array.size_setIfInBounds,dif_pos]
      exact Array.getElem_setIfInBounds_ne hjl (Ne.symm hji)
     ·simp [Array.getD,hjl]
   refine wpOp_mono (fun a' w' hI'=>ih _ a' w' (by simp [hz]) ?_ (by rw [eu];exact hI') ?_) (hs i o _ a w ho hI hnd h2 hC)
   ·simp [Array.getD,hlt] at h1
    have e1:(listed.setIfInBounds i true).toList=listed.toList.set i true:=by simp
    rw [e1,List.count_set (by simpa using hlt)]
    have:listed.toList[i]'(by simpa using hlt)=false:=by simpa using h1
    rw [this]
    have hpos:0<listed.toList.count false:=List.count_pos_iff.2 (by rw [← this];exact List.getElem_mem _)
    simp only [beq_self_eq_true,if_true,Bool.true_eq_false,beq_iff_eq,if_false,Nat.add_zero]
    omega
   ·rw [eu]
    intro j oj hoj hj e he hb
    unfold upd at hj ⊢
    by_cases hji:j=i
    ·subst hji
     rw [ho] at hoj
     injection hoj with hoj
     subst hoj
     have:=h2 e he hb
     split
     ·rfl
     ·exact this
    ·rw [if_neg hji] at hj
     have:=hC j oj hoj hj e he hb
     split
     ·rfl
     ·exact this
 exact key ops.size _ a _ (by simp) (by simp) (by
  have:(fun i=>(Array.replicate ops.size false).getD i false)=fun _=>false:=by
   funext i
   by_cases h:i<ops.size<;>simp [Array.getD,h]
  rw [this];exact h0) (by
  intro j oj _ hj
  by_cases h:j<ops.size<;>simp [Array.getD,h] at hj)
def Slots (ops:Array Oper) (V:Nat→Value) (t0 t:Array Value) (done:Nat→Bool):Prop:=
 t.size=t0.size∧(∀ d:Nat,(∀ (k:Nat) (o:Oper),ops[k]?=some o→o.dst=some d→done k=false)→t.getD d undef=t0.getD d undef)∧∀ (k:Nat) (o:Oper) (d:Nat),ops[k]?=some o→o.dst=some d→done k=true→t.getD d undef=V k
def dstB (ops:Array Oper) (n:Nat):Bool:=(List.range ops.size).all fun i=>(match (ops[i]?).bind (·.dst) with | some x=>decide (x<n) | none=>true)&&(List.range ops.size).all fun j=>decide (i=j)||(match (ops[i]?).bind (·.dst),(ops[j]?).bind (·.dst) with | some x,some y=>x != y | _,_=>true)
theorem dst_lt {n i d:Nat} {o:Oper} (h:dstB ops n=true) (ho:ops[i]?=some o) (hd:o.dst=some d):d<n:=by
 have h1:=List.all_eq_true.1 h i (List.mem_range.2 (Array.getElem?_eq_some_iff.1 ho).1)
 rw [Bool.and_eq_true] at h1
 have h2:=h1.1
 rw [ho] at h2
 simp only [Option.bind_some,hd] at h2
 simpa using h2
theorem dst_ne {n i j d:Nat} {o p:Oper} (h:dstB ops n=true) (ho:ops[i]?=some o) (hp:ops[j]?=some p) (hd:o.dst=some d) (he:p.dst=some d):i=j:=by
 have h1:=List.all_eq_true.1 h i (List.mem_range.2 (Array.getElem?_eq_some_iff.1 ho).1)
 rw [Bool.and_eq_true] at h1
 have h2:=List.all_eq_true.1 h1.2 j (List.mem_range.2 (Array.getElem?_eq_some_iff.1 hp).1)
 rw [ho,hp] at h2
 simp only [Option.bind_some,hd,he,bne_self_eq_false,Bool.or_false,decide_eq_true_eq] at h2
 exact h2
theorem qM {t:Array Value} {d e:Nat} {v:Value} (hd:d<t.size):(t.setIfInBounds d v).getD e undef=if e=d then v else t.getD e undef:=by
 by_cases h:e=d
 ·subst h;simp [Array.getD,hd]
 ·rw [if_neg h]
  by_cases he:e<t.size
  ·simp only [Array.getD,he,Array.size_setIfInBounds,dif_pos]
   exact Array.getElem_setIfInBounds_ne he (Ne.symm h)
  ·simp [Array.getD,he]
variable {V:Nat→Value} {t0 t:Array Value} {done:Nat→Bool}
theorem Slots.put {i d:Nat} {o:Oper} (h:Slots ops V t0 t done) (hB:dstB ops t0.size=true) (ho:ops[i]?=some o) (hd:o.dst=some d):Slots ops V t0 (t.setIfInBounds d (V i)) (upd done i):=by
 obtain ⟨h1,h2,h3⟩:=h
 have hlt:d<t.size:=by rw [h1];exact dst_lt hB ho hd
 refine ⟨by simp [h1],fun e he=>?_,fun k p e hp hpd hk=>?_⟩
 ·rw [qM hlt,if_neg (fun q=>by have:=he i o ho (by rw [hd,q]);simp [upd] at this)]
  refine h2 e fun k p hp hpd=>?_
  have:=he k p hp hpd
  unfold upd at this
  split at this
  ·cases this
  ·exact this
 ·rw [qM hlt]
  split
  ·rename_i q
   subst q
   have:=dst_ne hB ho hp hd hpd
   rw [this]
  ·rename_i q
   refine h3 k p e hp hpd ?_
   unfold upd at hk
   rw [if_neg] at hk
   ·exact hk
   ·intro q2
    subst q2
    rw [ho] at hp
    injection hp with hp
    subst hp
    rw [hd] at hpd
    injection hpd with hpd
    exact q hpd.symm
theorem Slots.skip {i:Nat} {o:Oper} (h:Slots ops V t0 t done) (ho:ops[i]?=some o) (hd:o.dst=none):Slots ops V t0 t (upd done i):=by
 obtain ⟨h1,h2,h3⟩:=h
 refine ⟨h1,fun e he=>h2 e fun k p hp hpd=>?_,fun k p e hp hpd hk=>h3 k p e hp hpd ?_⟩
 ·have:=he k p hp hpd
  unfold upd at this
  split at this
  ·cases this
  ·exact this
 unfold upd at hk
 rw [if_neg] at hk
 ·exact hk
 ·intro q2
  subst q2
  rw [ho] at hp
  injection hp with hp
  subst hp
  rw [hd] at hpd
  cases hpd
def fold (ops:Array Oper) (V:Nat→Value) (t0:Array Value):Nat→Array Value
 | 0=>t0
 | k+1=>match (ops[k]?).bind (·.dst) with | some d=>(fold ops V t0 k).setIfInBounds d (V k) | none=>fold ops V t0 k
theorem fold_slots (hB:dstB ops t0.size=true):∀ m,m≤ops.size→Slots ops V t0 (fold ops V t0 m) (fun k=>decide (k<m))
 | 0,_=>⟨rfl,fun _ _=>rfl,fun k _ _ _ _ h=>by simp at h⟩
 | m+1,hm=>by
  have ih:=fold_slots hB m (by omega)
  have hlt:m<ops.size:=by omega
  have ho:ops[m]?=some ops[m]:=by simp [hlt]
  have eu:(fun k=>decide (k<m+1))=upd (fun k=>decide (k<m)) m:=by
   funext k
   unfold upd
   by_cases h:k=m
   ·subst h;simp
   ·rw [if_neg h];congr 1;simp;omega
  rw [eu,fold,ho]
  simp only [Option.bind_some]
  cases hd:ops[m].dst with
  | none=>exact ih.skip ho hd
  | some d=>exact ih.put hB ho hd
theorem Slots.full {t':Array Value} {done':Nat→Bool} (h:Slots ops V t0 t done) (h':Slots ops V t0 t' done') (hd:∀ i,i<ops.size→done i=true) (hd':∀ i,i<ops.size→done' i=true):t=t':=by
 apply Array.ext
 ·rw [h.1,h'.1]
 ·intro d hd1 hd2
  have e:t.getD d undef=t'.getD d undef:=by
   by_cases hq:∀ (k:Nat) (o:Oper),ops[k]?=some o→o.dst≠some d
   ·rw [h.2.1 d (fun k o ho hk=>absurd hk (hq k o ho)),h'.2.1 d (fun k o ho hk=>absurd hk (hq k o ho))]
   ·simp only [Classical.not_forall,Classical.not_not,ne_eq] at hq
    obtain ⟨k,o,ho,hk⟩:=hq
    have hkl:=(Array.getElem?_eq_some_iff.1 ho).1
    rw [h.2.2 k o d ho hk (hd k hkl),h'.2.2 k o d ho hk (hd' k hkl)]
  simpa [Array.getD,hd1,hd2] using e
theorem Slots.end (h:Slots ops V t0 t done) (hB:dstB ops t0.size=true) (hd:∀ i,i<ops.size→done i=true):t=fold ops V t0 ops.size:=
 h.full (fold_slots hB _ (Nat.le_refl _)) hd (fun i hi=>by simpa using hi)
def IV (ops:Array Oper) (V:Nat→Value) (t0:Array Value) (Mem:(Nat→Bool)→World→Prop) (done:Nat→Bool) (a:Act) (w:World):Prop:=∃ t,a=⟨t,[]⟩∧Slots ops V t0 t done∧Mem done w
variable {Mem:(Nat→Bool)→World→Prop}
theorem iv_val {i d:Nat} {o:Oper} {w:World} (hB:dstB ops t0.size=true) (ho:ops[i]?=some o) (hg:o.guard=none) (hd:o.dst=some d) (hs:Slots ops V t0 t done) (hM:Mem (upd done i) w) (hrun:(execOp (Act.mk t []).eval o).run P w=.ok (.value (V i)) w):wpOp P ops Q i (IV ops V t0 Mem (upd done i)) ⟨t,[]⟩ w:=by
 unfold wpOp
 rw [ho]
 simp only
 rw [if_pos (by simp [Region.wanted,hg])]
 left
 unfold Oper.wp
 rw [hrun,Oper.upon_value,hd]
 exact ⟨_,rfl,hs.put hB ho hd,hM⟩
end
def regOps (n:Nat):Code→Option (Array Oper)
 | .region id ops _=>if id=n then some ops else none
 | .seq a b=>(regOps n a).or (regOps n b)
 | .cond _ a b=>(regOps n a).or (regOps n b)
 | .block _ c=>regOps n c
 | .loop c=>regOps n c
 | .rangeFunc _ _ a b=>(regOps n a).or (regOps n b)
 | .scope c=>regOps n c
 | _=>none
def opsAt (f:Func) (n:Nat):Array Oper:=((f.body).bind (regOps n)).getD #[]
def say (ops:Array Oper) (k:Nat):Option (Option Nat × Op × Option (Nat × Bool)):=(ops[k]?).map fun o=>(o.dst,o.op,o.guard)
theorem jC {ops:Array Oper} {k:Nat} {o:Oper} {x:Option Nat × Op × Option (Nat × Bool)} (h:say ops k=some x) (ho:ops[k]?=some o):o.dst=x.1∧o.op=x.2.1∧o.guard=x.2.2:=by
 unfold say at h
 rw [ho] at h
 injection h with h
 subst h
 exact ⟨rfl,rfl,rfl⟩
def waitB (ops:Array Oper) (k j:Nat):Bool:=((ops[k]?).map fun o=>o.after.any fun e=>Region.binds .any e&&e.on==j).getD false
theorem wait_spec {ops:Array Oper} {k j:Nat} {o:Oper} (h:waitB ops k j=true) (ho:ops[k]?=some o):∃ e∈o.after,Region.binds .any e=true∧e.on=j:=by
 unfold waitB at h
 rw [ho] at h
 simp only [Option.map_some,Option.getD_some,Array.any_eq_true',Bool.and_eq_true,beq_iff_eq] at h
 exact h
theorem waits {ops:Array Oper} {k j:Nat} {o:Oper} {done:Nat→Bool} (h:waitB ops k j=true) (ho:ops[k]?=some o) (hd:Deps o done):done j=true:=by
 obtain ⟨e,he,hb,rfl⟩:=wait_spec h ho
 exact hd e he hb
theorem jM {ops:Array Oper} {k j:Nat} {done:Nat→Bool} (h:waitB ops j k=true) (hc:Closed ops done) (hk:done k=false):done j=false:=by
 cases hj:done j with
 | false=>rfl
 | true=>
  cases ho:ops[j]? with
  | none=>unfold waitB at h;rw [ho] at h;simp at h
  | some o=>
   obtain ⟨e,he,hb,rfl⟩:=wait_spec h ho
   rw [hc j o ho hj e he hb] at hk
   cases hk
def slotB (ops:Array Oper) (k:Nat):Option Nat:=(ops[k]?).bind (·.dst)
theorem Slots.at {ops:Array Oper} {V:Nat→Value} {t0 t:Array Value} {done:Nat→Bool} (h:Slots ops V t0 t done) {k d:Nat} (hk:slotB ops k=some d) (hd:done k=true):t[d]?.getD undef=V k:=by
 unfold slotB at hk
 cases ho:ops[k]? with
 | none=>rw [ho] at hk;cases hk
 | some o=>
  rw [ho] at hk
  have:=h.2.2 k o d ho hk hd
  rwa [Array.getD_eq_getD_getElem?] at this
def freeB (ops:Array Oper) (d:Nat):Bool:=(List.range ops.size).all fun k=>slotB ops k != some d
theorem Slots.old {ops:Array Oper} {V:Nat→Value} {t0 t:Array Value} {done:Nat→Bool} (h:Slots ops V t0 t done) {d:Nat} (hf:freeB ops d=true):t[d]?.getD undef=t0.getD d undef:=by
 have:=h.2.1 d (fun k o ho e=>absurd e <| by
  have h1:=List.all_eq_true.1 hf k (List.mem_range.2 (Array.getElem?_eq_some_iff.1 ho).1)
  unfold slotB at h1
  rw [ho] at h1
  intro e
  simp [e] at h1)
 rwa [Array.getD_eq_getD_getElem?] at this
theorem Slots.yet {ops:Array Oper} {V:Nat→Value} {t0 t:Array Value} {done:Nat→Bool} {n:Nat} (h:Slots ops V t0 t done) (hB:dstB ops n=true) {k d:Nat} (hk:slotB ops k=some d) (hd:done k=false):t[d]?.getD undef=t0.getD d undef:=by
 unfold slotB at hk
 cases ho:ops[k]? with
 | none=>rw [ho] at hk;cases hk
 | some o=>
  rw [ho] at hk
  have:=h.2.1 d (fun k' o' ho' e'=>by
   have:=dst_ne hB ho ho' hk e'
   rw [← this];exact hd)
  rwa [Array.getD_eq_getD_getElem?] at this
section
variable {P:Program} {ops:Array Oper} {Q:Exit→Act→World→Prop} {V:Nat→Value} {t0 t:Array Value} {done:Nat→Bool} {Mem:(Nat→Bool)→World→Prop}
end
theorem upd_ne (done:Nat→Bool) {i j:Nat} (h:j≠i):upd done i j=done j:=by simp [upd,h]
theorem Slots.gt {ops:Array Oper} {V:Nat→Value} {t0 t:Array Value} {done:Nat→Bool} (h:Slots ops V t0 t done) {k d j:Nat} {o:Oper} (hk:slotB ops k=some d) (ho:ops[j]?=some o) (hd:Deps o done) (hw:waitB ops j k=true:=by kernel_rfl):t[d]?.getD undef=V k:=h.at hk (waits hw ho hd)
noncomputable abbrev o13x6:Array Oper:=opsAt Tryz.f13 6
theorem backS:backB o13x6=true:=by kernel_rfl
theorem dstS:dstB o13x6 26=true:=by kernel_rfl
theorem sizeS:o13x6.size=9:=by kernel_rfl
theorem freeS0:freeB o13x6 0=true:=by kernel_rfl
theorem freeS1:freeB o13x6 1=true:=by kernel_rfl
theorem freeS5:freeB o13x6 5=true:=by kernel_rfl
def VS (ga oa gb ob n ca cb k:Nat) (x:Cd):Nat→Value
 | 0=>.slice (some ⟨ga,oa,none⟩) n ca
 | 1=>.int .i64 (k:Int)
 | 2=>.pointer (some ⟨ga,oa+k*71,none⟩)
 | 3=>.agg (cc x)
 | 4=>.slice (some ⟨gb,ob,none⟩) n cb
 | 5=>.int .i64 (k:Int)
 | 6=>.pointer (some ⟨gb,ob+k*71,none⟩)
 | 7=>.agg (cc x)
 | 8=>.bool false
 | _=>undef
theorem sS_0:say o13x6 0=some (some 17,.move (.tmp 0),none):=by kernel_rfl
theorem dS_0:slotB o13x6 0=some 17:=by kernel_rfl
theorem sS_1:say o13x6 1=some (some 18,.move (.tmp 5),none):=by kernel_rfl
theorem dS_1:slotB o13x6 1=some 18:=by kernel_rfl
theorem sS_2:say o13x6 2=some (some 19,.indexAddr 31 (.tmp 17) (.tmp 18),none):=by kernel_rfl
theorem dS_2:slotB o13x6 2=some 19:=by kernel_rfl
theorem sS_3:say o13x6 3=some (some 20,.load 66 (.tmp 19),none):=by kernel_rfl
theorem dS_3:slotB o13x6 3=some 20:=by kernel_rfl
theorem sS_4:say o13x6 4=some (some 21,.move (.tmp 1),none):=by kernel_rfl
theorem dS_4:slotB o13x6 4=some 21:=by kernel_rfl
theorem sS_5:say o13x6 5=some (some 22,.move (.tmp 5),none):=by kernel_rfl
theorem dS_5:slotB o13x6 5=some 22:=by kernel_rfl
theorem sS_6:say o13x6 6=some (some 23,.indexAddr 31 (.tmp 21) (.tmp 22),none):=by kernel_rfl
theorem dS_6:slotB o13x6 6=some 23:=by kernel_rfl
theorem sS_7:say o13x6 7=some (some 24,.load 66 (.tmp 23),none):=by kernel_rfl
theorem dS_7:slotB o13x6 7=some 24:=by kernel_rfl
theorem sS_8:say o13x6 8=some (some 25,.binOp .neq 66 (.tmp 20) (.tmp 24) 66,none):=by kernel_rfl
theorem regS (ga oa gb ob n ca cb k:Nat) (x:Cd)  (t0:Array Value) (wr:World) {Q:Exit→Act→World→Prop} (ht:t0.size=26) (h0:t0.getD 0 undef=.slice (some ⟨ga,oa,none⟩) n ca) (h1:t0.getD 1 undef=.slice (some ⟨gb,ob,none⟩) n cb) (h5:t0.getD 5 undef=.int .i64 (k:Int))
  (hk:k<n) (ha:Lies wr ga (oa+k*71) (cc x)) (hb:Lies wr gb (ob+k*71) (cc x))
  (hQ:Q .normal ⟨fold o13x6 (VS ga oa gb ob n ca cb k x) t0 9,[]⟩ wr.drew):(Code.region 6 o13x6 true).wp Tryz.prog Q ⟨t0,[]⟩ wr:=by
 have hB:dstB o13x6 t0.size=true:=by rw [ht];exact dstS
 have kI:(k:Int)<(n:Int):=by omega
 have k0:(0:Int)≤(k:Int):=by omega
 refine jk (by kernel_rfl) (IV o13x6 (VS ga oa gb ob n ca cb k x) t0 (fun done w=>w=(wr.drew))) backS ⟨t0,rfl,⟨rfl,fun _ _=>rfl,fun _ _ _ _ _ h=>by cases h⟩,by simp⟩ ?_ ?_
 rotate_left 1
 ·rintro done a w ⟨t,rfl,hS,hw⟩ hall
  rw [hS.end hB hall,sizeS]
  rw [hw]
  exact hQ
 ·rintro j op done a w ho ⟨t,rfl,hS,hw⟩ hnd hdep hcl
  have e0:t[0]?.getD undef=.slice (some ⟨ga,oa,none⟩) n ca:=(hS.old freeS0).trans h0
  have e1:t[1]?.getD undef=.slice (some ⟨gb,ob,none⟩) n cb:=(hS.old freeS1).trans h1
  have e5:t[5]?.getD undef=.int .i64 (k:Int):=(hS.old freeS5).trans h5
  have hlt:j<9:=by rw [← sizeS];exact (Array.getElem?_eq_some_iff.1 ho).1
  match j,hlt,ho,hnd,hdep with
  | 0,_,ho,hnd,hdep=>
   obtain ⟨hd,hop,hgd⟩:=jC sS_0 ho
   refine iv_val hB ho hgd hd hS (by simpa [upd] using hw) ?_
   unfold execOp
   simp only [hop]
   simp [e0,VS,go_sem]
  | 1,_,ho,hnd,hdep=>
   obtain ⟨hd,hop,hgd⟩:=jC sS_1 ho
   refine iv_val hB ho hgd hd hS (by simpa [upd] using hw) ?_
   unfold execOp
   simp only [hop]
   simp [e5,VS,go_sem]
  | 2,_,ho,hnd,hdep=>
   obtain ⟨hd,hop,hgd⟩:=jC sS_2 ho
   have x17:=hS.gt dS_0 ho hdep
   simp only [VS] at x17
   have x18:=hS.gt dS_1 ho hdep
   simp only [VS] at x18
   refine iv_val hB ho hgd hd hS (by simpa [upd] using hw) ?_
   unfold execOp
   simp only [hop]
   simp [x17,x18,VS,kI,k0,addr_add,go_sem]
  | 3,_,ho,hnd,hdep=>
   obtain ⟨hd,hop,hgd⟩:=jC sS_3 ho
   have x19:=hS.gt dS_2 ho hdep
   simp only [VS] at x19
   refine iv_val hB ho hgd hd hS (by simpa [upd] using hw) ?_
   exact exec_load (a:=⟨t,[]⟩) 66 _ hop ga (oa+k*71) (by show t.getD 19 undef=_;rw [Array.getD_eq_getD_getElem?];exact x19) (cc x) _ (by rw [hw];exact (ha).drew ⟨1,rfl⟩) under55 rfl (by rw [size55,jl])
  | 4,_,ho,hnd,hdep=>
   obtain ⟨hd,hop,hgd⟩:=jC sS_4 ho
   refine iv_val hB ho hgd hd hS (by simpa [upd] using hw) ?_
   unfold execOp
   simp only [hop]
   simp [e1,VS,go_sem]
  | 5,_,ho,hnd,hdep=>
   obtain ⟨hd,hop,hgd⟩:=jC sS_5 ho
   refine iv_val hB ho hgd hd hS (by simpa [upd] using hw) ?_
   unfold execOp
   simp only [hop]
   simp [e5,VS,go_sem]
  | 6,_,ho,hnd,hdep=>
   obtain ⟨hd,hop,hgd⟩:=jC sS_6 ho
   have x21:=hS.gt dS_4 ho hdep
   simp only [VS] at x21
   have x22:=hS.gt dS_5 ho hdep
   simp only [VS] at x22
   refine iv_val hB ho hgd hd hS (by simpa [upd] using hw) ?_
   unfold execOp
   simp only [hop]
   simp [x21,x22,VS,kI,k0,addr_add,go_sem]
  | 7,_,ho,hnd,hdep=>
   obtain ⟨hd,hop,hgd⟩:=jC sS_7 ho
   have x23:=hS.gt dS_6 ho hdep
   simp only [VS] at x23
   refine iv_val hB ho hgd hd hS (by simpa [upd] using hw) ?_
   exact exec_load (a:=⟨t,[]⟩) 66 _ hop gb (ob+k*71) (by show t.getD 23 undef=_;rw [Array.getD_eq_getD_getElem?];exact x23) (cc x) _ (by rw [hw];exact (hb).drew ⟨1,rfl⟩) under55 rfl (by rw [size55,jl])
  | 8,_,ho,hnd,hdep=>
   obtain ⟨hd,hop,hgd⟩:=jC sS_8 ho
   have x20:=hS.gt dS_3 ho hdep
   simp only [VS] at x20
   have x24:=hS.gt dS_7 ho hdep
   simp only [VS] at x24
   refine iv_val hB ho hgd hd hS (by simpa [upd] using hw) ?_
   exact exec_neq55' (a:=⟨t,[]⟩) _ _ hop (cc x) (cc x) (by show t.getD 20 undef=_;rw [Array.getD_eq_getD_getElem?];exact x20) (by show t.getD 24 undef=_;rw [Array.getD_eq_getD_getElem?];exact x24) x x rfl rfl false (by simp) _
theorem foldS (ga oa gb ob n ca cb k:Nat) (x:Cd) (t0:Array Value):fold o13x6 (VS ga oa gb ob n ca cb k x) t0 9=(((((((((t0.setIfInBounds 17 (.slice (some ⟨ga,oa,none⟩) n ca)).setIfInBounds 18 (.int .i64 (k:Int))).setIfInBounds 19 (.pointer (some ⟨ga,oa+k*71,none⟩))).setIfInBounds 20 (.agg (cc x))).setIfInBounds 21 (.slice (some ⟨gb,ob,none⟩) n cb)).setIfInBounds 22 (.int .i64 (k:Int))).setIfInBounds 23 (.pointer (some ⟨gb,ob+k*71,none⟩))).setIfInBounds 24 (.agg (cc x))).setIfInBounds 25 (.bool false)):=by kernel_rfl
theorem same_any (ao bo:Option Addr) (cp cq:Nat) (L:List Cd) (w:World) (ha:HasA w (.slice ao L.length cp) L) (hb:HasA w (.slice bo L.length cq) L) (hn:L.length≤1000000):
  Calls Tryz.prog 13 #[.slice ao L.length cp,.slice bo L.length cq] w fun e w'=>e=.returned (.bool true)∧Drew w w':=by
 obtain ⟨n,hn'⟩:∃ n,L.length=n:=⟨_,rfl⟩
 have HA:=hid ha
 have HB:=hid hb
 have HN:=hid hn'
 rw [hn'] at hn HA HB ⊢
 have nI:((n:Int) != (n:Int))=false:=by simp
 clear ha hb hn'
 go_enter Tryz.func13,Tryz.ntmps13
 go_wp2
 go_loopg [5] n (fun gh i wr=>∃ k:Nat,k≤n∧gh=n-k∧i=.int .i64 (k:Int)∧Hid (Drew w wr))
 case atStart=>exact ⟨0,Nat.zero_le _,rfl,rfl,Drew.refl w⟩
 case round=>
  obtain ⟨k,hk,rfl,rfl,HR⟩:=hrel
  by_cases hlt:k<n
  ·obtain ⟨x,hx⟩:∃ x,L[k]?=some x:=⟨L[k]'(by rw [HN.out];exact hlt),by simp⟩
   obtain ⟨ga,oa,rfl,la⟩:=(HA.out.below HR.out.below).at hx
   obtain ⟨gb,ob,rfl,lb⟩:=(HB.out.below HR.out.below).at hx
   have HL:=hid (And.intro la lb)
   have kI:(k:Int)<(n:Int):=by omega
   clear hx la lb
   go_upto_region 6 with fail
   refine regS ga oa gb ob n cp cq k x _ wr rfl rfl rfl rfl hlt HL.out.1 HL.out.2 ?_
   rw [foldS]
   obtain ⟨wz,hwz⟩:∃ wz,wr.drew=wz:=⟨_,rfl⟩
   have HG2:Hid (Drew w wz):=by rw [← hwz];exact HR.out.trans ⟨1,rfl⟩
   rw [hwz]
   clear hwz
   go_simp
   go_wp2
   go_roundg (n-(k+1))
   case measure=>omega
   case rel=>exact ⟨k+1,by omega,rfl,by go_num,HG2.out⟩
  ·obtain rfl:k=n:=by omega
   have kI:¬ (k:Int)<(k:Int):=by omega
   go_wp2
   go_ret
   exact ⟨rfl,HR.out⟩
end Go.Proofs.YthfcanpkhjgomaaGreat.Ch
