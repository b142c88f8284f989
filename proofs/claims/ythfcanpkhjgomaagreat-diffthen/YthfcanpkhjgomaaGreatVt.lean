import Derived.Test.YthfcanpkhjgomaaGreatDKids
import Derived.Test.YthfcanpkhjgomaaGreatVs
set_option maxRecDepth 100000
set_option maxHeartbeats 8000000
namespace Go.Proofs.YthfcanpkhjgomaaGreat.Ch
open Go.RowKit
theorem yielded_at {ops:Array Oper} {t:Array Value} {k d:Nat} (hk:slotB ops k=some d):yielded ops t k=(match t[d]? with | some (.bool b)=>some b | _=>none):=by
 unfold slotB at hk
 unfold yielded
 rw [hk]
 rfl
theorem wanted_yes {ops:Array Oper} {t:Array Value} {o:Oper} {k d:Nat} {b:Bool} (hg:o.guard=some (k,b)) (hk:slotB ops k=some d) (hv:t[d]?.getD undef=.bool b):Region.wanted o (yielded ops t)=true:=by
 unfold Region.wanted
 rw [hg]
 simp only
 rw [yielded_at hk]
 cases h:t[d]? with
 | none=>rw [h] at hv;simp [undef] at hv
 | some v=>rw [h] at hv;simp at hv;subst hv;simp
theorem wanted_no {ops:Array Oper} {t:Array Value} {o:Oper} {k d:Nat} {b c:Bool} (hg:o.guard=some (k,b)) (hk:slotB ops k=some d) (hv:t[d]?.getD undef=.bool c) (hn:(c==b)=false):Region.wanted o (yielded ops t)=false:=by
 unfold Region.wanted
 rw [hg]
 simp only
 rw [yielded_at hk]
 cases h:t[d]? with
 | none=>rw [h] at hv;simp [undef] at hv
 | some v=>rw [h] at hv;simp at hv;subst hv;simpa using hn
section
variable {P:Program} {ops:Array Oper} {Q:Exit→Act→World→Prop} {V:Nat→Value} {t0 t:Array Value} {done:Nat→Bool} {Mem:(Nat→Bool)→World→Prop}
theorem wanted_none {o:Oper} {y:Nat→Option Bool} (hg:o.guard=none):Region.wanted o y=true:=by simp [Region.wanted,hg]
end
section
variable {F:Fence} {n0:Nat} {P:Program} {ops:Array Oper} {Q:Exit→Act→World→Prop}
theorem inv_regionIn {id:Nat} {a:Act} {w:World} (hm:P.follows .mixedOrders=true) (I:(Nat→Bool)→Act→World→Prop) (hback:backB ops=true) (h0:I (fun _=>false) a w.drew)
  (hs:∀ i o done a w,ops[i]?=some o→I done a w→done i=false→Deps o done→Closed ops done→wpOpIn F n0 P ops Q i (I (upd done i)) a w)
  (hd:∀ done a w,I done a w→(∀ i,i<ops.size→done i=true)→Q .normal a w):(Code.region id ops true).wpIn F n0 P Q a w:=by
 refine wpIn_region_any hm ?_
 have key:∀ (n:Nat) (listed:Array Bool) (a:Act) (w:World),listed.size=ops.size→listed.toList.count false≤n→I (fun i=>listed.getD i false) a w→Closed ops (fun i=>listed.getD i false)→wpAnyIn F n0 P .any ops Q n listed a w:=by
  have full:∀ (listed:Array Bool) (a:Act) (w:World),listed.size=ops.size→I (fun i=>listed.getD i false) a w→Region.ready .any ops listed=[]→Q .normal a w:=by
   intro listed a w hz hI hr
   refine hd _ a w hI ?_
   intro i
   induction i using Nat.strongRecOn with
   | ind i ih=>
    intro hi
    cases hl:listed.getD i false with
    | true=>rfl
    | false=>
     have hm:i∈Region.ready .any ops listed:=by
      refine mem_ready.2 ⟨?_,ops[i],by simp [hi],fun e he hb=>?_⟩
      ·have:i<listed.size:=by omega
       simp [Array.getD,this] at hl ⊢
       exact hl
      ·have hlt:=back_spec hback (i:=i) (o:=ops[i]) (by simp [hi]) e he hb
       exact ih e.on hlt (by omega)
     rw [hr] at hm
     cases hm
  intro n
  induction n with
  | zero=>
   intro listed a w hz hc hI hC
   have hr:Region.ready .any ops listed=[]:=by
    rw [List.eq_nil_iff_forall_not_mem]
    intro i hi
    obtain ⟨h1,_⟩:=mem_ready.1 hi
    have hlt:i<listed.size:=by
     by_cases h:i<listed.size
     ·exact h
     ·simp [Array.getD,h] at h1
    have:listed.toList.count false=0:=by omega
    rw [List.count_eq_zero] at this
    refine this ?_
    simp [Array.getD,hlt] at h1
    rw [← h1]
    exact Array.getElem_mem_toList hlt
   exact ⟨hr,full listed a w hz hI hr⟩
  | succ n ih=>
   intro listed a w hz hc hI hC
   refine ⟨full listed a w hz hI,fun i hi=>?_⟩
   obtain ⟨h1,o,ho,h2⟩:=mem_ready.1 hi
   have hlt:i<listed.size:=by
    by_cases h:i<listed.size
    ·exact h
    ·simp [Array.getD,h] at h1
   have hnd:listed.getD i false=false:=by
    simp [Array.getD,hlt] at h1 ⊢;exact h1
   have eu:(fun j=>(listed.setIfInBounds i true).getD j false)=upd (fun j=>listed.getD j false) i:=by
    funext j
    unfold upd
    by_cases hji:j=i
    ·subst hji;simp [Array.getD,hlt]
    ·rw [if_neg hji]
     by_cases hjl:j<listed.size
     ·simp only [Array.getD,hjl,Array.size_setIfInBounds,dif_pos]
      exact Array.getElem_setIfInBounds_ne hjl (Ne.symm hji)
     ·simp [Array.getD,hjl]
   refine wpOpIn_mono (fun a' w' hI'=>ih _ a' w' (by simp [hz]) ?_ (by rw [eu];exact hI') ?_) (hs i o _ a w ho hI hnd h2 hC)
   ·simp [Array.getD,hlt] at h1
    have e1:(listed.setIfInBounds i true).toList=listed.toList.set i true:=by simp
    rw [e1,List.count_set (by simpa using hlt)]
    have:listed.toList[i]'(by simpa using hlt)=false:=by simpa using h1
    rw [this]
    have hpos:0<listed.toList.count false:=List.count_pos_iff.2 (by rw [← this];exact List.getElem_mem _)
    simp only [beq_self_eq_true,if_true,Bool.true_eq_false,beq_iff_eq,if_false,Nat.add_zero]
    omega
   ·rw [eu]
    intro j oj hoj hj e he hb
    unfold upd at hj ⊢
    by_cases hji:j=i
    ·subst hji
     rw [ho] at hoj
     injection hoj with hoj
     subst hoj
     have:=h2 e he hb
     split
     ·rfl
     ·exact this
    ·rw [if_neg hji] at hj
     have:=hC j oj hoj hj e he hb
     split
     ·rfl
     ·exact this
 exact key ops.size _ a _ (by simp) (by simp) (by
  have:(fun i=>(Array.replicate ops.size false).getD i false)=fun _=>false:=by
   funext i
   by_cases h:i<ops.size<;>simp [Array.getD,h]
  rw [this];exact h0) (by
  intro j oj _ hj
  by_cases h:j<ops.size<;>simp [Array.getD,h] at hj)
variable {V:Nat→Value} {t0 t:Array Value} {done:Nat→Bool} {Mem:(Nat→Bool)→World→Prop}
theorem iv_valI {i d:Nat} {o:Oper} {w w':World} (hF:∀ f,F.fn f) (hB:dstB ops t0.size=true) (ho:ops[i]?=some o) (hg:Region.wanted o (yielded ops t)=true) (hd:o.dst=some d) (hs:Slots ops V t0 t done) (hn:∀ c,o.op≠.defer c) (hM:Mem (upd done i) w') (hrun:(execOp (Act.mk t []).eval o).run P w=.ok (.value (V i)) w'):wpOpIn F n0 P ops Q i (IV ops V t0 Mem (upd done i)) ⟨t,[]⟩ w:=by
 unfold wpOpIn
 rw [ho]
 simp only
 rw [if_pos hg]
 refine ⟨fun f _=>hF f,?_⟩
 rw [Oper.semAt_plain _ _ _ hn,hrun,Oper.uponIn_value,hd]
 exact ⟨_,rfl,hs.put hB ho hd,hM⟩
theorem iv_storeI {i:Nat} {o:Oper} {w w':World} (hF:∀ f,F.fn f) (ho:ops[i]?=some o) (hg:Region.wanted o (yielded ops t)=true) (hd:o.dst=none) (hs:Slots ops V t0 t done) (hn:∀ c,o.op≠.defer c) (hM:Mem (upd done i) w') (hrun:(execOp (Act.mk t []).eval o).run P w=.ok .skip w'):wpOpIn F n0 P ops Q i (IV ops V t0 Mem (upd done i)) ⟨t,[]⟩ w:=by
 unfold wpOpIn
 rw [ho]
 simp only
 rw [if_pos hg]
 refine ⟨fun f _=>hF f,?_⟩
 rw [Oper.semAt_plain _ _ _ hn,hrun,Oper.uponIn_skip,hd]
 exact ⟨t,rfl,hs.skip ho hd,hM⟩
theorem iv_callI {i d:Nat} {o:Oper} {w:World} (f:FuncId) (args:Array Value) (hF:∀ f,F.fn f) (hD:F.depth.isSome=true→1≤n0) (hB:dstB ops t0.size=true) (ho:ops[i]?=some o) (hg:Region.wanted o (yielded ops t)=true) (hd:o.dst=some d) (hs:Slots ops V t0 t done) (hn:∀ c,o.op≠.defer c) (hrun:(execOp (Act.mk t []).eval o).run P w=.ok (.enter f args) w) (hC:CallsIn F (n0-1) P f args w fun e w'=>e=.returned (V i)∧Mem (upd done i) w'):wpOpIn F n0 P ops Q i (IV ops V t0 Mem (upd done i)) ⟨t,[]⟩ w:=by
 unfold wpOpIn
 rw [ho]
 simp only
 rw [if_pos hg]
 refine ⟨fun f _=>hF f,?_⟩
 rw [Oper.semAt_plain _ _ _ hn,hrun,Oper.uponIn_enter]
 refine ⟨hD,CallsIn.mono hC ?_⟩
 rintro e w' ⟨rfl,hM⟩
 rw [hd]
 exact ⟨_,rfl,hs.put hB ho hd,hM⟩
end
def kA (x:Kid):Array Value:=(kdC x).toArray
abbrev Pr:=Option Nat × Option Nat
def ordA (A B:List Kid) (i j:Nat):Int:=match A[i]?,B[j]? with
 | none,_=>1
 | some _,none=>-1
 | some x,some y=>cmpB x.nm y.nm
def itm (A B:List Kid) (i j:Nat):Pr:=(if ordA A B i j≤0 then some i else none,if 0≤ordA A B i j then some j else none)
def ni (A B:List Kid) (i j:Nat):Nat:=if ordA A B i j≤0 then i+1 else i
def nj (A B:List Kid) (i j:Nat):Nat:=if 0≤ordA A B i j then j+1 else j
def mgF (A B:List Kid):Nat→Nat→Nat→List Pr
 | 0,_,_=>[]
 | f+1,i,j=>if i<A.length∨j<B.length then itm A B i j::mgF A B f (ni A B i j) (nj A B i j) else []
def rem (A B:List Kid) (i j:Nat):Nat:=(A.length-i)+(B.length-j)
theorem ord_left {A B:List Kid} {i j:Nat} (_h:i<A.length∨j<B.length) (ho:ordA A B i j≤0):i<A.length:=by
 unfold ordA at ho
 by_cases hi:i<A.length
 ·exact hi
 ·rw [List.getElem?_eq_none (by omega)] at ho
  simp at ho
theorem ord_right {A B:List Kid} {i j:Nat} (h:i<A.length∨j<B.length) (ho:0≤ordA A B i j):j<B.length:=by
 unfold ordA at ho
 by_cases hj:j<B.length
 ·exact hj
 ·have hi:i<A.length:=by omega
  rw [List.getElem?_eq_none (l:=B) (by omega),List.getElem?_eq_getElem hi] at ho
  simp at ho
theorem rem_next {A B:List Kid} {i j:Nat} (h:i<A.length∨j<B.length):rem A B (ni A B i j) (nj A B i j)<rem A B i j:=by
 unfold rem ni nj
 by_cases h1:ordA A B i j≤0
 ·have:=ord_left h h1
  rw [if_pos h1]
  split
  ·rename_i h2
   have:=ord_right h h2
   omega
  ·omega
 ·have h2:0≤ordA A B i j:=by omega
  have:=ord_right h h2
  rw [if_neg h1,if_pos h2]
  omega
theorem mgF_succ (A B:List Kid) (f i j:Nat):mgF A B (f+1) i j=if i<A.length∨j<B.length then itm A B i j::mgF A B f (ni A B i j) (nj A B i j) else []:=rfl
theorem mgF_more (A B:List Kid):∀ (f i j:Nat),rem A B i j≤f→mgF A B (f+1) i j=mgF A B f i j
 | 0,i,j,h=>by
  unfold rem at h
  rw [mgF_succ,if_neg (by omega)]
  rfl
 | f+1,i,j,h=>by
  rw [mgF_succ A B (f+1) i j,mgF_succ A B f i j]
  split
  ·rename_i hc
   rw [mgF_more A B f _ _ (by have:=rem_next hc;omega)]
  ·rfl
theorem mgF_enough (A B:List Kid) (i j:Nat):∀ k,mgF A B (rem A B i j+k) i j=mgF A B (rem A B i j) i j
 | 0=>rfl
 | k+1=>by rw [← Nat.add_assoc,mgF_more A B _ i j (by omega),mgF_enough A B i j k]
def mg (A B:List Kid) (i j:Nat):List Pr:=mgF A B (rem A B i j) i j
theorem mg_step {A B:List Kid} {i j:Nat} (h:i<A.length∨j<B.length):mg A B i j=itm A B i j::mg A B (ni A B i j) (nj A B i j):=by
 have h1:=rem_next h
 obtain ⟨k,hk⟩:∃ k,rem A B i j=rem A B (ni A B i j) (nj A B i j)+k+1:=⟨rem A B i j-rem A B (ni A B i j) (nj A B i j)-1,by omega⟩
 unfold mg
 rw [hk,mgF_succ,if_pos h,mgF_enough]
theorem mg_done {A B:List Kid} {i j:Nat} (h:¬ (i<A.length∨j<B.length)):mg A B i j=[]:=by
 unfold mg rem
 rw [show A.length-i+(B.length-j)=0 by omega]
 rfl
theorem mg_len (A B:List Kid) (i j:Nat):(mg A B i j).length≤rem A B i j:=by
 have:∀ f i j,(mgF A B f i j).length≤f:=by
  intro f
  induction f with
  | zero=>intro i j;simp [mgF]
  | succ f ih=>
   intro i j
   rw [mgF_succ]
   split
   ·simp only [List.length_cons];have:=ih (ni A B i j) (nj A B i j);omega
   ·simp
 exact this _ _ _
theorem itm_neg {A B:List Kid} {i j:Nat} (h:ordA A B i j<0):itm A B i j=(some i,none)∧ni A B i j=i+1∧nj A B i j=j:=by
 unfold itm ni nj
 rw [if_pos (by omega),if_neg (by omega),if_pos (by omega),if_neg (by omega)]
 exact ⟨rfl,rfl,rfl⟩
theorem itm_pos {A B:List Kid} {i j:Nat} (h:0<ordA A B i j):itm A B i j=(none,some j)∧ni A B i j=i∧nj A B i j=j+1:=by
 unfold itm ni nj
 rw [if_neg (by omega),if_pos (by omega),if_neg (by omega),if_pos (by omega)]
 exact ⟨rfl,rfl,rfl⟩
theorem itm_zero {A B:List Kid} {i j:Nat} (h:ordA A B i j=0):itm A B i j=(some i,some j)∧ni A B i j=i+1∧nj A B i j=j+1:=by
 unfold itm ni nj
 rw [if_pos (by omega),if_pos (by omega),if_pos (by omega),if_pos (by omega)]
 exact ⟨rfl,rfl,rfl⟩
theorem snoc_mg {A B:List Kid} {i j:Nat} {pre:List Pr} (hc:i<A.length∨j<B.length) (h:pre++mg A B i j=mg A B 0 0):(pre++[itm A B i j])++mg A B (ni A B i j) (nj A B i j)=mg A B 0 0:=by
 rw [List.append_assoc,List.singleton_append,← mg_step hc];exact h
theorem compareK_any (g1 o1 g2 o2:Nat) (c1 c2:Kid) (w:World) (h1:Lies w g1 o1 (kA c1)) (h2:Lies w g2 o2 (kA c2)):
  Calls Tryz.prog 95 #[.pointer (some ⟨g1,o1,none⟩),.pointer (some ⟨g2,o2,none⟩)] w fun e w'=>e=.returned (.int .i64 (cmpB c1.nm c2.nm))∧Drew w w':=
 compareKids_any g1 o1 g2 o2 c1.nm c2.nm w (h1 0 _ rfl) (h2 0 _ rfl)
attribute [local go_sem] Oper.semAt_some
theorem backQ:backB (opsAt Tryz.f125 4)=true:=by kernel_rfl
theorem dstQ:dstB (opsAt Tryz.f125 4) 57=true:=by kernel_rfl
theorem sizeQ:(opsAt Tryz.f125 4).size=9:=by kernel_rfl
theorem freeQ1:freeB (opsAt Tryz.f125 4) 1=true:=by kernel_rfl
theorem freeQ2:freeB (opsAt Tryz.f125 4) 2=true:=by kernel_rfl
theorem freeQ3:freeB (opsAt Tryz.f125 4) 3=true:=by kernel_rfl
theorem freeQ5:freeB (opsAt Tryz.f125 4) 5=true:=by kernel_rfl
theorem freeQ6:freeB (opsAt Tryz.f125 4) 6=true:=by kernel_rfl
theorem sQ_0:say (opsAt Tryz.f125 4) 0=some (some 20,.load 186 (.tmp 3),none):=by kernel_rfl
theorem dQ_0:slotB (opsAt Tryz.f125 4) 0=some 20:=by kernel_rfl
theorem sQ_1:say (opsAt Tryz.f125 4) 1=some (some 21,.load 184 (.tmp 1),none):=by kernel_rfl
theorem dQ_1:slotB (opsAt Tryz.f125 4) 1=some 21:=by kernel_rfl
theorem sQ_2:say (opsAt Tryz.f125 4) 2=some (some 22,.move (.tmp 5),none):=by kernel_rfl
theorem dQ_2:slotB (opsAt Tryz.f125 4) 2=some 22:=by kernel_rfl
theorem sQ_3:say (opsAt Tryz.f125 4) 3=some (some 23,.indexAddr 184 (.tmp 21) (.tmp 22),none):=by kernel_rfl
theorem dQ_3:slotB (opsAt Tryz.f125 4) 3=some 23:=by kernel_rfl
theorem sQ_4:say (opsAt Tryz.f125 4) 4=some (some 24,.load 184 (.tmp 2),none):=by kernel_rfl
theorem dQ_4:slotB (opsAt Tryz.f125 4) 4=some 24:=by kernel_rfl
theorem sQ_5:say (opsAt Tryz.f125 4) 5=some (some 25,.move (.tmp 6),none):=by kernel_rfl
theorem dQ_5:slotB (opsAt Tryz.f125 4) 5=some 25:=by kernel_rfl
theorem sQ_6:say (opsAt Tryz.f125 4) 6=some (some 26,.indexAddr 184 (.tmp 24) (.tmp 25),none):=by kernel_rfl
theorem dQ_6:slotB (opsAt Tryz.f125 4) 6=some 26:=by kernel_rfl
theorem sQ_7:say (opsAt Tryz.f125 4) 7=some (some 27,.call { callee:=.value (.tmp 20),args:=#[.tmp 23,.tmp 26],argTypes:=#[187,187] },none):=by kernel_rfl
theorem dQ_7:slotB (opsAt Tryz.f125 4) 7=some 27:=by kernel_rfl
theorem sQ_8:say (opsAt Tryz.f125 4) 8=some (some 9,.assign (.tmp 27),none):=by kernel_rfl
def VQ (ga oa n cp i gb ob m cq j:Nat) (cm:Int):Nat→Value
 | 0=>.func (.func 95) #[] #[]
 | 1=>.slice (some ⟨ga,oa,none⟩) n cp
 | 2=>.int .i64 (i:Int)
 | 3=>.pointer (some ⟨ga,oa+i*2,none⟩)
 | 4=>.slice (some ⟨gb,ob,none⟩) m cq
 | 5=>.int .i64 (j:Int)
 | 6=>.pointer (some ⟨gb,ob+j*2,none⟩)
 | 7=>.int .i64 cm
 | 8=>.int .i64 cm
 | _=>undef
theorem regQ (ga oa n cp i gb ob m cq j:Nat) (cm:Int) (nn Ba Bb Bf:Nat) (t0:Array Value) (wr:World) {Q:Exit→Act→World→Prop} (ht:t0.size=57) (h1:t0.getD 1 undef=.pointer (some ⟨Ba,0,none⟩)) (h2:t0.getD 2 undef=.pointer (some ⟨Bb,0,none⟩)) (h3:t0.getD 3 undef=.pointer (some ⟨Bf,0,none⟩)) (h5:t0.getD 5 undef=.int .i64 (i:Int)) (h6:t0.getD 6 undef=.int .i64 (j:Int))
  (x y:Kid) (hi:i<n) (hj:j<m) (ca:wr.cell? ⟨Ba,0,none⟩=some (.slice (some ⟨ga,oa,none⟩) n cp)) (cb:wr.cell? ⟨Bb,0,none⟩=some (.slice (some ⟨gb,ob,none⟩) m cq)) (cf:wr.cell? ⟨Bf,0,none⟩=some (.func (.func 95) #[] #[])) (lx:Lies wr ga (oa+i*2) (kA x)) (ly:Lies wr gb (ob+j*2) (kA y)) (hcm:cmpB x.nm y.nm=cm)
  (hQ:∀ w,Drew wr w→Q .normal ⟨fold (opsAt Tryz.f125 4) (VQ ga oa n cp i gb ob m cq j cm) t0 9,[]⟩ w):(Code.region 4 (opsAt Tryz.f125 4) true).wpIn Fence.wide nn Tryz.prog Q ⟨t0,[]⟩ wr:=by
 have hB:dstB (opsAt Tryz.f125 4) t0.size=true:=by rw [ht];exact dstQ
 have iI:(i:Int)<(n:Int):=by omega
 have i0:(0:Int)≤(i:Int):=by omega
 have jI:(j:Int)<(m:Int):=by omega
 have j0:(0:Int)≤(j:Int):=by omega
 have h0M:Drew wr wr.drew:=⟨1,rfl⟩
 refine inv_regionIn (by kernel_rfl) (IV (opsAt Tryz.f125 4) (VQ ga oa n cp i gb ob m cq j cm) t0 (fun _ w=>Drew wr w)) backQ ⟨t0,rfl,⟨rfl,fun _ _=>rfl,fun _ _ _ _ _ h=>by cases h⟩,h0M⟩ ?_ ?_
 rotate_left 1
 ·rintro done a w ⟨t,rfl,hS,hw⟩ hall
  rw [hS.end hB hall,sizeQ]
  exact hQ w hw
 ·rintro jz op done a w ho ⟨t,rfl,hS,hw⟩ hnd hdep hcl
  have e1:t[1]?.getD undef=.pointer (some ⟨Ba,0,none⟩):=(hS.old freeQ1).trans h1
  have e2:t[2]?.getD undef=.pointer (some ⟨Bb,0,none⟩):=(hS.old freeQ2).trans h2
  have e3:t[3]?.getD undef=.pointer (some ⟨Bf,0,none⟩):=(hS.old freeQ3).trans h3
  have e5:t[5]?.getD undef=.int .i64 (i:Int):=(hS.old freeQ5).trans h5
  have e6:t[6]?.getD undef=.int .i64 (j:Int):=(hS.old freeQ6).trans h6
  have hlt:jz<9:=by rw [← sizeQ];exact (Array.getElem?_eq_some_iff.1 ho).1
  match jz,hlt,ho,hnd,hdep with
  | 0,_,ho,hnd,hdep=>
   obtain ⟨hd,hop,hgd⟩:=say_of sQ_0 ho
   refine iv_valI (fun _=>trivial) hB ho (wanted_none hgd) hd hS (by intro c;rw [hop];intro h;cases h) hw ?_
   have c:=(hw.cell _).trans cf
   unfold execOp
   simp only [hop]
   simp [e3,c,VQ,go_sem]
  | 1,_,ho,hnd,hdep=>
   obtain ⟨hd,hop,hgd⟩:=say_of sQ_1 ho
   refine iv_valI (fun _=>trivial) hB ho (wanted_none hgd) hd hS (by intro c;rw [hop];intro h;cases h) hw ?_
   have c:=(hw.cell _).trans ca
   unfold execOp
   simp only [hop]
   simp [e1,c,VQ,go_sem]
  | 2,_,ho,hnd,hdep=>
   obtain ⟨hd,hop,hgd⟩:=say_of sQ_2 ho
   refine iv_valI (fun _=>trivial) hB ho (wanted_none hgd) hd hS (by intro c;rw [hop];intro h;cases h) hw ?_
   unfold execOp
   simp only [hop]
   simp [e5,VQ,go_sem]
  | 3,_,ho,hnd,hdep=>
   obtain ⟨hd,hop,hgd⟩:=say_of sQ_3 ho
   have x21:t[21]?.getD undef=_:=hS.at dQ_1 (waits (j:=1) (by kernel_rfl) ho hdep)
   simp only [VQ] at x21
   have x22:t[22]?.getD undef=_:=hS.at dQ_2 (waits (j:=2) (by kernel_rfl) ho hdep)
   simp only [VQ] at x22
   refine iv_valI (fun _=>trivial) hB ho (wanted_none hgd) hd hS (by intro c;rw [hop];intro h;cases h) hw ?_
   unfold execOp
   simp only [hop]
   simp [x21,x22,iI,i0,addr_add,VQ,go_sem]
  | 4,_,ho,hnd,hdep=>
   obtain ⟨hd,hop,hgd⟩:=say_of sQ_4 ho
   refine iv_valI (fun _=>trivial) hB ho (wanted_none hgd) hd hS (by intro c;rw [hop];intro h;cases h) hw ?_
   have c:=(hw.cell _).trans cb
   unfold execOp
   simp only [hop]
   simp [e2,c,VQ,go_sem]
  | 5,_,ho,hnd,hdep=>
   obtain ⟨hd,hop,hgd⟩:=say_of sQ_5 ho
   refine iv_valI (fun _=>trivial) hB ho (wanted_none hgd) hd hS (by intro c;rw [hop];intro h;cases h) hw ?_
   unfold execOp
   simp only [hop]
   simp [e6,VQ,go_sem]
  | 6,_,ho,hnd,hdep=>
   obtain ⟨hd,hop,hgd⟩:=say_of sQ_6 ho
   have x24:t[24]?.getD undef=_:=hS.at dQ_4 (waits (j:=4) (by kernel_rfl) ho hdep)
   simp only [VQ] at x24
   have x25:t[25]?.getD undef=_:=hS.at dQ_5 (waits (j:=5) (by kernel_rfl) ho hdep)
   simp only [VQ] at x25
   refine iv_valI (fun _=>trivial) hB ho (wanted_none hgd) hd hS (by intro c;rw [hop];intro h;cases h) hw ?_
   unfold execOp
   simp only [hop]
   simp [x24,x25,jI,j0,addr_add,VQ,go_sem]
  | 7,_,ho,hnd,hdep=>
   obtain ⟨hd,hop,hgd⟩:=say_of sQ_7 ho
   have x20:t[20]?.getD undef=_:=hS.at dQ_0 (waits (j:=0) (by kernel_rfl) ho hdep)
   simp only [VQ] at x20
   have x23:t[23]?.getD undef=_:=hS.at dQ_3 (waits (j:=3) (by kernel_rfl) ho hdep)
   simp only [VQ] at x23
   have x26:t[26]?.getD undef=_:=hS.at dQ_6 (waits (j:=6) (by kernel_rfl) ho hdep)
   simp only [VQ] at x26
   refine iv_callI 95 #[.pointer (some ⟨ga,oa+i*2,none⟩),.pointer (some ⟨gb,ob+j*2,none⟩)] (fun _=>trivial) (fun h=>by cases h) hB ho (wanted_none hgd) hd hS (by intro c;rw [hop];intro h;cases h) ?_ ?_
   ·skip
    unfold execOp
    simp only [hop]
    simp [x20,x23,x26,go_sem]
   ·exact callsIn_wide.2 ((compareK_any ga (oa+i*2) gb (ob+j*2) x y w (lx.drew hw) (ly.drew hw)).mono fun e w2 h=>⟨by rw [h.1,hcm];rfl,hw.trans h.2⟩)
  | 8,_,ho,hnd,hdep=>
   obtain ⟨hd,hop,hgd⟩:=say_of sQ_8 ho
   have x27:t[27]?.getD undef=_:=hS.at dQ_7 (waits (j:=7) (by kernel_rfl) ho hdep)
   simp only [VQ] at x27
   refine iv_valI (fun _=>trivial) hB ho (wanted_none hgd) hd hS (by intro c;rw [hop];intro h;cases h) hw ?_
   unfold execOp
   simp only [hop]
   simp [x27,VQ,go_sem]
theorem foldQ (ga oa n cp i gb ob m cq j:Nat) (cm:Int) (t0:Array Value):fold (opsAt Tryz.f125 4) (VQ ga oa n cp i gb ob m cq j cm) t0 9=(((((((((t0.setIfInBounds 20 (.func (.func 95) #[] #[])).setIfInBounds 21 (.slice (some ⟨ga,oa,none⟩) n cp)).setIfInBounds 22 (.int .i64 (i:Int))).setIfInBounds 23 (.pointer (some ⟨ga,oa+i*2,none⟩))).setIfInBounds 24 (.slice (some ⟨gb,ob,none⟩) m cq)).setIfInBounds 25 (.int .i64 (j:Int))).setIfInBounds 26 (.pointer (some ⟨gb,ob+j*2,none⟩))).setIfInBounds 27 (.int .i64 cm)).setIfInBounds 9 (.int .i64 cm)):=by kernel_rfl
abbrev Pv (A B:List Kid):Type:={ p:Pr // (∀ i,p.1=some i→i<A.length)∧(∀ j,p.2=some j→j<B.length)∧p≠(none,none) }
def ptP (g o:Nat) (k:Option Nat):Value:=.pointer (k.map fun i=>⟨g,o+i*2,none⟩)
def encP (ga oa gb ob:Nat) {A B:List Kid} (p:Pv A B):Array Value:=#[ptP ga oa p.1.1,ptP gb ob p.1.2]
def KeepD (lo:Nat→Prop) (Ba Bb Bf:Nat) (W W':World):Prop:=W.heap.size≤W'.heap.size∧∀ b,(lo b∨b=Ba∨b=Bb∨b=Bf)→W'.heap[b]?=W.heap[b]?
theorem KeepD.trans {lo:Nat→Prop} {Ba Bb Bf:Nat} {A B C:World} (h:KeepD lo Ba Bb Bf A B) (k:KeepD lo Ba Bb Bf B C):KeepD lo Ba Bb Bf A C:=⟨Nat.le_trans h.1 k.1,fun b hb=>(k.2 b hb).trans (h.2 b hb)⟩
theorem KeepD.refl (lo:Nat→Prop) (Ba Bb Bf:Nat) (W:World):KeepD lo Ba Bb Bf W W:=⟨Nat.le_refl _,fun _ _=>rfl⟩
theorem KeepD.drew {lo:Nat→Prop} {Ba Bb Bf:Nat} {A B:World} (h:Drew A B):KeepD lo Ba Bb Bf A B:=⟨by rw [h.heap];exact Nat.le_refl _,fun b _=>by rw [h.heap]⟩
theorem drew_grown {A B:World} (h:Drew A B):A.grownBy B none:=grown_of h.below
theorem itm_ok {A B:List Kid} {i j:Nat} (h:i<A.length∨j<B.length):(∀ k,(itm A B i j).1=some k→k<A.length)∧(∀ k,(itm A B i j).2=some k→k<B.length)∧itm A B i j≠(none,none):=by
 rcases Int.lt_trichotomy (ordA A B i j) 0 with hn | hz | hp
 ·rw [(itm_neg hn).1]
  exact ⟨(fun k e=>by cases e;exact ord_left h (by omega)),(fun k e=>by cases e),by simp⟩
 ·rw [(itm_zero hz).1]
  exact ⟨(fun k e=>by cases e;exact ord_left h (by omega)),(fun k e=>by cases e;exact ord_right h (by omega)),by simp⟩
 ·rw [(itm_pos hp).1]
  exact ⟨(fun k e=>by cases e),(fun k e=>by cases e;exact ord_right h (by omega)),by simp⟩
theorem mg_short {A B:List Kid} {i j:Nat} {ys:List Pr} (h:i<A.length∨j<B.length) (e:ys++mg A B i j=mg A B 0 0):ys.length<A.length+B.length:=by
 have h1:=mg_len A B 0 0
 rw [← e,mg_step h,List.length_append,List.length_cons] at h1
 unfold rem at h1
 omega
theorem sides1_in (n0:Nat) (hn0:1≤n0) (lo:Nat→Prop) (l Ba Bb Bf ga oa gb ob cp cq:Nat) (ao bo:Option Addr) (A B:List Kid) (J Jx:List (Pv A B)→World→Prop) (W:World) (hJ:AbidesFrom W.heap.size J)
  (hA:∀ i x,A[i]?=some x→ao=some ⟨ga,oa,none⟩∧lo ga∧Lies W ga (oa+i*2) (kA x)) (hB:∀ i x,B[i]?=some x→bo=some ⟨gb,ob,none⟩∧lo gb∧Lies W gb (ob+i*2) (kA x))
  (hn:A.length≤10000) (hm:B.length≤10000)
  (ca:W.cell? ⟨Ba,0,none⟩=some (.slice ao A.length cp)) (cb:W.cell? ⟨Bb,0,none⟩=some (.slice bo B.length cq)) (cf:W.cell? ⟨Bf,0,none⟩=some (.func (.func 95) #[] #[]))
  (hY:∀ pre x W1,J pre W1→(pre++[x]).map (·.1) <+: mg A B 0 0→YieldAt Fence.wide (n0-1) Tryz.prog l (encP ga oa gb ob x) W1 fun e W'=>
   (e=.returned (.bool true)∧J (pre++[x]) W'∧KeepD lo Ba Bb Bf W1 W')∨(e=.returned (.bool false)∧Jx (pre++[x]) W')) (h0:J [] W):
  CallsIn Fence.wide n0 Tryz.prog 125 #[.func (.yield l) #[] #[],.pointer (some ⟨Ba,0,none⟩),.pointer (some ⟨Bb,0,none⟩),.pointer (some ⟨Bf,0,none⟩)] W fun e W'=>(∃ v,e=.returned v)∧
   ((∃ ys,ys.map (·.1)=mg A B 0 0∧J ys W')∨(∃ pre,pre.map (·.1) <+: mg A B 0 0∧Jx pre W')):=by
 obtain ⟨n,hn'⟩:∃ n,A.length=n:=⟨_,rfl⟩
 obtain ⟨m,hm'⟩:∃ m,B.length=m:=⟨_,rfl⟩
 have HN:=hid hn'
 have HM:=hid hm'
 have HA:=hid hA
 have HB:=hid hB
 have HY:=hid hY
 have HJ:=hid hJ
 have HCC:=hid (And.intro ca (And.intro cb cf))
 rw [hn'] at HCC hn
 rw [hm'] at HCC hm
 clear hn' hm' hA hB hY hJ ca cb cf
 refine callsIn_of_wp Tryz.func125 rfl trivial ?_ rfl
 simp only [Tryz.ntmps125,List.size_toArray,List.length_cons,List.length_nil,Nat.reduceAdd,Nat.reduceSub,Array.replicate_succ,Array.replicate_zero,List.push_toArray,List.append_toArray,List.nil_append,List.cons_append]
 gi_wp2
 gi_loopw [5,6] (fun s5 s6 wr=>∃ (i j:Nat) (ys:List (Pv A B)),s5=.int .i64 (i:Int)∧s6=.int .i64 (j:Int)∧i≤n∧j≤m∧Hid (J ys wr∧ys.map (·.1)++mg A B i j=mg A B 0 0∧KeepD lo Ba Bb Bf W wr))
  (fun s5 s6 _=>(n-iOf s5)+(m-iOf s6))
 case atStart=>exact ⟨0,0,[],rfl,rfl,Nat.zero_le _,Nat.zero_le _,h0,by simp,KeepD.refl _ _ _ _ _⟩
 case round=>
  obtain ⟨i,j,ys,rfl,rfl,hi,hj,HI⟩:=hrel
  have ca:wr.cell? ⟨Ba,0,none⟩=some (.slice ao n cp):=(World.cell?_of_block (HI.out.2.2.2 Ba (by simp))).trans HCC.out.1
  have cb:wr.cell? ⟨Bb,0,none⟩=some (.slice bo m cq):=(World.cell?_of_block (HI.out.2.2.2 Bb (by simp))).trans HCC.out.2.1
  have cf:wr.cell? ⟨Bf,0,none⟩=some (.func (.func 95) #[] #[]):=(World.cell?_of_block (HI.out.2.2.2 Bf (by simp))).trans HCC.out.2.2
  by_cases hc:i<A.length∨j<B.length
  ·by_cases h1:i=n
   ·have h1a:¬ ((i:Int)<(n:Int)):=by omega
    have h1b:((i:Int)==(n:Int))=true:=by simp [h1]
    have hjl:j<B.length:=by have:=HN.out;omega
    have hjm:j<m:=by have:=HM.out;omega
    have jI:(j:Int)<(m:Int):=by omega
    have j0:(0:Int)≤(j:Int):=by omega
    obtain ⟨y,hy0⟩:∃ y,B[j]?=some y:=⟨B[j],by simp⟩
    obtain ⟨hbo,_,_⟩:=HB.out j y hy0
    subst hbo
    have hord:0<ordA A B i j:=by unfold ordA;rw [List.getElem?_eq_none (by have:=HN.out;omega)];show (0:Int)<1;omega
    have hJq:=HI.out.1
    have hKq:=HI.out.2.2
    have hok:=itm_ok hc
    rw [(itm_pos hord).1] at hok
    obtain ⟨p,hp⟩:∃ p:Pv A B,p.1=(none,some j):=⟨⟨_,hok⟩,rfl⟩
    obtain ⟨fn,tmps,assign,body,hy,hR⟩:=HY.out ys p wr hJq (by have h1:=snoc_mg hc HI.out.2.1;rw [(itm_pos hord).1] at h1;rw [List.map_append];simp only [List.map_cons,List.map_nil,hp];rw [← h1];exact List.prefix_append _ _)
    have hen:encP ga oa gb ob p=#[ptP ga oa ((none,some j):Pr).1,ptP gb ob ((none,some j):Pr).2]:=by unfold encP;rw [hp]
    rw [hen] at hy
    simp only [ptP,Option.map_some,Option.map_none] at hy
    have HMG:Hid ((ys++[p]).map (·.1)++mg A B i (j+1)=mg A B 0 0):=by
     have h1:=snoc_mg hc HI.out.2.1
     rw [(itm_pos hord).1,(itm_pos hord).2.1,(itm_pos hord).2.2] at h1
     show _=_
     rw [List.map_append]
     simpa [hp] using h1
    have HKQ:=hid hKq
    have PRE:Hid ((ys++[p]).map (·.1) <+: mg A B 0 0):=by rw [← HMG.out];exact List.prefix_append _ _
    clear hok hen HI hJq hKq hc hord
    gi_wp2
    refine hR.mono ?_
    rintro e W3 (⟨rfl,hJ3,hk3⟩ | ⟨rfl,hJx3⟩)
    ·have HJ3:Hid (J (ys++[p]) W3∧KeepD lo Ba Bb Bf W W3):=⟨hJ3,HKQ.out.trans hk3⟩
     clear hJ3 hk3 hR hy HKQ
     gi_wp2
     go_roundw
     case rel=>exact ⟨i,j+1,_,by go_num,by go_num,by omega,by omega,HJ3.out.1,HMG.out,HJ3.out.2⟩
     case measure=>simp;omega
    ·have HX3:Hid (Jx (ys++[p]) W3):=hJx3
     clear hJx3 hR hy HKQ
     gi_wp2
     refine bodyPost_ret (results_none rfl _ _ _) rfl ?_
     exact ⟨⟨_,rfl⟩,.inr ⟨_,PRE.out,HX3.out⟩⟩
   ·have h1a:(i:Int)<(n:Int):=by omega
    have h1b:((i:Int)==(n:Int))=false:=by simp;omega
    have i0:(0:Int)≤(i:Int):=by omega
    have hil:i<A.length:=by have:=HN.out;omega
    obtain ⟨x,hx0⟩:∃ x,A[i]?=some x:=⟨A[i],by simp⟩
    obtain ⟨hao,hga,lx⟩:=HA.out i x hx0
    subst hao
    by_cases h2:j=m
    ·have h2b:((j:Int)==(m:Int))=true:=by simp [h2]
     have hord:ordA A B i j<0:=by unfold ordA;rw [hx0,List.getElem?_eq_none (by have:=HM.out;omega)];show (-1:Int)<0;omega
     have hJq:=HI.out.1
     have hKq:=HI.out.2.2
     have hok:=itm_ok hc
     rw [(itm_neg hord).1] at hok
     obtain ⟨p,hp⟩:∃ p:Pv A B,p.1=(some i,none):=⟨⟨_,hok⟩,rfl⟩
     obtain ⟨fn,tmps,assign,body,hy,hR⟩:=HY.out ys p wr hJq (by have h1:=snoc_mg hc HI.out.2.1;rw [(itm_neg hord).1] at h1;rw [List.map_append];simp only [List.map_cons,List.map_nil,hp];rw [← h1];exact List.prefix_append _ _)
     have hen:encP ga oa gb ob p=#[ptP ga oa ((some i,none):Pr).1,ptP gb ob ((some i,none):Pr).2]:=by unfold encP;rw [hp]
     rw [hen] at hy
     simp only [ptP,Option.map_some,Option.map_none] at hy
     have HMG:Hid ((ys++[p]).map (·.1)++mg A B (i+1) j=mg A B 0 0):=by
      have h1:=snoc_mg hc HI.out.2.1
      rw [(itm_neg hord).1,(itm_neg hord).2.1,(itm_neg hord).2.2] at h1
      show _=_
      rw [List.map_append]
      simpa [hp] using h1
     have HKQ:=hid hKq
     have PRE:Hid ((ys++[p]).map (·.1) <+: mg A B 0 0):=by rw [← HMG.out];exact List.prefix_append _ _
     clear hok hen HI hJq hKq hc hord
     gi_wp2
     refine hR.mono ?_
     rintro e W3 (⟨rfl,hJ3,hk3⟩ | ⟨rfl,hJx3⟩)
     ·have HJ3:Hid (J (ys++[p]) W3∧KeepD lo Ba Bb Bf W W3):=⟨hJ3,HKQ.out.trans hk3⟩
      clear hJ3 hk3 hR hy HKQ
      gi_wp2
      go_roundw
      case rel=>exact ⟨i+1,j,_,by go_num,by go_num,by omega,by omega,HJ3.out.1,HMG.out,HJ3.out.2⟩
      case measure=>simp;omega
     ·have HX3:Hid (Jx (ys++[p]) W3):=hJx3
      clear hJx3 hR hy HKQ
      gi_wp2
      refine bodyPost_ret (results_none rfl _ _ _) rfl ?_
      exact ⟨⟨_,rfl⟩,.inr ⟨_,PRE.out,HX3.out⟩⟩
    ·have h2b:((j:Int)==(m:Int))=false:=by simp;omega
     have hjl:j<B.length:=by have:=HM.out;omega
     have jI:(j:Int)<(m:Int):=by omega
     have j0:(0:Int)≤(j:Int):=by omega
     obtain ⟨y,hy0⟩:∃ y,B[j]?=some y:=⟨B[j],by simp⟩
     obtain ⟨hbo,hgb,ly⟩:=HB.out j y hy0
     subst hbo
     have HLX:Hid (Lies wr ga (oa+i*2) (kA x)):=fun q u hq=>(World.cell?_of_block (HI.out.2.2.2 ga (.inl hga))).trans (lx q u hq)
     have HLY:Hid (Lies wr gb (ob+j*2) (kA y)):=fun q u hq=>(World.cell?_of_block (HI.out.2.2.2 gb (.inl hgb))).trans (ly q u hq)
     obtain ⟨cm,hcm⟩:∃ cm,ordA A B i j=cm:=⟨_,rfl⟩
     have hcm2:cmpB x.nm y.nm=cm:=by rw [← hcm];unfold ordA;rw [hx0,hy0]
     gi_wp2
     refine regQ ga oa n cp i gb ob m cq j cm n0 Ba Bb Bf _ wr rfl rfl rfl rfl rfl rfl x y (by have:=HN.out;omega) (by have:=HM.out;omega) ca cb cf HLX.out HLY.out hcm2 fun wz hz=>?_
     rw [foldQ]
     have ca2:wz.cell? ⟨Ba,0,none⟩=some (.slice (some ⟨ga,oa,none⟩) n cp):=(hz.cell _).trans ca
     have cb2:wz.cell? ⟨Bb,0,none⟩=some (.slice (some ⟨gb,ob,none⟩) m cq):=(hz.cell _).trans cb
     have hJq:J ys wz:=HJ.out _ _ _ none HI.out.1 (drew_grown hz) (fun r e=>by cases e)
     have hKq:KeepD lo Ba Bb Bf W wz:=HI.out.2.2.trans (KeepD.drew hz)
     clear ca cb cf hcm2 HLX HLY lx ly hga hgb hx0 hy0 hz
     rcases Int.lt_trichotomy cm 0 with hneg | hzero | hpos
     ·have o1:cm≤0:=by omega
      have o2:¬ 0≤cm:=by omega
      have hord:ordA A B i j<0:=by rw [hcm];exact hneg
      go_simp
      have hok:=itm_ok hc
      rw [(itm_neg hord).1] at hok
      obtain ⟨p,hp⟩:∃ p:Pv A B,p.1=(some i,none):=⟨⟨_,hok⟩,rfl⟩
      obtain ⟨fn,tmps,assign,body,hy,hR⟩:=HY.out ys p wz hJq (by have h1:=snoc_mg hc HI.out.2.1;rw [(itm_neg hord).1] at h1;rw [List.map_append];simp only [List.map_cons,List.map_nil,hp];rw [← h1];exact List.prefix_append _ _)
      have hen:encP ga oa gb ob p=#[ptP ga oa ((some i,none):Pr).1,ptP gb ob ((some i,none):Pr).2]:=by unfold encP;rw [hp]
      rw [hen] at hy
      simp only [ptP,Option.map_some,Option.map_none] at hy
      have HMG:Hid ((ys++[p]).map (·.1)++mg A B (i+1) j=mg A B 0 0):=by
       have h1:=snoc_mg hc HI.out.2.1
       rw [(itm_neg hord).1,(itm_neg hord).2.1,(itm_neg hord).2.2] at h1
       show _=_
       rw [List.map_append]
       simpa [hp] using h1
      have HKQ:=hid hKq
      have PRE:Hid ((ys++[p]).map (·.1) <+: mg A B 0 0):=by rw [← HMG.out];exact List.prefix_append _ _
      clear hok hen HI hJq hKq hc hord
      gi_wp2
      refine hR.mono ?_
      rintro e W3 (⟨rfl,hJ3,hk3⟩ | ⟨rfl,hJx3⟩)
      ·have HJ3:Hid (J (ys++[p]) W3∧KeepD lo Ba Bb Bf W W3):=⟨hJ3,HKQ.out.trans hk3⟩
       clear hJ3 hk3 hR hy HKQ
       gi_wp2
       go_roundw
       case rel=>exact ⟨i+1,j,_,by go_num,by go_num,by omega,by omega,HJ3.out.1,HMG.out,HJ3.out.2⟩
       case measure=>simp;omega
      ·have HX3:Hid (Jx (ys++[p]) W3):=hJx3
       clear hJx3 hR hy HKQ
       gi_wp2
       refine bodyPost_ret (results_none rfl _ _ _) rfl ?_
       exact ⟨⟨_,rfl⟩,.inr ⟨_,PRE.out,HX3.out⟩⟩
     ·subst hzero
      have hord:ordA A B i j=0:=hcm
      go_simp
      have hok:=itm_ok hc
      rw [(itm_zero hord).1] at hok
      obtain ⟨p,hp⟩:∃ p:Pv A B,p.1=(some i,some j):=⟨⟨_,hok⟩,rfl⟩
      obtain ⟨fn,tmps,assign,body,hy,hR⟩:=HY.out ys p wz hJq (by have h1:=snoc_mg hc HI.out.2.1;rw [(itm_zero hord).1] at h1;rw [List.map_append];simp only [List.map_cons,List.map_nil,hp];rw [← h1];exact List.prefix_append _ _)
      have hen:encP ga oa gb ob p=#[ptP ga oa ((some i,some j):Pr).1,ptP gb ob ((some i,some j):Pr).2]:=by unfold encP;rw [hp]
      rw [hen] at hy
      simp only [ptP,Option.map_some] at hy
      have HMG:Hid ((ys++[p]).map (·.1)++mg A B (i+1) (j+1)=mg A B 0 0):=by
       have h1:=snoc_mg hc HI.out.2.1
       rw [(itm_zero hord).1,(itm_zero hord).2.1,(itm_zero hord).2.2] at h1
       show _=_
       rw [List.map_append]
       simpa [hp] using h1
      have HKQ:=hid hKq
      have PRE:Hid ((ys++[p]).map (·.1) <+: mg A B 0 0):=by rw [← HMG.out];exact List.prefix_append _ _
      clear hok hen HI hJq hKq hc hord
      gi_wp2
      refine hR.mono ?_
      rintro e W3 (⟨rfl,hJ3,hk3⟩ | ⟨rfl,hJx3⟩)
      ·have HJ3:Hid (J (ys++[p]) W3∧KeepD lo Ba Bb Bf W W3):=⟨hJ3,HKQ.out.trans hk3⟩
       clear hJ3 hk3 hR hy HKQ
       gi_wp2
       go_roundw
       case rel=>exact ⟨i+1,j+1,_,by go_num,by go_num,by omega,by omega,HJ3.out.1,HMG.out,HJ3.out.2⟩
       case measure=>simp;omega
      ·have HX3:Hid (Jx (ys++[p]) W3):=hJx3
       clear hJx3 hR hy HKQ
       gi_wp2
       refine bodyPost_ret (results_none rfl _ _ _) rfl ?_
       exact ⟨⟨_,rfl⟩,.inr ⟨_,PRE.out,HX3.out⟩⟩
     ·have o1:¬ cm≤0:=by omega
      have o2:0≤cm:=by omega
      have hord:0<ordA A B i j:=by rw [hcm];exact hpos
      go_simp
      have hok:=itm_ok hc
      rw [(itm_pos hord).1] at hok
      obtain ⟨p,hp⟩:∃ p:Pv A B,p.1=(none,some j):=⟨⟨_,hok⟩,rfl⟩
      obtain ⟨fn,tmps,assign,body,hy,hR⟩:=HY.out ys p wz hJq (by have h1:=snoc_mg hc HI.out.2.1;rw [(itm_pos hord).1] at h1;rw [List.map_append];simp only [List.map_cons,List.map_nil,hp];rw [← h1];exact List.prefix_append _ _)
      have hen:encP ga oa gb ob p=#[ptP ga oa ((none,some j):Pr).1,ptP gb ob ((none,some j):Pr).2]:=by unfold encP;rw [hp]
      rw [hen] at hy
      simp only [ptP,Option.map_some,Option.map_none] at hy
      have HMG:Hid ((ys++[p]).map (·.1)++mg A B i (j+1)=mg A B 0 0):=by
       have h1:=snoc_mg hc HI.out.2.1
       rw [(itm_pos hord).1,(itm_pos hord).2.1,(itm_pos hord).2.2] at h1
       show _=_
       rw [List.map_append]
       simpa [hp] using h1
      have HKQ:=hid hKq
      have PRE:Hid ((ys++[p]).map (·.1) <+: mg A B 0 0):=by rw [← HMG.out];exact List.prefix_append _ _
      clear hok hen HI hJq hKq hc hord
      gi_wp2
      refine hR.mono ?_
      rintro e W3 (⟨rfl,hJ3,hk3⟩ | ⟨rfl,hJx3⟩)
      ·have HJ3:Hid (J (ys++[p]) W3∧KeepD lo Ba Bb Bf W W3):=⟨hJ3,HKQ.out.trans hk3⟩
       clear hJ3 hk3 hR hy HKQ
       gi_wp2
       go_roundw
       case rel=>exact ⟨i,j+1,_,by go_num,by go_num,by omega,by omega,HJ3.out.1,HMG.out,HJ3.out.2⟩
       case measure=>simp;omega
      ·have HX3:Hid (Jx (ys++[p]) W3):=hJx3
       clear hJx3 hR hy HKQ
       gi_wp2
       refine bodyPost_ret (results_none rfl _ _ _) rfl ?_
       exact ⟨⟨_,rfl⟩,.inr ⟨_,PRE.out,HX3.out⟩⟩
  ·have hin:i=n:=by have:=HN.out;have:=HM.out;omega
   have hjm:j=m:=by have:=HN.out;have:=HM.out;omega
   have h1:¬ ((i:Int)<(n:Int)):=by omega
   have h2:¬ ((j:Int)<(m:Int)):=by omega
   have HF:Hid (ys.map (·.1)=mg A B 0 0∧J ys wr):=by
    have:=HI.out.2.1
    rw [mg_done hc,List.append_nil] at this
    exact ⟨this,HI.out.1⟩
   clear HI hc
   gi_wp2
   refine bodyPost_end (results_none rfl _ _ _) rfl ?_
   exact ⟨⟨_,rfl⟩,.inl ⟨ys,HF.out.1,HF.out.2⟩⟩
end Go.Proofs.YthfcanpkhjgomaaGreat.Ch
namespace Go.Proofs.YthfcanpkhjgomaaGreat
open Go.RowKit
def orP (x y:Option Addr):Option Addr:=match x with | some a=>some a | none=>y
theorem cmpOr_any (g:Nat) (x y:Option Addr) (w:World) (h0:w.cell? ⟨g,0,none⟩=some (.pointer x)) (h1:w.cell? ⟨g,1,none⟩=some (.pointer y)):
  Calls Tryz.prog 96 #[.slice (some ⟨g,0,none⟩) 2 2] w fun e w'=>e=.returned (.pointer (orP x y))∧w'=w:=by
 go_enter Tryz.func96,Tryz.ntmps96
 go_wp2
 go_loopg [8] 2 (fun gh i wr=>∃ k:Nat,k≤2∧gh=2-k∧i=.int .i64 (k:Int)∧wr=w∧(1≤k→x=none)∧(2≤k→y=none))
 case atStart=>exact ⟨0,by omega,rfl,rfl,rfl,by omega,by omega⟩
 case round=>
  obtain ⟨k,hk,rfl,rfl,hw,hx,hy⟩:=hrel
  subst hw
  match k,hk,hx,hy with
  | 0,_,_,_=>
   rw [show ((0:Nat):Int)=0 from rfl]
   cases x with
   | none=>
    go_wp2
    go_roundg (2-(0+1))
    case measure=>omega
    case rel=>exact ⟨1,by omega,rfl,rfl,rfl,by simp,by omega⟩
   | some a=>
    go_wp2
    go_ret
    exact ⟨rfl,rfl⟩
  | 1,_,hx,_=>
   obtain rfl:=hx (by omega)
   rw [show ((1:Nat):Int)=1 from rfl]
   cases y with
   | none=>
    go_wp2
    go_roundg (2-(1+1))
    case measure=>omega
    case rel=>exact ⟨2,by omega,rfl,rfl,rfl,by simp,by simp⟩
   | some a=>
    go_wp2
    go_ret
    exact ⟨rfl,rfl⟩
  | 2,_,hx,hy=>
   obtain rfl:=hx (by omega)
   obtain rfl:=hy (by omega)
   rw [show ((2:Nat):Int)=2 from rfl]
   go_wp2
   go_ret
   exact ⟨rfl,rfl⟩
theorem kidsOf_none (w:World):Calls Tryz.prog 94 #[.pointer none] w fun e w'=>e=.returned (.slice none 0 0)∧w'=w:=by
 go_enter Tryz.func94,Tryz.ntmps94
 go_wp2
 all_goals go_ret
 all_goals exact ⟨rfl,rfl⟩
theorem sides_any (va vb:Value) (w:World) (ha:va.oneCell'=true) (hb:vb.oneCell'=true):Calls Tryz.prog 93 #[va,vb,.func (.func 95) #[] #[]] w fun e w'=>e=.returned (.func (.func 125) #[] #[.pointer (some ⟨w.heap.size,0,none⟩),.pointer (some ⟨w.heap.size+1,0,none⟩),.pointer (some ⟨w.heap.size+1+1,0,none⟩)])∧
  w'=((w.alloc (.cells #[va] 184)).alloc (.cells #[vb] 184)).alloc (.cells #[.func (.func 95) #[] #[]] 186):=by
 have hmf:∀ (fn:Fn) (first cap:Array Value) (w:World),(Instr.makeFunc fn first cap).run Tryz.prog w=.ok (.func fn first cap) w:=fun _ _ _ _=>rfl
 go_enter Tryz.func93,Tryz.ntmps93
 go_wp2
 go_ret
 exact ⟨rfl,rfl⟩
open Ch
theorem AtT.uniq {w:World} {p:Nat} {v v':Vd} {m m':Md} {k k':K} (h:AtT w p v m k) (h':AtT w p v' m' k'):v=v'∧m=m'∧k=k':=by
 obtain ⟨pk,h1,h2⟩:=h
 obtain ⟨pk',h1',h2'⟩:=h'
 obtain ⟨e1,e2,e3⟩:=lies_tc h1 h1'
 subst e3
 exact ⟨e1,e2,h2.uniq h2'⟩
abbrev Si:=Option Kid
def siP (x:Si):Value:=.pointer (x.map fun q=>⟨q.p,0,none⟩)
def siV (x:Si):Vd:=match x with | none=>DO.vz | some q=>q.v
def siF (x:Si):F:=match x with | none=>.nil | some q=>q.k.flat
def siI (x:Si):List Kid:=match x with | none=>[] | some q=>q.k.items
def siZ (x:Si):Nat:=match x with | none=>0 | some q=>q.k.flat.size+1
def SiAt (w:World) (x:Si):Prop:=∀ q,x=some q→AtT w q.p q.v q.m q.k∧q.k.plain w∧Tr w q.p
theorem SiAt.grow {w w':World} {x:Si} (h:SiAt w x) (hg:G w w'):SiAt w' x:=fun q e=>⟨(h q e).1.grow hg,K.plain_grow hg (h q e).2.1,(h q e).2.2.grow hg⟩
theorem siF_items (x:Si):kidsF (siI x)=siF x:=by
 cases x with
 | none=>rfl
 | some q=>exact kidsF_items q.k
def cvV (v:Vd):Ch.Vd:=⟨v.kind,v.mode,v.size,v.sum,v.len⟩
theorem cvV_inj {v v':Vd} (h:cvV v=cvV v'):v=v':=by
 obtain ⟨k,m,s,l,hl⟩:=v
 obtain ⟨k',m',s',l',hl'⟩:=v'
 simp only [cvV,Ch.Vd.mk.injEq] at h
 obtain ⟨rfl,rfl,rfl,rfl⟩:=h
 rfl
def toC (d:DO.Dif):Cd:=⟨ofB (joinL d.p),cvV d.o,cvV d.n⟩
def dl (L:List By) (x y:Si):List DO.Dif:=DO.df L (siV x) (siV y)++DO.wk ((siF x).size+(siF y).size+1) L (siF x) (siF y)
theorem wk_more:∀ (N M:Nat) (L:List By) (f g:F),f.size+g.size<N→f.size+g.size<M→DO.wk N L f g=DO.wk M L f g:=by
 intro N
 induction N with
 | zero=>intro M L f g h _;omega
 | succ N ih=>
  intro M L f g h h2
  cases M with
  | zero=>omega
  | succ M=>
   cases f with
   | nil=>cases g with
    | nil=>rfl
    | cons nm v m k r=>
     simp only [F.size] at h h2
     simp only [DO.wk]
     rw [ih M _ .nil k (by simp [F.size];omega) (by simp [F.size];omega),ih M _ .nil r (by simp [F.size];omega) (by simp [F.size];omega)]
   | cons nm v m k r=>cases g with
    | nil=>
     simp only [F.size] at h h2
     simp only [DO.wk]
     rw [ih M _ k .nil (by simp [F.size];omega) (by simp [F.size];omega),ih M _ r .nil (by simp [F.size];omega) (by simp [F.size];omega)]
    | cons nm2 v2 m2 k2 r2=>
     simp only [F.size] at h h2
     simp only [DO.wk]
     rw [ih M _ k .nil (by simp [F.size];omega) (by simp [F.size];omega),ih M _ r (.cons nm2 v2 m2 k2 r2) (by simp [F.size];omega) (by simp [F.size];omega),
      ih M _ .nil k2 (by simp [F.size];omega) (by simp [F.size];omega),ih M _ (.cons nm v m k r) r2 (by simp [F.size];omega) (by simp [F.size];omega),
      ih M _ k k2 (by omega) (by omega),ih M _ r r2 (by omega) (by omega)]
theorem wk_self:∀ (N:Nat) (L:List By) (f:F),DO.wk N L f f=[]:=by
 intro N
 induction N with
 | zero=>intro L f;rfl
 | succ N ih=>
  intro L f
  cases f with
  | nil=>rfl
  | cons nm v m k r=>
   simp only [DO.wk,DO.belowL_self,Bool.false_eq_true,if_false,ih,DO.df,if_true,List.append_nil]
theorem dl_same {L:List By} {x:Si}:dl L x x=[]:=by
 unfold dl
 rw [wk_self]
 simp [DO.df]
theorem dl_at {w:World} {L:List By} {x y:Si} (hx:SiAt w x) (hy:SiAt w y) (h:siP x=siP y):dl L x y=[]:=by
 cases x with
 | none=>cases y with
  | none=>exact dl_same
  | some q=>simp [siP] at h
 | some q=>cases y with
  | none=>simp [siP] at h
  | some r=>
   simp [siP] at h
   have h1:=(hx q rfl).1
   have h2:=(hy r rfl).1
   rw [h] at h1
   obtain ⟨e1,e2,e3⟩:=h1.uniq h2
   have:dl L (some q) (some r)=dl L (some r) (some r):=by simp only [dl,siV,siF,e1,e3]
   rw [this]
   exact dl_same
def pX (A:List Kid) (i:Option Nat):Si:=match i with | none=>none | some i=>A[i]?
def pNm (A B:List Kid) (p:Pr):ByteArray:=match pX A p.1,pX B p.2 with | some a,_=>a.nm | none,some b=>b.nm | none,none=>⟨#[]⟩
def pD (L:List By) (A B:List Kid) (p:Pr):List DO.Dif:=dl (L++[tl (pNm A B p)]) (pX A p.1) (pX B p.2)
theorem kidsF_drop {A:List Kid} {i:Nat} {x:Kid} (h:A[i]?=some x):kidsF (A.drop i)=.cons x.nm x.v x.m x.k.flat (kidsF (A.drop (i+1))):=by
 obtain ⟨hlt,e⟩:=List.getElem?_eq_some_iff.1 h
 rw [List.drop_eq_getElem_cons hlt,e]
 rfl
theorem tl_data (a:ByteArray):a.toList=a.data.toList:=by simp [ByteArray.toList_eq]
theorem cmp_below (a b:ByteArray):(cmpB a b<0↔belowL (tl a) (tl b)=true)∧(0<cmpB a b↔belowL (tl b) (tl a)=true):=by
 have h:=below_of_cmp (tl a) (tl b)
 have e:cmpB a b=Lib.compareBytes (tl a) (tl b):=by unfold cmpB;show Lib.compareBytes a.data.toList b.data.toList=Lib.compareBytes a.toList b.toList;rw [tl_data,tl_data]
 have h3:Lib.compareBytes (tl a) (tl b)=-1∨Lib.compareBytes (tl a) (tl b)=0∨Lib.compareBytes (tl a) (tl b)=1:=by
  by_cases h1:belowL (tl a) (tl b)=true
  ·exact .inl (h.1.2 h1)
  ·by_cases h2:belowL (tl b) (tl a)=true
   ·exact .inr (.inr (h.2.2.2 h2))
   ·exact .inr (.inl (h.2.1.2 (DO.belowL_eq _ _ (by simpa using h1) (by simpa using h2))))
 rw [e]
 refine ⟨⟨fun hh=>h.1.1 (by omega),fun hh=>by rw [h.1.2 hh];omega⟩,⟨fun hh=>h.2.2.1 (by omega),fun hh=>by rw [h.2.2.2 hh];omega⟩⟩
theorem wk_pairs (L:List By) (A B:List Kid):∀ (r i j N:Nat),Ch.rem A B i j≤r→(kidsF (A.drop i)).size+(kidsF (B.drop j)).size<N→DO.wk N L (kidsF (A.drop i)) (kidsF (B.drop j))=(mg A B i j).flatMap (pD L A B):=by
 intro r
 induction r with
 | zero=>
  intro i j N h hN
  unfold Ch.rem at h
  rw [mg_done (by omega),List.drop_of_length_le (by omega),List.drop_of_length_le (by omega)]
  cases N with
  | zero=>rfl
  | succ N=>rfl
 | succ r ih=>
  intro i j N h hN
  by_cases hc:i<A.length∨j<B.length
  ·rw [mg_step hc,List.flatMap_cons]
   have hrem:=rem_next hc
   rcases Int.lt_trichotomy (ordA A B i j) 0 with hn | hz | hp
   ·have hi:=ord_left hc (by omega)
    obtain ⟨x,hx⟩:∃ x,A[i]?=some x:=⟨A[i],by simp⟩
    rw [(itm_neg hn).1,(itm_neg hn).2.1,(itm_neg hn).2.2]
    rw [(itm_neg hn).2.1,(itm_neg hn).2.2] at hrem
    rw [kidsF_drop hx] at hN ⊢
    simp only [F.size] at hN
    obtain ⟨N,rfl⟩:∃ N',N=N'+1:=⟨N-1,by omega⟩
    have e1:pD L A B (some i,none)=DO.df (L++[tl x.nm]) x.v DO.vz++DO.wk N (L++[tl x.nm]) x.k.flat .nil:=by
     have e0:pNm A B (some i,none)=x.nm:=by simp [pNm,pX,hx]
     simp only [pD,dl,e0,pX,hx,siV,siF]
     rw [wk_more _ N _ _ _ (by omega) (by simp [F.size];omega)]
    rw [e1,← ih (i+1) j N (by omega) (by omega)]
    cases hB:B[j]? with
    | none=>
     have:B.drop j=[]:=List.drop_of_length_le (by simpa using hB)
     rw [this]
     simp only [kidsF,DO.wk,List.append_assoc]
    | some y=>
     rw [kidsF_drop hB,DO.wk]
     have:belowL (tl x.nm) (tl y.nm)=true:=(cmp_below x.nm y.nm).1.1 (by unfold ordA at hn;rw [hx,hB] at hn;exact hn)
     rw [if_pos this,List.append_assoc]
   ·have hi:=ord_left hc (by omega)
    have hj:=ord_right hc (by omega)
    obtain ⟨x,hx⟩:∃ x,A[i]?=some x:=⟨A[i],by simp⟩
    obtain ⟨y,hy⟩:∃ y,B[j]?=some y:=⟨B[j],by simp⟩
    rw [(itm_zero hz).1,(itm_zero hz).2.1,(itm_zero hz).2.2]
    rw [(itm_zero hz).2.1,(itm_zero hz).2.2] at hrem
    rw [kidsF_drop hx,kidsF_drop hy] at hN ⊢
    simp only [F.size] at hN
    obtain ⟨N,rfl⟩:∃ N',N=N'+1:=⟨N-1,by omega⟩
    have e1:pD L A B (some i,some j)=DO.df (L++[tl x.nm]) x.v y.v++DO.wk N (L++[tl x.nm]) x.k.flat y.k.flat:=by
     have e0:pNm A B (some i,some j)=x.nm:=by simp [pNm,pX,hx]
     simp only [pD,dl,e0,pX,hx,hy,siV,siF]
     rw [wk_more _ N _ _ _ (by omega) (by omega)]
    have hc0:cmpB x.nm y.nm=0:=by unfold ordA at hz;rw [hx,hy] at hz;exact hz
    have n1:¬ belowL (tl x.nm) (tl y.nm)=true:=fun e=>by have:=(cmp_below x.nm y.nm).1.2 e;omega
    have n2:¬ belowL (tl y.nm) (tl x.nm)=true:=fun e=>by have:=(cmp_below x.nm y.nm).2.2 e;omega
    rw [e1,← ih (i+1) (j+1) N (by omega) (by omega),DO.wk,if_neg n1,if_neg n2,List.append_assoc]
   ·have hj:=ord_right hc (by omega)
    obtain ⟨y,hy⟩:∃ y,B[j]?=some y:=⟨B[j],by simp⟩
    rw [(itm_pos hp).1,(itm_pos hp).2.1,(itm_pos hp).2.2]
    rw [(itm_pos hp).2.1,(itm_pos hp).2.2] at hrem
    rw [kidsF_drop hy] at hN ⊢
    simp only [F.size] at hN
    obtain ⟨N,rfl⟩:∃ N',N=N'+1:=⟨N-1,by omega⟩
    have e1:pD L A B (none,some j)=DO.df (L++[tl y.nm]) DO.vz y.v++DO.wk N (L++[tl y.nm]) .nil y.k.flat:=by
     have e0:pNm A B (none,some j)=y.nm:=by simp [pNm,pX,hy]
     simp only [pD,dl,e0,pX,hy,siV,siF]
     rw [wk_more _ N _ _ _ (by omega) (by simp [F.size];omega)]
    rw [e1,← ih i (j+1) N (by omega) (by omega)]
    cases hA:A[i]? with
    | none=>
     have:A.drop i=[]:=List.drop_of_length_le (by simpa using hA)
     rw [this]
     simp only [kidsF,DO.wk,List.append_assoc]
    | some x=>
     rw [kidsF_drop hA,DO.wk]
     have hc0:0<cmpB x.nm y.nm:=by unfold ordA at hp;rw [hA,hy] at hp;exact hp
     have n1:¬ belowL (tl x.nm) (tl y.nm)=true:=fun e=>by have:=(cmp_below x.nm y.nm).1.2 e;omega
     rw [if_neg n1,if_pos ((cmp_below x.nm y.nm).2.1 hc0),List.append_assoc]
  ·rw [mg_done hc,List.drop_of_length_le (by omega),List.drop_of_length_le (by omega)]
   cases N with
   | zero=>rfl
   | succ N=>rfl
theorem dl_pairs (L:List By) (x y:Si):dl L x y=DO.df L (siV x) (siV y)++(mg (siI x) (siI y) 0 0).flatMap (pD L (siI x) (siI y)):=by
 unfold dl
 have:=wk_pairs L (siI x) (siI y) _ 0 0 ((siF x).size+(siF y).size+1) (Nat.le_refl _) (by simp only [List.drop_zero,siF_items];omega)
 rw [← this]
 simp only [List.drop_zero,siF_items]
def vcV (v:Ch.Vd):Vd:=⟨v.kind,v.mode,v.size,v.sum,v.len⟩
theorem cvV_vc (v:Ch.Vd):cvV (vcV v)=v:=rfl
def startsB (t:T3) (L:List Cd):Bool:=L.all fun c=>decide (atV t c.path=vcV c.old)
theorem cvar (w:World) (r:Cd) (B:Nat) (hB:w.heap.size=B):Below w.heap.size w ((w.alloc (.cells z55 66)).setRow B (cc r))∧Ch.Lies ((w.alloc (.cells z55 66)).setRow B (cc r)) B 0 (cc r)∧(w.alloc (.cells z55 66)).heap[B]?=some (.cells z55 66 (0,0)):=by
 have n1:=Ch.new_varT w 66 z55 (cc r)
 rw [hB] at n1
 refine ⟨by rw [hB];exact n1.1,fun j u hj=>by simp only [World.cell?,n1.2.1,Nat.zero_add];exact hj,by rw [← hB];exact World.alloc_heap_new w _⟩
theorem vvar (w:World) (v:Vd) (B:Nat) (hB:w.heap.size=B):G w ((w.alloc (.cells (vx Vd.zero).toArray 24)).setRow B (vx v).toArray)∧Lies ((w.alloc (.cells (vx Vd.zero).toArray 24)).setRow B (vx v).toArray) B 0 (vx v).toArray∧Var24 (w.alloc (.cells (vx Vd.zero).toArray 24)) B (vx Vd.zero).toArray:=by
 have n1:=Ch.new_varT w 24 (vx Vd.zero).toArray (vx v).toArray
 rw [hB] at n1
 refine ⟨by have:=n1.1;rwa [← hB] at this ⊢,fun j u hj=>by simp only [World.cell?,n1.2.1,Nat.zero_add];exact hj,by rw [← hB];exact World.alloc_heap_new w _⟩
theorem all_step {α:Type} {f:α→Bool} {L:List α} {k:Nat} {x:α} (h:L[k]?=some x):(L.drop k).all f=(f x&&(L.drop (k+1)).all f):=by
 have hlt:=(List.getElem?_eq_some_iff.1 h).1
 have hx:=(List.getElem?_eq_some_iff.1 h).2
 rw [List.drop_eq_getElem_cons hlt,hx,List.all_cons]
theorem starts_any (p:Nat) (t:T3) (ao:Option Addr) (cp:Nat) (L:List Cd) (w:World) (ht:T1 w p t) (hr:t.2.2.rises) (h:HasA w (.slice ao L.length cp) L) (hn:L.length≤1000000) (hp:∀ c∈L,c.path.size≤1048576):
  Calls Tryz.prog 39 #[.pointer (some ⟨p,0,none⟩),.slice ao L.length cp] w fun e w'=>e=.returned (.bool (startsB t L))∧G w w':=by
 obtain ⟨n,hn'⟩:∃ n,L.length=n:=⟨_,rfl⟩
 have HA:=hid h
 have HN:=hid hn'
 have HP:=hid hp
 have HT:=hid (⟨ht,hr⟩:T1 w p t∧t.2.2.rises)
 rw [hn'] at hn HA ⊢
 clear h hn' hp ht hr
 go_enter Tryz.func39,Tryz.ntmps39
 go_wp2
 go_loopg [11] n (fun gh i wr=>∃ k:Nat,k≤n∧gh=n-k∧i=.int .i64 (k:Int)∧Hid (G w wr)∧Hid (startsB t L=startsB t (L.drop k)))
 case atStart=>exact ⟨0,Nat.zero_le _,rfl,rfl,G.refl _,by show startsB t L=startsB t (L.drop 0);rw [List.drop_zero]⟩
 case round=>
  obtain ⟨k,hk,rfl,rfl,HS,HR⟩:=hrel
  by_cases hlt:k<n
  ·have i1:(k:Int)<(n:Int):=by omega
   have i0:(0:Int)≤(k:Int):=by omega
   obtain ⟨r,hx⟩:∃ r,L[k]?=some r:=⟨L[k]'(by rw [HN.out];exact hlt),by simp⟩
   obtain ⟨ga,oa,rfl,la⟩:=(HA.out.below HS.out).at hx
   have hs:=HP.out r (List.mem_of_getElem? hx)
   have HRK:Hid (startsB t L=(decide (atV t r.path=vcV r.old)&&startsB t (L.drop (k+1)))):=by
    show startsB t L=_
    rw [HR.out];unfold startsB;exact all_step hx
   obtain ⟨B1,hB1⟩:∃ B1,wr.heap.size=B1:=⟨_,rfl⟩
   obtain ⟨g1,lv,hA1⟩:=cvar wr r B1 hB1
   obtain ⟨X,hX⟩:∃ X,cc r=X:=⟨_,rfl⟩
   have HX:Hid (X.size=71∧X.all (·.oneCell')=true):=⟨by rw [← hX];exact cc_size r,by rw [← hX];exact cc_one r⟩
   have HLa:Hid (Ch.Lies wr ga (oa+k*71) (cc r)):=la
   rw [hX] at HLa g1 lv
   obtain ⟨w1,hw1⟩:∃ w1,(wr.alloc (.cells z55 66)).setRow B1 X=w1:=⟨_,rfl⟩
   rw [hw1] at g1 lv
   rw [← hX] at lv
   have HA1:=hid hA1
   have HW1:=hid hw1
   have HS1:Hid (G w w1):=HS.out.trans g1
   have c0:w1.cell? ⟨B1,0,none⟩=some (.string r.path):=lv.path
   have HLV:=hid lv
   have HSP:=hid (at_any p t r.path w1 (HT.out.1.grow HS1.out) HT.out.2 hs)
   obtain ⟨VA,hVA⟩:∃ VA,(vx (atV t r.path)).toArray=VA:=⟨_,rfl⟩
   have HVA:Hid (VA=(vx (atV t r.path)).toArray∧VA.size=35∧VA.all (·.oneCell')=true):=⟨hVA.symm,by rw [← hVA];simp [vx_len],by rw [← hVA];exact vx_one _⟩
   rw [hVA] at HSP
   clear la lv g1 hw1 hA1 hX hx HR
   go_upto_region 4 with (first
    | ((with_reducible refine wpList_exec (.agg X) ?_ ?_ ?_);exact Ch.exec_load 66 _ rfl ga (oa+k*71) rfl X _ HLa.out Ch.under55 rfl (by rw [Ch.size55,HX.out.1]);kernel_rfl)
    | ((with_reducible refine wpList_execW (.pointer (some ⟨B1,0,none⟩)) (wr.alloc (.cells z55 66)) ?_ ?_ ?_);exact Ch.exec_allocT 66 z55 rfl zero55 _ _ hB1;kernel_rfl)
    | ((with_reducible refine wpList_skipW w1 ?_ ?_ ?_);exact (by rw [← HW1.out];exact Ch.exec_storeT 66 _ _ rfl B1 X z55 rfl rfl _ HA1.out (by rw [Ch.size55,HX.out.1]) (by rw [z55_size,HX.out.1]) HX.out.2);kernel_rfl))
   generalize hb:decide (atV t r.path=vcV r.old)=b at *
   generalize (subS t r.path).isSome=sb at *
   obtain ⟨w2,hw2⟩:∃ w2:World,w2=w2:=⟨w1,rfl⟩
   clear hw2 w2
   go_upto_region 5 with (first
    | (go_at_call 82;refine HSP.out.mono ?_;rintro e w2 ⟨rfl,hg2⟩;obtain ⟨B2,hB2⟩:∃ B2,w2.heap.size=B2:=⟨_,rfl⟩;have H2:=vvar w2 (atV t r.path) B2 hB2;rw [← HVA.out.1] at H2;have HS2:Hid (G w w2∧G w1 w2):=⟨HS1.out.trans hg2,hg2⟩;have HV2:=hid H2;obtain ⟨w3,hw3⟩:∃ w3,(w2.alloc (.cells (vx Vd.zero).toArray 24)).setRow B2 VA=w3:=⟨_,rfl⟩;have HW3:=hid hw3;clear hg2 H2 hw3)
    | ((with_reducible refine wpList_execW (.pointer (some ⟨B2,0,none⟩)) (w2.alloc (.cells (vx Vd.zero).toArray 24)) ?_ ?_ ?_);exact (by rw [← hB2];exact exec_alloc24 rfl _);kernel_rfl)
    | ((with_reducible refine wpList_skipW w3 ?_ ?_ ?_);exact (by rw [← HW3.out];exact exec_store24 _ _ rfl B2 VA (vx Vd.zero).toArray rfl rfl _ HV2.out.2.2 HVA.out.2.1 (vx_size _) HVA.out.2.2);kernel_rfl))
   have HV3:Hid (G w w3∧G w1 w3∧Lies w3 B2 0 VA):=by
    have:=HV2.out
    rw [HW3.out] at this
    exact ⟨HS2.out.1.trans this.1,HS2.out.2.trans this.1,this.2.1⟩
   have HO:Hid (Lies w3 B1 1 (vx (vcV r.old)).toArray):=by
    have h1:Ch.Lies w3 B1 0 (cc r):=HLV.out.below HV3.out.2.1
    have:=h1.old;rwa [Nat.zero_add] at this
   obtain ⟨YO,hYO⟩:∃ Y,(vx (vcV r.old)).toArray=Y:=⟨_,rfl⟩
   have HYO:Hid ((vx (vcV r.old)).toArray=YO∧YO.size=35):=⟨hYO,by rw [← hYO];simp [vx_len]⟩
   rw [hYO] at HO
   have HBB:=hid hb
   clear hYO hb HV2 HW3 HS2 HSP HLV HA1 HW1 c0
   cases b with
   | false=>
    have HE:Hid (startsB t L=false):=by
     show startsB t L=false
     rw [HRK.out];rfl
    go_wp2_with (first
     | ((with_reducible refine wpList_exec (.agg VA) ?_ ?_ ?_);exact exec_load24 _ rfl B2 0 rfl VA HVA.out.2.1 HV3.out.2.2;kernel_rfl)
     | ((with_reducible refine wpList_exec (.agg YO) ?_ ?_ ?_);exact exec_load24 _ rfl B1 1 rfl YO HYO.out.2 HO.out;kernel_rfl)
     | ((with_reducible refine wpList_exec (.bool true) ?_ ?_ ?_);exact exec_neq24' _ _ rfl VA YO rfl rfl (atV t r.path) (vcV r.old) HVA.out.1 HYO.out.1.symm true (by rw [HBB.out];rfl) _;kernel_rfl))
    go_ret
    exact ⟨by rw [HE.out];rfl,HV3.out.1⟩
   | true=>
    go_wp2_with (first
     | ((with_reducible refine wpList_exec (.agg VA) ?_ ?_ ?_);exact exec_load24 _ rfl B2 0 rfl VA HVA.out.2.1 HV3.out.2.2;kernel_rfl)
     | ((with_reducible refine wpList_exec (.agg YO) ?_ ?_ ?_);exact exec_load24 _ rfl B1 1 rfl YO HYO.out.2 HO.out;kernel_rfl)
     | ((with_reducible refine wpList_exec (.bool false) ?_ ?_ ?_);exact exec_neq24' _ _ rfl VA YO rfl rfl (atV t r.path) (vcV r.old) HVA.out.1 HYO.out.1.symm false (by rw [HBB.out];rfl) _;kernel_rfl))
    go_roundg (n-(k+1))
    case rel=>exact ⟨k+1,by omega,rfl,by go_num,HV3.out.1,by show startsB t L=startsB t (L.drop (k+1));rw [HRK.out,Bool.true_and]⟩
    case measure=>omega
  ·have i1:¬ (k:Int)<(n:Int):=by omega
   have HE:Hid (startsB t L=true):=by
    show startsB t L=true
    rw [HR.out,List.drop_of_length_le (by have:=HN.out;omega)];rfl
   go_wp2
   go_ret
   exact ⟨by rw [HE.out];rfl,HS.out⟩
end Go.Proofs.YthfcanpkhjgomaaGreat
