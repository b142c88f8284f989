import Derived.Test.YtjikkhbcbfpocaaGreatDoorMH
set_option maxRecDepth 100000
set_option maxHeartbeats 4000000
namespace Go.Proofs.YtjikkhbcbfpocaaGreatDoor
open Go.RowKit Go.Shelf
section
variable {F:Fence} {n:Nat} {md:Region.Mode} {ops:Array Oper} {Q:Exit→Act→World→Prop} {Inv:World→Prop}
def kx (Inv:World→Prop) (ops:Array Oper) (o:Oper) (v:Value) (a:Act):Prop:=
 (Region.wanted o (yielded ops a.tmps)=true∧∀ w,Inv w→(execOp a.eval o).run Tryz.prog w=.ok (.value v) w)∨(Region.wanted o (yielded ops a.tmps)=false∧v=undef)
theorem kx.of_same {o:Oper} {v:Value} {a a':Act} (h:kx Inv ops o v a) (he:execOp a'.eval o=execOp a.eval o) (hw:Region.wanted o (yielded ops a'.tmps)=Region.wanted o (yielded ops a.tmps)):kx Inv ops o v a':=by
 unfold kx at *
 rw [he,hw]
 exact h
theorem kx.wpOpIn (hF:∀ f,F.fn f) {w:World} {i:Nat} {o:Oper} {v:Value} {a:Act} {K:Act→World→Prop} (h:kx Inv ops o v a) (hi:ops[i]?=some o) (hd:∀ c,o.op≠.defer c) (hI:Inv w) (hk:K (a.put o.dst v) w):wpOpIn F n Tryz.prog ops Q i K a w:=by
 unfold Go.wpOpIn
 simp only [hi]
 rcases h with ⟨hw,h⟩ | ⟨hw,rfl⟩
 ·simp only [hw,if_true,Oper.wpIn]
  refine ⟨fun f _=>hF f,?_⟩
  rw [Oper.semAt_plain _ _ _ hd,h w hI,Oper.uponIn_value]
  exact hk
 ·simp only [hw,Bool.false_eq_true,if_false]
  exact ⟨fun f _=>hF f,hk⟩
theorem dK {Inv:World→Prop} {j:Nat} {oi oj:Oper} {v:Value} (hj:ops[j]?=some oj) (hdj:∀ c,oj.op≠.defer c) (hap:oi.apart ops oj=true)
  (hsi:∀ cs b,oi.op≠.select cs b) (hsj:∀ cs b,oj.op≠.select cs b)
  (hQ:∀ c a w,Q (.panic c) (a.put oi.dst v) w→Q (.panic c) a w) {K:Act→World→Prop} {a:Act} {w:World}
  (hy:kx Inv ops oi v a) (h:wpOpIn F n Tryz.prog ops Q j K (a.put oi.dst v) w):
  wpOpIn F n Tryz.prog ops Q j (fun a' w'=>kx Inv ops oi v a'∧K (a'.put oi.dst v) w') a w:=by
 obtain ⟨h1,h2,h3⟩:=Oper.apart_spec hap
 have keep:∀ (a:Act),kx Inv ops oi v a→∀ u,kx Inv ops oi v (a.put oj.dst u):=fun a hy u=>
  hy.of_same (execOp_put oi hsi a oj.dst u h3) (wanted_put oi a oj.dst u h3)
 have keepD:∀ d,kx Inv ops oi v { a with defers:=d::a.defers }:=fun d=>hy.of_same rfl rfl
 unfold wpOpIn at *
 simp only [hj] at *
 rw [wanted_put oj a oi.dst v h1,about_put oj w a oi.dst v h1] at h
 split
 ·rename_i hw
  simp only [hw,if_true] at h
  unfold Oper.wpIn at *
  rw [about_put oj w a oi.dst v h1] at h
  refine ⟨h.1,?_⟩
  have h:=h.2
  rw [Oper.semAt_plain _ _ _ hdj,execOp_put oj hsj a oi.dst v h1] at h
  rw [Oper.semAt_plain _ _ _ hdj]
  generalize (execOp a.eval oj).run Tryz.prog w=r at *
  cases r with
  | ok x w'=>
   cases x<;>simp only [Oper.uponIn] at h ⊢
   case value u=>exact ⟨keep a hy u,by rw [← Act.put_comm a v u h2];exact h⟩
   case skip=>exact ⟨keep a hy _,by rw [← Act.put_comm a v undef h2];exact h⟩
   case defer d=>
    refine ⟨keep _ (keepD d) _,?_⟩
    rw [← Act.put_comm _ v undef h2,← Act.put_defers]
    exact h
   case enter f args=>
    refine ⟨h.1,CallsIn.mono h.2 fun e w'' he=>?_⟩
    cases e with
    | returned u=>exact ⟨keep a hy u,by rw [← Act.put_comm a v u h2];exact he⟩
    | panicked c=>exact hQ _ _ _ he
    | outgrown=>exact he
   case row row args=>exact ⟨h.1,RowsIn.mono h.2 fun u w'' he=>⟨keep a hy u,by rw [← Act.put_comm a v u h2];exact he⟩⟩
   case round l f tmps assign body=>
    refine ⟨h.1,RoundIn.mono h.2 fun e w'' he=>?_⟩
    cases e with
    | returned u=>exact ⟨keep a hy u,by rw [← Act.put_comm a v u h2];exact he⟩
    | panicked c=>exact hQ _ _ _ he
    | outgrown=>exact he
  | halt x w'=>
   cases x<;>simp only [Oper.uponIn] at h ⊢
   case panic u=>exact hQ _ _ _ h
 ·rename_i hw
  simp only [hw] at h
  exact ⟨h.1,keep a hy _,by rw [← Act.put_comm a v undef h2];exact h.2⟩
def wpJ (Inv:World→Prop) (F:Fence) (n:Nat) (md:Region.Mode) (ops:Array Oper) (Q:Exit→Act→World→Prop):Nat→Array Bool→Act→World→Prop
 | 0,listed,a,w=>Region.ready md ops listed=[]∧Q .normal a w
 | k+1,listed,a,w=>(Region.ready md ops listed=[]→Q .normal a w)∧∀ i∈Region.ready md ops listed,wpOpIn F n Tryz.prog ops Q i (fun a' w'=>Inv w'∧wpJ Inv F n md ops Q k (listed.setIfInBounds i true) a' w') a w
theorem wpJ.any:∀ (k:Nat) (listed:Array Bool) (a:Act) (w:World),wpJ Inv F n md ops Q k listed a w→wpAnyIn F n Tryz.prog md ops Q k listed a w
 | 0,_,_,_,h=>h
 | k+1,_,_,_,h=>⟨h.1,fun i hi=>wpOpIn_mono (fun a' w' h'=>wpJ.any k _ a' w' h'.2) (h.2 i hi)⟩
theorem pF (hF:∀ f,F.fn f) (hnd:qM ops=true) {i:Nat} {oi:Oper} {v:Value} (hi:ops[i]?=some oi) (hsel:∀ (j:Nat) (o:Oper) cs b,ops[j]?=some o→o.op≠.select cs b)
  (hQ:∀ c a w,Q (.panic c) (a.put oi.dst v) w→Q (.panic c) a w):
  ∀ (k:Nat) (listed:Array Bool) (a:Act) (w:World),Inv w→(∀ j oj,ops[j]?=some oj→j≠i→listed.getD j true=false→(∀ e∈oj.after,Region.binds md e=true→e.on≠i)→oi.apart ops oj=true)→
   i∈Region.ready md ops listed→kx Inv ops oi v a→wpJ Inv F n md ops Q k (listed.setIfInBounds i true) (a.put oi.dst v) w→wpJ Inv F n md ops Q (k+1) listed a w:=by
 intro k
 induction k with
 | zero=>
  intro listed a w hI _ hr hy H
  refine ⟨fun e=>(by rw [e] at hr;cases hr),fun j hj=>?_⟩
  by_cases hji:j=i
  ·subst hji
   exact hy.wpOpIn hF hi (jX hnd hi) hI ⟨hI,H⟩
  ·have:=ready_mono hj hji
   rw [H.1] at this
   cases this
 | succ k ih=>
  intro listed a w hI hfree hr hy H
  refine ⟨fun e=>(by rw [e] at hr;cases hr),fun j hj=>?_⟩
  by_cases hji:j=i
  ·subst hji
   exact hy.wpOpIn hF hi (jX hnd hi) hI ⟨hI,H⟩
  ·obtain ⟨hun,oj,hoj,hall⟩:=mem_ready.1 hj
   have hno:∀ e∈oj.after,Region.binds md e=true→e.on≠i:=fun e he hb heq=>by
    have h1:=hall e he hb
    rw [heq] at h1
    have h0:=(mem_ready.1 hr).1
    by_cases hlt:i<listed.size
    ·simp [Array.getD,hlt] at h0 h1
     rw [h0] at h1
     cases h1
    ·simp [Array.getD,hlt] at h1
   have h2:=dK hoj (jX hnd hoj) (hfree j oj hoj hji hun hno) (fun cs b=>hsel i oi cs b hi) (fun cs b=>hsel j oj cs b hoj) hQ hy (H.2 j (ready_mono hj hji))
   refine wpOpIn_mono (fun a' w' h3=>⟨h3.2.1,ih (listed.setIfInBounds j true) a' w' h3.2.1 ?_ (ready_mono hr (Ne.symm hji)) h3.1 ?_⟩) h2
   ·intro l ol hl hli hunl hnol
    refine hfree l ol hl hli ?_ hnol
    by_cases hjl:j=l
    ·subst hjl;exact hun
    ·rwa [getD_set_ne true hjl] at hunl
   ·rw [Array.setIfInBounds_comm _ _ hji]
    exact h3.2.2
theorem kE (Inv:World→Prop) {id:Nat} {a:Act} {w:World} (h:wpJ Inv F n .any ops Q ops.size (Array.replicate ops.size false) a w.drew):(Code.region id ops true).wpIn F n Tryz.prog Q a w:=
 wpIn_region_any (by kernel_rfl) (wpJ.any _ _ _ _ h)
def okJ (md:Region.Mode) (ops:Array Oper) (listed:Array Bool) (i d:Nat) (oi:Oper) (t:Array Value) (b:Bool):Bool:=
 oi.dst==some d&&qM ops&&Region.noSelect ops&&Region.free md ops listed i&&(Region.ready md ops listed).contains i&&(Region.wanted oi (yielded ops t)==b)
theorem su {listed:Array Bool} {i d:Nat} {oi:Oper} {t:Array Value} {b:Bool} (h:okJ md ops listed i d oi t b=true):oi.dst=some d∧qM ops=true∧Region.noSelect ops=true∧Region.free md ops listed i=true∧(Region.ready md ops listed).contains i=true∧Region.wanted oi (yielded ops t)=b:=by
 simp only [okJ,Bool.and_eq_true,beq_iff_eq] at h
 obtain ⟨⟨⟨⟨⟨h1,h2⟩,h3⟩,h4⟩,h5⟩,h6⟩:=h
 exact ⟨h1,h2,h3,h4,h5,h6⟩
theorem tJ (hL:Lets F n) (i d:Nat) (v:Value) {oi:Oper} {k:Nat} {listed l':Array Bool} {a a':Act} {w:World} (hI:Inv w) (hy:∀ w,Inv w→(execOp a.eval oi).run Tryz.prog w=.ok (.value v) w) (h:wpJ Inv F n md ops Q k l' a' w) (hi:ops[i]?=some oi:=by exact rfl) (hk:okJ md ops listed i d oi a.tmps true=true:=by kernel_rfl) (hQ:∀ c a w,Q (.panic c) (a.put (some d) v) w→Q (.panic c) a w:=by exact fun _ _ _ h=>h)
  (hl:listed.setIfInBounds i true=l':=by (first | (simp only [Act.put,sA,sB,sC]<;>exact rfl) | exact rfl)) (hp:a.put (some d) v=a':=by (first | (simp only [Act.put,sA,sB,sC]<;>exact rfl) | exact rfl)):wpJ Inv F n md ops Q (k+1) listed a w:=by
 subst hl hp
 obtain ⟨h1,h2,h3,h4,h5,h6⟩:=su hk
 exact pF hL.fn h2 hi (Region.noSelect_spec h3) (by rw [h1];exact hQ) k listed a w hI (Region.free_spec hi h4) (by simpa using h5) (.inl ⟨h6,hy⟩) (by rw [h1];exact h)
def AllJ (Inv:World→Prop) (F:Fence) (n:Nat) (md:Region.Mode) (ops:Array Oper) (Q:Exit→Act→World→Prop) (k:Nat) (listed:Array Bool) (a:Act) (w:World) (rs:List Nat):Prop:=
 ∀ i∈rs,wpOpIn F n Tryz.prog ops Q i (fun a' w'=>Inv w'∧wpJ Inv F n md ops Q k (listed.setIfInBounds i true) a' w') a w
theorem jb (rs:List Nat) {k:Nat} {listed:Array Bool} {a:Act} {w:World} (hr:Region.ready md ops listed=rs) (hne:rs≠[]) (h:AllJ Inv F n md ops Q k listed a w rs):wpJ Inv F n md ops Q (k+1) listed a w:=
 ⟨fun e=>absurd (hr ▸ e) hne,hr ▸ h⟩
theorem AllJ.nil {k:Nat} {listed:Array Bool} {a:Act} {w:World}:AllJ Inv F n md ops Q k listed a w []:=fun _ h=>by cases h
theorem AllJ.call (hL:Lets F n) (i d:Nat) {oi:Oper} {k:Nat} {listed:Array Bool} {a:Act} {w:World} {rs:List Nat} (f:FuncId) (args:Array Value) (hi:ops[i]?=some oi) (hk:(oi.dst==some d&&qM ops&&Region.wanted oi (yielded ops a.tmps))=true)
  (hx:(execOp a.eval oi).run Tryz.prog w=.ok (.enter f args) w) (hc:CallsIn F (n-1) Tryz.prog f args w fun e w'=>∃ v,e=.returned v∧Inv w'∧wpJ Inv F n md ops Q k (listed.setIfInBounds i true) (a.put (some d) v) w')
  (hs:AllJ Inv F n md ops Q k listed a w rs):AllJ Inv F n md ops Q k listed a w (i::rs):=fun j hj=>by
 simp only [Bool.and_eq_true,beq_iff_eq] at hk
 obtain ⟨⟨hd,hnd⟩,hw⟩:=hk
 rcases List.mem_cons.1 hj with rfl | hj
 ·unfold Go.wpOpIn
  simp only [hi,hw,if_true,Oper.wpIn]
  refine ⟨fun f _=>hL.fn f,?_⟩
  rw [Oper.semAt_plain _ _ _ (jX hnd hi),hx,Oper.uponIn_enter]
  refine ⟨hL.dp,hc.mono ?_⟩
  rintro e w' ⟨v,rfl,hg,h⟩
  show _∧_
  rw [hd]
  exact ⟨hg,h⟩
 ·exact hs j hj
theorem AllJ.value (hL:Lets F n) (i d:Nat) (v:Value) (w':World) {oi:Oper} {k:Nat} {listed:Array Bool} {a:Act} {w:World} {rs:List Nat} (hi:ops[i]?=some oi) (hk:(oi.dst==some d&&qM ops&&Region.wanted oi (yielded ops a.tmps))=true)
  (hx:(execOp a.eval oi).run Tryz.prog w=.ok (.value v) w') (hI:Inv w') (h:wpJ Inv F n md ops Q k (listed.setIfInBounds i true) (a.put (some d) v) w')
  (hs:AllJ Inv F n md ops Q k listed a w rs):AllJ Inv F n md ops Q k listed a w (i::rs):=fun j hj=>by
 simp only [Bool.and_eq_true,beq_iff_eq] at hk
 obtain ⟨⟨hd,hnd⟩,hw⟩:=hk
 rcases List.mem_cons.1 hj with rfl | hj
 ·unfold Go.wpOpIn
  simp only [hi,hw,if_true,Oper.wpIn]
  refine ⟨fun f _=>hL.fn f,?_⟩
  rw [Oper.semAt_plain _ _ _ (jX hnd hi),hx,Oper.uponIn_value]
  show _∧_
  rw [hd]
  exact ⟨hI,h⟩
 ·exact hs j hj
theorem AllJ.skip (hL:Lets F n) (i:Nat) (w':World) {oi:Oper} {k:Nat} {listed:Array Bool} {a:Act} {w:World} {rs:List Nat} (hi:ops[i]?=some oi) (hk:(oi.dst==none&&qM ops&&Region.wanted oi (yielded ops a.tmps))=true)
  (hx:(execOp a.eval oi).run Tryz.prog w=.ok .skip w') (hI:Inv w') (h:wpJ Inv F n md ops Q k (listed.setIfInBounds i true) a w')
  (hs:AllJ Inv F n md ops Q k listed a w rs):AllJ Inv F n md ops Q k listed a w (i::rs):=fun j hj=>by
 simp only [Bool.and_eq_true,beq_iff_eq] at hk
 obtain ⟨⟨hd,hnd⟩,hw⟩:=hk
 rcases List.mem_cons.1 hj with rfl | hj
 ·unfold Go.wpOpIn
  simp only [hi,hw,if_true,Oper.wpIn]
  refine ⟨fun f _=>hL.fn f,?_⟩
  rw [Oper.semAt_plain _ _ _ (jX hnd hi),hx,Oper.uponIn_skip]
  show _∧_
  rw [hd]
  exact ⟨hI,h⟩
 ·exact hs j hj
theorem xn {k:Nat} {listed:Array Bool} {a:Act} {w:World} (hr:Region.ready md ops listed=[]) (h:Q .normal a w):wpJ Inv F n md ops Q k listed a w:=by
 cases k with
 | zero=>exact ⟨hr,h⟩
 | succ k=>exact ⟨fun _=>h,fun i hi=>by rw [hr] at hi;cases hi⟩
end
theorem du {v:Vd} {c:Nat} {t:List Nat} (h:vOk v) (ht:Su.Bytes t):Su.Bytes (ownT v c t):=by
 unfold ownT
 split
 ·exact qJ (by decide) (jR (qI _) (jR (qI _) h.2.2))
 ·split
  ·exact qJ (by decide) (jR (qI _) h.2.2)
  ·exact qJ (by decide) (jR (qI _) (jR (qI _) ht))
theorem mL {v:Vd} {c:Nat} {t:List Nat} (h:vOk v) (hc:c<9223372036854775808) (ht:t.length=32):1≤(ownT v c t).length∧(ownT v c t).length≤1000000:=by
 obtain ⟨h1,h2,_⟩:=h
 have e1:=jT (n:=v.mode.toNat) (by omega)
 have e2:=jT (n:=v.size.toNat) (by omega)
 have e3:=jT (n:=c) (by omega)
 have e4:=v.len
 unfold ownT
 split
 ·simp only [lC,lA];omega
 ·split<;>simp only [lC,lA]<;>omega
theorem jD {w:World} {g:Nat} {c:Array Value} {t:TypeId} (h:w.heap[g]?=some (.cells c t (0,0))):Lies w g 0 c:=fun j u hj=>by
 simp only [World.cell?,h,Nat.zero_add];exact hj
theorem aY (v:Vd):(vx v).toArray[0]?=some (.int .i64 v.kind):=by simp [vx]
theorem gR (n:Nat) (a:Option Addr) (w:World):(Instr.checkKey true (n+1) 32 (.pointer a)).run Tryz.prog w=.ok () w:=by
 rw [Instr.checkKey]
 simp only [Sem.run_bind,run_underlying Tryz.underlying32,Result.andThen_ok,Sem.run_pure]
theorem gT (a:Option Addr) (w:World):(Instr.findKey 32 (.pointer a) []).run Tryz.prog w=.ok none w:=by
 unfold Instr.findKey
 simp only [Sem.run_bind,run_underlying Tryz.underlying32,Result.andThen_ok,Instr.findNow,Sem.run_pure]
theorem nS (a:Option Addr) (w:World):(Instr.lookup 188 (.map none) (.pointer a) true).run Tryz.prog w=.ok (.tuple #[.agg z22,.bool false]) w:=by
 unfold Instr.lookup
 have hc:=gR 9999 a w
 have hf:=gT a w
 simp only [Sem.run_bind,run_underlying Tryz.underlying188,Result.andThen_ok,Sem.run_pure]
 rw [show (#[]:Array MapEntry).isEmpty=true from rfl]
 rw [show (10000:Nat)=9999+1 from rfl,hc]
 simp only [Result.andThen_ok,hf,Sem.run_bind,aB 22 z22 qm,Sem.run_pure]
 rfl
theorem vZ (w:World):(binOp .neq 188 (.map none) (.map none)).run Tryz.prog w=.ok (.bool false) w:=by kernel_rfl
theorem pj (w:World):(eqGuard .neq 188 (.tmp 48) (.const (.map none)) (.map none) (.map none)).run Tryz.prog w=.ok () w:=by kernel_rfl
theorem zD {o:Oper} {a:Act} (y:Operand) (ho:o.op=.binOp .neq 188 (.tmp 48) y 188) (hy0:y=.const (.map none)) (hx:a.eval (.tmp 48)=.map none) (w:World):(execOp a.eval o).run Tryz.prog w=.ok (.value (.bool false)) w:=by
 have hy:a.eval y=.map none:=by rw [hy0];rfl
 unfold execOp
 simp only [ho,hx,hy,Sem.run_bind]
 rw [hy0,pj]
 simp only [Result.andThen_ok,vZ,Sem.run_pure]
theorem ik {o:Oper} {a:Act} (x y:Operand) (ho:o.op=.lookup 188 x y true) (b:Option Addr) (hx:a.eval x=.map none) (hy:a.eval y=.pointer b) (w:World):(execOp a.eval o).run Tryz.prog w=.ok (.value (.tuple #[.agg z22,.bool false])) w:=by
 unfold execOp
 simp only [ho,hx,hy,Sem.run_bind,nS,Result.andThen_ok,Sem.run_pure]
section
variable {St:List (List Nat)→(Nat→Prop)→World→Prop} {lo Wb:Nat} {c1 c2 c3:Addr}
theorem pp (hC:CB St lo Wb (.pointer (some c1)) (.pointer (some c2)) (.pointer (some c3))) (v:Vd) (k:K) (hv:vOk v) (hk:v.kind≠1):dt St lo Wb c1 c2 c3 v k:=by
 intro pre M w0 W p m hS hW hWM hT hA h0 hG0 hP
 have HP:Hid (pre.length<1000000):=by unfold jt at hP;rw [if_neg hk] at hP;simp only [lC,lN] at hP;exact (by omega:pre.length<1000000)
 clear hP
 have hb:=hC.bnd hS
 obtain ⟨B,hBs⟩:∃ B,W.heap.size=B:=⟨_,rfl⟩
 obtain ⟨w1,hw1⟩:∃ w1,w1=W.alloc (.cells z22 22):=⟨_,rfl⟩
 have hG:G W w1:=by rw [hw1];exact G.alloc _ _
 have hs1:w1.heap.size=B+1:=by rw [hw1];simp [hBs]
 have hvB:w1.heap[B]?=some (.cells z22 22 (0,0)):=by rw [hw1,← hBs];exact World.alloc_heap_new W _
 have hnB:¬ M B:=fun h=>by have:=(hb.2 B h).2;omega
 have CV:=ym p v m k w1 ((hA.grow hG0).grow hG)
 have HX:Hid ((vx v).toArray.size=35∧(vx v).toArray.all (·.oneCell')=true∧(vx v).toArray[0]?=some (.int .i64 v.kind)):=⟨by simp [je],xC v,aY v⟩
 have CO:Hid (∀ w,Calls Tryz.prog 154 #[.agg (vx v).toArray,.int .i64 (0:Nat),.agg (jl.map Su.vb).toArray] w fun e w'=>∃ u,e=.returned u∧Su.Owns w' w.heap.size u (ownT v 0 jl)∧G w w'):=fun w=>ph v 0 jl w rfl hv.1 hv.2.1 (by decide)
 have HT:Hid (Su.Bytes (ownT v 0 jl)∧(1≤(ownT v 0 jl).length∧(ownT v 0 jl).length≤1000000)∧((shaL (ownT v 0 jl)).map Su.vb).toArray.size=32∧((shaL (ownT v 0 jl)).map Su.vb).toArray.all (·.oneCell')=true):=⟨du hv dw,mL hv (by decide) rfl,by simp [qg],kV _⟩
 unfold jt
 rw [if_neg hk]
 simp only
 generalize ownT v 0 jl=T at *
 obtain ⟨XI,hXI⟩:∃ XI,((shaL T).map Su.vb).toArray=XI:=⟨_,rfl⟩
 rw [hXI] at HT ⊢
 have HXI:=hid hXI
 generalize (vx v).toArray=X at *
 have hkb:(v.kind !=1)=true:=by simpa using hk
 generalize v.kind=kd at *
 have HA:=hid (⟨hb,hG,hs1,hvB,hnB,hWM,hW.fr (M:=M) (Fr.of_G hG) hWM,hT.up hG,hC.keep hS (KeepM.of_G hG fun b h=>(hb.2 b h).2)⟩:_∧_∧_∧_∧_∧_∧_∧_∧_)
 clear hS hW hT hA hG0 hb hG hs1 hvB hnB hv hk hXI
 go_enter Tryz.func121,Tryz.ntmps121
 go_upto_region 2 with (first
  | ((with_reducible refine jF (.pointer (some ⟨B,0,none⟩)) (W.alloc (.cells z22 22)) ?_ ?_);exact jG 22 z22 rfl qm _ _ hBs)
  | (go_at_call 19;rw [← hw1];refine CV.mono ?_;rintro e w2 ⟨rfl,hg2⟩;have HG2:=hid hg2;clear hg2 CV;obtain ⟨B5,hB5⟩:∃ B5,w2.heap.size=B5:=⟨_,rfl⟩)
  | ((with_reducible refine jF (.pointer (some ⟨B5,0,none⟩)) (w2.alloc (.cells z24 24)) ?_ ?_);exact jG 24 z24 rfl dv _ _ hB5)
  | ((with_reducible refine jC ((w2.alloc (.cells z24 24)).setRow B5 X) ?_ ?_);exact jL 24 _ _ rfl B5 X z24 rfl rfl _ (by rw [← hB5];exact World.alloc_heap_new w2 _) (by rw [il,HX.o.1]) (by rw [zr,HX.o.1]) HX.o.2.1))
 try simp only [Act.put,sA,sB,sC]
 have N4:=qX w2 24 z24 X
 rw [hB5] at N4
 generalize (w2.alloc (.cells z24 24)).setRow B5 X=w4 at *
 have HG4:Hid (G w1 w4∧Lies w4 B5 0 X):=⟨HG2.o.trans N4.1,jD N4.2.1⟩
 clear N4 HG2 hB5 hw1
 have q0:=jB HG4.o.2 0 _ HX.o.2.2
 go_wp2_with (first
  | ((with_reducible refine jA (.agg X) ?_ ?_);exact jJ _ rfl B5 0 rfl X HX.o.1 HG4.o.2)
  | (go_at_call 154;refine (CO.o w4).mono ?_;rintro e w5 ⟨u5,rfl,h5,hg5⟩;have H5:=hid (⟨h5,HG4.o.1.trans hg5⟩:_∧G w1 w5);clear h5 hg5)
  | (go_at_call 153;refine (bU hC (hC.keep HA.o.2.2.2.2.2.2.2.2 (KeepM.of_G H5.o.2 fun b h=>by have:=(HA.o.1.2 b h).2;have:=HA.o.2.2.1;omega)) (HA.o.2.2.2.2.2.2.1.fr (M:=M) (Fr.of_G H5.o.2) HA.o.2.2.2.2.2.1) (HA.o.2.2.2.2.2.2.2.1.up H5.o.2) (Su.Owns.has H5.o.1) HT.o.1 HT.o.2.1.1 HT.o.2.1.2 HP.o).mono ?_;rintro e w6 ⟨rfl,M3,hS3,hM3,hf3⟩;have h3B:=(hf3.same B (by have:=HA.o.2.2.1;have:=H5.o.2.size;omega) HA.o.2.2.2.2.1).trans ((H5.o.2.block B (by have:=HA.o.2.2.1;omega)).trans HA.o.2.2.2.1);have HE:=hid (⟨hS3,hM3,hf3,h3B⟩:_∧_∧_∧_);clear hS3 hM3 hf3 h3B;rw [HXI.o])
  | ((with_reducible refine jC (w6.setRow B XI) ?_ ?_);exact jL 22 _ _ rfl B XI z22 rfl rfl _ HE.o.2.2.2 (by rw [jx,HT.o.2.2.1]) (by rw [ju,HT.o.2.2.1]) HT.o.2.2.2))
 obtain ⟨hS3,hM3,hf3,h3B⟩:=HE.o
 obtain ⟨hb,hG,hs1,hvB,hnB,_⟩:=HA.o
 refine bodyPost_ret (results_cell_row (P:=Tryz.prog) (p:=4) (ty:=22) rfl _ _ B 22 XI (0,0) _ rfl (setRow_heap _ _ _ _ _ _ h3B) Tryz.underlying22 rfl (by rw [jx,HT.o.2.2.1])) rfl ⟨rfl,?_⟩
 have z1:=hG.size
 have z5:=H5.o.2.size
 have F3:Fr M W w6:=(Fr.of_G (hG.trans H5.o.2)).trans (fun b h=>.inl h) hf3
 exact ⟨M3,hC.keep hS3 (KeepM.row _ _ _ (kM hM3 hnB (by omega))),fun b h=>(hM3 b h).imp id fun h=>by omega,Fr.row _ _ _ _ _ F3 (by omega)⟩
theorem mM:∀ {l:List Kid},fOk (kU l)→∀ x∈l,x.nm.size≤100000
 | [],_,_,hx=>by cases hx
 | y::t,h,x,hx=>by
  obtain ⟨h1,_,_,h4⟩:=h
  rcases List.mem_cons.1 hx with rfl | hx
  ·exact h1
  ·exact mM h4 x hx
theorem mO:∀ {l:List Kid},fOk (kU l)→∀ x∈l,vOk x.v∧fOk x.k.flat
 | [],_,_,hx=>by cases hx
 | y::t,h,x,hx=>by
  obtain ⟨_,h2,h3,h4⟩:=h
  rcases List.mem_cons.1 hx with rfl | hx
  ·exact ⟨h2,h3⟩
  ·exact mO h4 x hx
theorem At.items {w:World}:∀ {k:K} {u:Value},At w k u→∀ x∈k.items,AtT w x.p x.v x.m x.k
 | .nil,_,_,_,hx=>by cases hx
 | .node q p nm v m kids ah be,_,⟨_,pk,pa,pb,⟨_,h3⟩,h4,h5,h6⟩,x,hx=>by
  rw [K.items] at hx
  rcases List.mem_append.1 hx with hx | hx
  ·exact At.items h5 x hx
  ·rcases List.mem_cons.1 hx with rfl | hx
   ·exact ⟨pk,h3,h4⟩
   ·exact At.items h6 x hx
theorem mP {w:World} {p:Nat} {v:Vd} {m:Md} {k:K} (h:AtT w p v m k):∀ x∈k.items,AtT w x.p x.v x.m x.k:=by
 obtain ⟨_,_,h⟩:=h
 exact h.items
theorem aZ:∀ l:List Kid,kr (kU l)=((l.map (·.nm)).zip (qf l),ql l)
 | []=>rfl
 | x::t=>by
  rw [kU,yF,aZ t]
  simp [qf,ql]
theorem pq (v:Vd) (k:K) (hk:v.kind=1):(jt v k.flat).2.length=(ql k.items).length+((topT ((k.items.map (·.nm)).zip (qf k.items))).2.length+1):=by
 unfold jt
 rw [if_pos hk,← qC k,aZ]
 simp only [lA,lC,lN]
theorem ei (W:World) (Wb:Nat) (a:Option Addr) (cap:Nat):Calls Tryz.prog 156 #[.pointer (some ⟨Wb,0,none⟩),.slice a 0 cap] W fun e W'=>e=.returned (.tuple #[])∧W=W':=by
 go_enter Tryz.func156,Tryz.ntmps156
 go_wp2_with fail
 go_loopw [7] (fun i wr=>i=.int .i64 0∧W=wr) (fun _ _=>0)
 case atStart=>exact ⟨rfl,rfl⟩
 case round=>
  obtain ⟨rfl,rfl⟩:=hrel
  go_wp2_with fail
  go_end0
  exact ⟨rfl,rfl⟩
structure F8 (St:List (List Nat)→(Nat→Prop)→World→Prop) (c1 c2 c3:Addr) (pre:List (List Nat)) (M M8:Nat→Prop) (w0 w6 w8:World) (Wb:Nat) (u:Value) (l:List Kid):Prop where
 st:St (pre++ql l) M8 w8
 mm:∀ b,M8 b→M b∨w6.heap.size≤b
 fr:Fr M w6 w8
 wk:qT w8 Wb (.pointer (some c1)) (.pointer (some c2)) (.pointer (some c3))
 tb:Su.Tabs w8
 g0:G w0 w8
 tp:∀ W',G w8 W'→Calls Tryz.prog 157 #[.pointer (some ⟨Wb,0,none⟩),u] W' fun e W2=>e=.returned (.agg ((topT ((l.map (·.nm)).zip (qf l))).1.map Su.vb).toArray)∧Po St (pre++ql l) (topT ((l.map (·.nm)).zip (qf l))).2 M8 W' W2
 fm:∃ a cap,u=.slice a l.length cap
theorem pr (hC:CB St lo Wb (.pointer (some c1)) (.pointer (some c2)) (.pointer (some c3))) (l:List Kid) (w0:World) (hl:∀ x∈l,AtT w0 x.p x.v x.m x.k∧dt St lo Wb c1 c2 c3 x.v x.k) (hn:∀ x∈l,x.nm.size≤100000) (hlen:l.length≤1000000) (pre:List (List Nat)) (M:Nat→Prop) (w6 w7:World) (u:Value)
  (hS:St pre M w6) (hW:qT w6 Wb (.pointer (some c1)) (.pointer (some c2)) (.pointer (some c3))) (hWM:¬ M Wb) (hT:Su.Tabs w6) (h0:w0.heap.size≤lo) (hG0:G w0 w6) (h7:w7.ownsRow w6.heap.size 267 34 u l.length (krow l)) (hg:G w6 w7) (hP:pre.length+((ql l).length+((topT ((l.map (·.nm)).zip (qf l))).2.length+1))≤1000000):
  Calls Tryz.prog 156 #[.pointer (some ⟨Wb,0,none⟩),u] w7 fun e w8=>e=.returned (.tuple #[])∧∃ M8,F8 St c1 c2 c3 pre M M8 w0 w6 w8 Wb u l:=by
 have hb:=hC.bnd hS
 have hS7:St pre M w7:=hC.keep hS (KeepM.of_G hg fun b h=>(hb.2 b h).2)
 have hW7:=hW.fr (M:=M) (Fr.of_G hg) hWM
 have hWl:=hW.lt
 match l,h7,hl,hn,hlen,hP with
 | [],h7,_,_,_,_=>
  obtain ⟨a,cap,rfl⟩:∃ a cap,u=.slice a 0 cap:=by
   rcases h7.2 with ⟨h,_⟩ | ⟨g,cap,_,h,_⟩
   ·exact ⟨_,_,h⟩
   ·exact ⟨_,_,h⟩
  refine (ei w7 Wb a cap).mono ?_
  rintro e w8 ⟨rfl,rfl⟩
  refine ⟨rfl,M,⟨by simpa [ql] using hS7,fun b h=>.inl h,Fr.of_G hg,hW7,hT.up hg,hG0.trans hg,fun W' hg'=>?_,_,_,rfl⟩⟩
  have:=tU hC (a:=a) (cap:=cap) (hC.keep hS7 (KeepM.of_G hg' fun b h=>by have:=(hb.2 b h).2;have:=hg.size;omega))
  simpa [ql,qf] using this
 | x::t,h7,hl,hn,hlen,hP=>
  obtain ⟨Kr,cap,cur,rfl,hKr,hcur,hc1,_,hc3,hc4⟩:∃ g cap cur,u=.slice (some ⟨g,0,none⟩) (x::t).length cap∧w6.heap.size≤g∧w7.heap[g]?=some (.cells cur 267 (0,0))∧(x::t).length≤cap∧cap≤maxLen∧cur.size=cap*34∧cur.toList.take ((x::t).length*34)=krow (x::t):=by
   rcases h7.2 with ⟨_,h⟩ | h
   ·simp at h
   ·exact h
  have hl1:1≤(x::t).length:=by simp
  generalize x::t=l at *
  have hK:KRow w7 Kr cap l []:=⟨cur,hcur,hc3,hc1,by rw [gW];exact hc4⟩
  have hKM:¬ M Kr:=fun h=>by have:=(hb.2 Kr h).2;omega
  refine (gQ hC l w0 hl hlen pre M w7 Kr cap hS7 hW7 hWM (hT.up hg) h0 (hG0.trans hg) hK hKM (by omega) (by omega) (by omega)).mono ?_
  rintro e w8 ⟨rfl,⟨M8,hS8,hM8,hf8⟩,hK8⟩
  have hz:=hg.size
  have hfr:Fr M w6 w8:=⟨hf8.os.trans hg.os,hf8.tape.trans hg.tape,hf8.output.trans hg.output,by have:=hf8.size;omega,fun b hb' hn'=>(hf8.same b (by omega) fun e=>by rcases e with e | e;exact hn' e;omega).trans (hg.block b hb')⟩
  have hbe:Below lo w6 w8:=hfr.below (fun b h=>(hb.2 b h).1) hb.1
  refine ⟨rfl,M8,⟨hS8,fun b h=>(hM8 b h).imp id fun h=>by omega,hfr,hW.fr hfr hWM,hT.below hbe hC.four,Below.trans (B:=w0.heap.size) hG0 (hbe.mono h0),fun W' hg'=>?_,_,_,rfl⟩⟩
  have hb8:=hC.bnd hS8
  have hnK:¬ M8 Kr:=kM hM8 hKM hK.lt
  have hnW:¬ M8 Wb:=kM hM8 hWM (by omega)
  have hzl:((l.map (·.nm)).zip (qf l)).length=l.length:=by simp [qf]
  have:=ip hC _ _ (Nat.lt_succ_self _) (by rw [hzl];exact hl1) (by rw [hzl];exact hlen) (fun z hz=>?_) (pre++ql l) M8 W' Kr 0 cap (hC.keep hS8 (KeepM.of_G hg' fun b h=>(hb8.2 b h).2)) ((hW.fr hfr hWM).fr (M:=M8) (Fr.of_G hg') hnW) hnW ((hT.below hbe hC.four).up hg') ((hK8.kids (bS l)).same (hg'.block Kr hK8.lt)) (by have:=hK8.lt;have:=hg'.size;omega) hnK (by rw [hzl];exact hc1) (by simp only [lA];omega)
  ·rw [hzl,Nat.zero_mul] at this
   exact this
  ·have h1:z.1∈l.map (·.nm):=(List.of_mem_zip (a:=z.1) (b:=z.2) hz).1
   have h2:z.2∈qf l:=(List.of_mem_zip (a:=z.1) (b:=z.2) hz).2
   obtain ⟨y,hy,hy2⟩:=List.mem_map.1 h1
   obtain ⟨y',_,hy3⟩:=List.mem_map.1 h2
   refine ⟨by rw [← hy2];exact hn y hy,bS l _ h2,?_⟩
   rw [← hy3]
   unfold jt
   split<;>exact aE _
theorem F8.grow (hC:CB St lo Wb (.pointer (some c1)) (.pointer (some c2)) (.pointer (some c3))) {pre:List (List Nat)} {M M8:Nat→Prop} {w0 w6 w8 W:World} {u:Value} {l:List Kid} (h:F8 St c1 c2 c3 pre M M8 w0 w6 w8 Wb u l) (hg:G w8 W) (hW:¬ M8 Wb):F8 St c1 c2 c3 pre M M8 w0 w6 W Wb u l:=
 ⟨hC.keep h.st (KeepM.of_G hg fun b hb=>((hC.bnd h.st).2 b hb).2),h.mm,h.fr.trans h.mm (Fr.of_G hg),h.wk.fr (M:=M8) (Fr.of_G hg) hW,h.tb.up hg,h.g0.trans hg,fun W' hg'=>h.tp W' (hg.trans hg'),h.fm⟩
structure PS (St:List (List Nat)→(Nat→Prop)→World→Prop) (pre ts:List (List Nat)) (M M1:Nat→Prop) (w6 w:World):Prop where
 st:St (pre++ts) M1 w
 mm:∀ b,M1 b→M b∨w6.heap.size≤b
 fr:Fr M w6 w
theorem PS.grow (hC:CB St lo Wb (.pointer (some c1)) (.pointer (some c2)) (.pointer (some c3))) {pre ts:List (List Nat)} {M M1:Nat→Prop} {w6 w W:World} (h:PS St pre ts M M1 w6 w) (hg:G w W):PS St pre ts M M1 w6 W:=
 ⟨hC.keep h.st (KeepM.of_G hg fun b hb=>((hC.bnd h.st).2 b hb).2),h.mm,h.fr.trans h.mm (Fr.of_G hg)⟩
theorem PS.next {pre t1 t2:List (List Nat)} {M M1:Nat→Prop} {w6 w W:World} (h:PS St pre t1 M M1 w6 w) (hp:Po St (pre++t1) t2 M1 w W):∃ M2,PS St pre (t1++t2) M M2 w6 W∧(∀ b,M2 b→M1 b∨w.heap.size≤b)∧Fr M1 w W:=by
 obtain ⟨M2,h1,h2,h3⟩:=hp
 exact ⟨M2,⟨by rw [← List.append_assoc];exact h1,fun b hb=>(h2 b hb).elim (h.mm b) fun hb=>.inr (Nat.le_trans h.fr.size hb),h.fr.trans h.mm h3⟩,h2,h3⟩
theorem PS.at (hC:CB St lo Wb (.pointer (some c1)) (.pointer (some c2)) (.pointer (some c3))) {pre ts:List (List Nat)} {M M1:Nat→Prop} {w6 w:World} (h:PS St pre ts M M1 w6 w) (hW:qT w6 Wb (.pointer (some c1)) (.pointer (some c2)) (.pointer (some c3))) (hWM:¬ M Wb) (hT:Su.Tabs w6) (hb:lo≤w6.heap.size∧∀ b,M b→lo≤b∧b<w6.heap.size):qT w Wb (.pointer (some c1)) (.pointer (some c2)) (.pointer (some c3))∧¬ M1 Wb∧Su.Tabs w:=
 ⟨hW.fr h.fr hWM,kM h.mm hWM hW.lt,hT.below (h.fr.below (fun b hb'=>(hb.2 b hb').1) hb.1) hC.four⟩
theorem tP (hC:CB St lo Wb (.pointer (some c1)) (.pointer (some c2)) (.pointer (some c3))) (v:Vd) (k:K) (hv:vOk v) (hk:v.kind=1) (hf:fOk k.flat) (hsz:k.flat.size≤100000) (ih:∀ x∈k.items,dt St lo Wb c1 c2 c3 x.v x.k):dt St lo Wb c1 c2 c3 v k:=by
 intro pre M w0 W p m hS hW hWM hT hA h0 hG0 hP
 have HP:Hid (pre.length+((ql k.items).length+((topT ((k.items.map (·.nm)).zip (qf k.items))).2.length+1))≤1000000):=by rw [pq v k hk] at hP;exact hP
 clear hP
 have hb:=hC.bnd hS
 obtain ⟨B,hBs⟩:∃ B,W.heap.size=B:=⟨_,rfl⟩
 obtain ⟨w1,hw1⟩:∃ w1,w1=W.alloc (.cells z22 22):=⟨_,rfl⟩
 have hG:G W w1:=by rw [hw1];exact G.alloc _ _
 have hs1:w1.heap.size=B+1:=by rw [hw1];simp [hBs]
 have hvB:w1.heap[B]?=some (.cells z22 22 (0,0)):=by rw [hw1,← hBs];exact World.alloc_heap_new W _
 have hnB:¬ M B:=fun h=>by have:=(hb.2 B h).2;omega
 have CV:=ym p v m k w1 ((hA.grow hG0).grow hG)
 have CK:Hid (∀ w,G w1 w→Calls Tryz.prog 155 #[.pointer (some ⟨p,0,none⟩)] w fun e w'=>∃ u,e=.returned u∧w'.ownsRow w.heap.size 267 34 u k.items.length (krow k.items)∧G w w'):=fun w hg=>nT p v m k w (((hA.grow hG0).grow hG).grow hg) hsz
 have HX:Hid ((vx v).toArray.size=35∧(vx v).toArray.all (·.oneCell')=true∧(vx v).toArray[0]?=some (.int .i64 v.kind)):=⟨by simp [je],xC v,aY v⟩
 generalize hX:(vx v).toArray=X at *
 rw [hk] at HX
 have HA:=hid (⟨hb,hG,hs1,hvB,hnB,hWM,hW.fr (M:=M) (Fr.of_G hG) hWM,hT.up hG,hC.keep hS (KeepM.of_G hG fun b h=>(hb.2 b h).2)⟩:_∧_∧_∧_∧_∧_∧_∧_∧_)
 have HB:=hid (⟨hA,h0,hG0.trans hG,hv,hk,hf,hsz,ih,hX⟩:_∧_∧_∧_∧_∧_∧_∧_∧_)
 clear hS hW hT hA hG0 hb hG hs1 hvB hnB hv hk hf hsz ih hX
 go_enter Tryz.func121,Tryz.ntmps121
 go_upto_region 2 with (first
  | ((with_reducible refine jF (.pointer (some ⟨B,0,none⟩)) (W.alloc (.cells z22 22)) ?_ ?_);exact jG 22 z22 rfl qm _ _ hBs)
  | (go_at_call 19;rw [← hw1];refine CV.mono ?_;rintro e w2 ⟨rfl,hg2⟩;have HG2:=hid hg2;clear hg2 CV;obtain ⟨B5,hB5⟩:∃ B5,w2.heap.size=B5:=⟨_,rfl⟩)
  | ((with_reducible refine jF (.pointer (some ⟨B5,0,none⟩)) (w2.alloc (.cells z24 24)) ?_ ?_);exact jG 24 z24 rfl dv _ _ hB5)
  | ((with_reducible refine jC ((w2.alloc (.cells z24 24)).setRow B5 X) ?_ ?_);exact jL 24 _ _ rfl B5 X z24 rfl rfl _ (by rw [← hB5];exact World.alloc_heap_new w2 _) (by rw [il,HX.o.1]) (by rw [zr,HX.o.1]) HX.o.2.1))
 try simp only [Act.put,sA,sB,sC]
 have N4:=qX w2 24 z24 X
 rw [hB5] at N4
 generalize (w2.alloc (.cells z24 24)).setRow B5 X=w4 at *
 have HG4:Hid (G w1 w4∧w4.heap[B5]?=some (.cells X 24 (0,0))∧B+1≤B5):=⟨HG2.o.trans N4.1,N4.2.1,by have:=HG2.o.size;have:=HA.o.2.2.1;omega⟩
 clear N4 HG2 hB5 hw1
 have q0:=jB (jD HG4.o.2.1) 0 _ HX.o.2.2
 have q2:=HG4.o.1.cell (jB HA.o.2.2.2.2.2.2.1.lies 2 _ rfl)
 obtain ⟨B6,hB6⟩:∃ B6,w4.heap.size=B6:=⟨_,rfl⟩
 go_upto_region 7 with (first
  | ((with_reducible refine jA (.tuple #[.agg z22,.bool false]) ?_ ?_);exact ik _ _ rfl _ rfl rfl _)
  | ((with_reducible refine jF (.pointer (some ⟨B6,0,none⟩)) (w4.alloc (.cells z22 22)) ?_ ?_);exact jG 22 z22 rfl qm _ _ hB6)
  | ((with_reducible refine jC ((w4.alloc (.cells z22 22)).setRow B6 z22) ?_ ?_);exact jL 22 _ _ rfl B6 z22 z22 rfl (by rfl) _ (by rw [← hB6];exact World.alloc_heap_new w4 _) (by rw [jx,ju]) rfl (kV _)))
 try simp only [Act.put,sA,sB,sC]
 have N6:=qX w4 22 z22 z22
 rw [hB6] at N6
 generalize (w4.alloc (.cells z22 22)).setRow B6 z22=w6 at *
 have HG6:Hid (G w1 w6∧w6.heap[B5]?=some (.cells X 24 (0,0))∧B+1≤B5∧B5<w6.heap.size):=by
  have hl:=(gS HG4.o.2.1)
  exact ⟨HG4.o.1.trans N6.1,(N6.1.block B5 hl).trans HG4.o.2.1,HG4.o.2.2,by have:=N6.1.size;omega⟩
 clear N6 HG4 hB6 q0 q2
 go_upto_region 8 with (go_at_call 155;refine (CK.o w6 HG6.o.1).mono ?_;rintro e w7 ⟨u,rfl,h7,hg7⟩;have HK7:=hid (⟨h7,hg7⟩:_∧_);clear h7 hg7 CK)
 try simp only [Act.put,sA,sB,sC]
 have H6:Hid (St pre M w6∧qT w6 Wb (.pointer (some c1)) (.pointer (some c2)) (.pointer (some c3))∧¬ M Wb∧Su.Tabs w6∧(lo≤w6.heap.size∧∀ b,M b→lo≤b∧b<w6.heap.size)∧¬ M B5∧¬ M B∧w6.heap[B]?=some (.cells z22 22 (0,0))∧B<w6.heap.size∧B5<w6.heap.size∧B≠B5):=by
  obtain ⟨hb,hG,hs1,hvB,hnB,hWM,hW,hT,hS⟩:=HA.o
  obtain ⟨hg6,_,h56,h5l⟩:=HG6.o
  have hS6:=hC.keep hS (KeepM.of_G hg6 fun b h=>by have:=(hb.2 b h).2;omega)
  exact ⟨hS6,hW.fr (M:=M) (Fr.of_G hg6) hWM,hWM,hT.up hg6,hC.bnd hS6,fun h=>(by have:=(hb.2 B5 h).2;omega),hnB,(hg6.block B (by omega)).trans hvB,by omega,h5l,by omega⟩
 have CN:Calls Tryz.prog 156 #[.pointer (some ⟨Wb,0,none⟩),u] w7 fun e w8=>e=.returned (.tuple #[])∧∃ M8,F8 St c1 c2 c3 pre M M8 w0 w6 w8 Wb u k.items:=by
  obtain ⟨hA,h0,hG0,hv,hk,hf,hsz,ih,hX⟩:=HB.o
  obtain ⟨a1,a2,a3,a4,_⟩:=H6.o
  refine pr hC k.items w0 (fun x hx=>⟨mP hA x hx,ih x hx⟩) (fun x hx=>mM (by rw [qC];exact hf) x hx) (by rw [K.items_len];have:=k.flat.len_le_size;omega) pre M w6 w7 u a1 a2 a3 a4 h0 (hG0.trans HG6.o.1) HK7.o.1 HK7.o.2 HP.o
 go_upto_region 9 with (go_at_call 156;refine CN.mono ?_;rintro e w8 ⟨rfl,M8,h8⟩;have H8:=hid h8;clear h8 CN)
 try simp only [Act.put,sA,sB,sC]
 obtain ⟨a8,cap8,hu8⟩:=H8.o.fm
 subst hu8
 obtain ⟨n,hn⟩:∃ n,k.items.length=n:=⟨_,rfl⟩
 have hn6:n≤1000000:=by rw [← hn,K.items_len];have:=HB.o.2.2.2.2.2.2.1;have:=k.flat.len_le_size;omega
 have HZ:Hid (jt v k.flat=(shaL (ownT v n (topT ((k.items.map (·.nm)).zip (qf k.items))).1),ql k.items++((topT ((k.items.map (·.nm)).zip (qf k.items))).2++[ownT v n (topT ((k.items.map (·.nm)).zip (qf k.items))).1]))):=by
  show _=_
  unfold jt
  rw [if_pos HB.o.2.2.2.2.1,← qC k,aZ]
  simp only
  rw [show ((k.items.map (·.nm)).zip (qf k.items)).length=n by simp [qf,hn]]
 have CO:Hid (∀ w,Calls Tryz.prog 154 #[.agg X,.int .i64 n,.agg ((topT ((k.items.map (·.nm)).zip (qf k.items))).1.map Su.vb).toArray] w fun e w'=>∃ u,e=.returned u∧Su.Owns w' w.heap.size u (ownT v n (topT ((k.items.map (·.nm)).zip (qf k.items))).1)∧G w w'):=fun w=>by
  rw [← HB.o.2.2.2.2.2.2.2.2]
  exact ph v n _ w (aC _) HB.o.2.2.2.1.1 HB.o.2.2.2.1.2.1 (by omega)
 have HT:Hid (Su.Bytes (ownT v n (topT ((k.items.map (·.nm)).zip (qf k.items))).1)∧(1≤(ownT v n (topT ((k.items.map (·.nm)).zip (qf k.items))).1).length∧(ownT v n (topT ((k.items.map (·.nm)).zip (qf k.items))).1).length≤1000000)∧((shaL (ownT v n (topT ((k.items.map (·.nm)).zip (qf k.items))).1)).map Su.vb).toArray.size=32∧((shaL (ownT v n (topT ((k.items.map (·.nm)).zip (qf k.items))).1)).map Su.vb).toArray.all (·.oneCell')=true):=⟨du HB.o.2.2.2.1 (ag _),mL HB.o.2.2.2.1 (by omega) (aC _),by simp [qg],kV _⟩
 have H8':=H8
 rw [hn] at H8' ⊢
 have hp8:Hid (PS St pre (ql k.items) M M8 w6 w8.drew∧∀ W',G w8.drew W'→Calls Tryz.prog 157 #[.pointer (some ⟨Wb,0,none⟩),.slice a8 n cap8] W' fun e W2=>e=.returned (.agg ((topT ((k.items.map (·.nm)).zip (qf k.items))).1.map Su.vb).toArray)∧Po St (pre++ql k.items) (topT ((k.items.map (·.nm)).zip (qf k.items))).2 M8 W' W2):=by
  have h:=H8'.o
  exact ⟨PS.grow hC ⟨h.st,h.mm,h.fr⟩ (G.drew w8),fun W' hg=>h.tp W' ((G.drew w8).trans hg)⟩
 clear H8 H8'
 have HI:Hid (∀ (ts:List (List Nat)) (M1:Nat→Prop) (w:World),PS St pre ts M M1 w6 w→w.heap[B5]?=some (.cells X 24 (0,0))):=fun ts M1 w h=>(h.fr.same B5 H6.o.2.2.2.2.2.2.2.2.2.1 H6.o.2.2.2.2.2.1).trans HG6.o.2.1
 generalize ql k.items=tk at *
 generalize (topT ((k.items.map (·.nm)).zip (qf k.items)))=tp at *
 generalize ownT v n tp.1=T at *
 generalize (tp.1.map Su.vb).toArray=XT at *
 obtain ⟨XI,hXI⟩:∃ XI,((shaL T).map Su.vb).toArray=XI:=⟨_,rfl⟩
 rw [hXI] at HT
 have HXI:=hid hXI
 clear hXI
 have CA:Hid (∀ (M1:Nat→Prop) (w:World) (u7:Value),PS St pre (tk++tp.2) M M1 w6 w→Su.Has w u7 T→Calls Tryz.prog 153 #[.pointer (some ⟨Wb,0,none⟩),u7] w fun e W'=>e=.returned (.agg XI)∧Po St (pre++(tk++tp.2)) [T] M1 w W'):=fun M1 w u7 h hu=>by
  obtain ⟨_,a2,a3,a4,a5,_⟩:=H6.o
  obtain ⟨g1,_,g3⟩:=h.at hC a2 a3 a4 a5
  have:=bU hC h.st g1 g3 hu HT.o.1 HT.o.2.1.1 HT.o.2.1.2 (by have:=HP.o;simp only [lA];omega)
  rw [HXI.o] at this
  exact this
 have HF:Hid (∀ (wz:World) (M10:Nat→Prop) (B9:Nat),PS St pre (tk++(tp.2++[T])) M M10 w6 wz→wz.heap[B9]?=some (.cells z22 22 (0,0))→¬ M10 B9→w6.heap.size≤B9→PS St pre (tk++(tp.2++[T])) M M10 w6 (wz.setRow B9 XI)∧(wz.setRow B9 XI).heap[B9]?=some (.cells XI 22 (0,0))):=fun wz M10 B9 h hv hn9 hle=>
  ⟨⟨hC.keep h.st (KeepM.row _ _ _ hn9),h.mm,Fr.row _ _ _ _ _ h.fr hle⟩,setRow_heap _ _ _ _ _ _ hv⟩
 refine (wpIn_wide (n:=3)).1 ?_
 refine kE (fun w=>w.heap[B5]?=some (.cells X 24 (0,0))) ?_
 generalize w8.drew=w9 at *
 have hI9:=HI.o _ _ _ hp8.o.1
 refine tJ jE 0 36 (.pointer (some ⟨Wb,0,none⟩)) hI9 (fun wz hz=>?_) ?_
 ·rfl
 refine tJ jE 1 37 (.agg X) hI9 (fun wz hz=>?_) ?_
 ·exact jJ _ rfl B5 0 rfl X HX.o.1 (jD hz)
 refine tJ jE 2 38 (.slice a8 n cap8) hI9 (fun wz hz=>?_) ?_
 ·rfl
 refine tJ jE 3 39 (.int .i64 n) hI9 (fun wz hz=>?_) ?_
 ·go_simp
 refine tJ jE 4 40 (.pointer (some ⟨Wb,0,none⟩)) hI9 (fun wz hz=>?_) ?_
 ·rfl
 refine tJ jE 5 41 (.slice a8 n cap8) hI9 (fun wz hz=>?_) ?_
 ·rfl
 have HEND:Hid (∀ (M10:Nat→Prop) (wf:World),PS St pre (tk++(tp.2++[T])) M M10 w6 wf→Po St pre (tk++(tp.2++[T])) M W (wf.setRow B XI)):=fun M10 wf h=>by
  have hGW:G W w6:=HA.o.2.1.trans HG6.o.1
  have hz:=hGW.size
  exact ⟨M10,hC.keep h.st (KeepM.row _ _ _ (kM h.mm H6.o.2.2.2.2.2.2.1 H6.o.2.2.2.2.2.2.2.2.1)),fun b hb=>(h.mm b hb).imp id fun hb=>by omega,Fr.row _ _ _ _ _ ((Fr.of_G hGW).trans (fun b h=>.inl h) h.fr) (by omega)⟩
 have hp9:=hp8.o.1
 have hg9:G w9 w9:=G.refl w9
 refine jb [6,9] (by kernel_rfl) (by simp) ?_
 refine AllJ.call jE 6 42 157 #[.pointer (some ⟨Wb,0,none⟩),.slice a8 n cap8] rfl (by kernel_rfl) (by go_simp) ((callsIn_wide.2 (hp8.o.2 w9 hg9)).mono ?_) ?_
 ·rintro e yw1 ⟨rfl,hpo⟩
  obtain ⟨yM2,yP3,yhM4,yhf5⟩:=hp9.next hpo
  refine ⟨_,rfl,HI.o _ _ _ yP3,?_⟩
  try simp only [Act.put,sA,sB,sC]
  refine jb [7,9] (by kernel_rfl) (by simp) ?_
  refine AllJ.call jE 7 43 154 #[.agg X,.int .i64 n,.agg XT] rfl (by kernel_rfl) (by go_simp) ((callsIn_wide.2 (CO.o yw1)).mono ?_) ?_
  ·rintro e yw6 ⟨yu7,rfl,yho8,yhg9⟩
   have yP10:=yP3.grow hC yhg9
   have yhu11:=Su.Owns.has yho8
   refine ⟨_,rfl,HI.o _ _ _ yP10,?_⟩
   try simp only [Act.put,sA,sB,sC]
   refine jb [8,9] (by kernel_rfl) (by simp) ?_
   refine AllJ.call jE 8 44 153 #[.pointer (some ⟨Wb,0,none⟩),yu7] rfl (by kernel_rfl) (by go_simp) ((callsIn_wide.2 (CA.o _ yw6 yu7 yP10 yhu11)).mono ?_) ?_
   ·rintro e yw12 ⟨rfl,hpo⟩
    obtain ⟨yM13,yP14,yhM15,yhf16⟩:=yP10.next hpo
    have yP17:PS St pre (tk++(tp.2++[T])) M yM13 w6 yw12:=by rw [← List.append_assoc];exact yP14
    refine ⟨_,rfl,HI.o _ _ _ yP17,?_⟩
    try simp only [Act.put,sA,sB,sC]
    refine jb [9] (by kernel_rfl) (by simp) ?_
    obtain ⟨yB18,yhB20⟩:∃ B9,yw12.heap.size=B9:=⟨_,rfl⟩
    have yP19:=yP17.grow hC (G.alloc yw12 (.cells z22 22))
    refine AllJ.value jE 9 9 (.pointer (some ⟨yB18,0,none⟩)) (yw12.alloc (.cells z22 22)) rfl (by kernel_rfl) (jG 22 z22 rfl qm _ _ yhB20) (HI.o _ _ _ yP19) ?_ AllJ.nil
    try simp only [Act.put,sA,sB,sC]
    have yhv21:(yw12.alloc (.cells z22 22)).heap[yB18]?=some (.cells z22 22 (0,0)):=by rw [← yhB20];exact World.alloc_heap_new _ _
    have yhn22:=fun h=>(absurd ((hC.bnd yP17.st).2 yB18 h).2 (by omega):False)
    have yhle23:w6.heap.size≤yB18:=by have:=yP17.fr.size;omega
    have yhlt24:yB18<(yw12.alloc (.cells z22 22)).heap.size:=by rw [World.size_alloc];omega
    generalize yw12.alloc (.cells z22 22)=yw25 at *
    refine jb [10] (by kernel_rfl) (by simp) ?_
    obtain ⟨yP26,yhx27⟩:=HF.o yw25 _ yB18 yP19 yhv21 yhn22 yhle23
    refine AllJ.skip jE 10 (yw25.setRow yB18 XI) rfl (by kernel_rfl) (jL 22 _ _ rfl yB18 XI z22 rfl rfl _ yhv21 (by rw [jx,HT.o.2.2.1]) (by rw [ju,HT.o.2.2.1]) HT.o.2.2.2) (HI.o _ _ _ yP26) ?_ AllJ.nil
    try simp only [List.setIfInBounds_toArray,List.set_cons_zero,List.set_cons_succ]
    refine xn (by kernel_rfl) ?_
    have HQ:=hid (⟨yP26,yhx27⟩:_∧_)
    have hq2:=jB (yP26.at hC H6.o.2.1 H6.o.2.2.1 H6.o.2.2.2.1 H6.o.2.2.2.2.1).1.lies 2 _ rfl
    have hqB:(yw25.setRow yB18 XI).heap[B]?=some (.cells z22 22 (0,0)):=(yP26.fr.same B H6.o.2.2.2.2.2.2.2.2.1 H6.o.2.2.2.2.2.2.1).trans H6.o.2.2.2.2.2.2.2.1
    clear yP26 yhx27
    generalize yw25.setRow yB18 XI=wf at *
    go_wp2_with (first
     | ((with_reducible refine jA (.bool false) ?_ ?_);exact zD _ rfl rfl rfl _)
     | ((with_reducible refine jA (.agg XI) ?_ ?_);exact jv 22 _ rfl yB18 0 rfl XI _ (jD HQ.o.2) Tryz.underlying22 rfl (by rw [jx,HT.o.2.2.1]))
     | ((with_reducible refine jC (wf.setRow B XI) ?_ ?_);exact jL 22 _ _ rfl B XI z22 rfl rfl _ hqB (by rw [jx,HT.o.2.2.1]) (by rw [ju,HT.o.2.2.1]) HT.o.2.2.2))
    refine bodyPost_ret (results_cell_row (P:=Tryz.prog) (p:=4) (ty:=22) rfl _ _ B 22 XI (0,0) _ rfl (setRow_heap _ _ _ _ _ _ hqB) Tryz.underlying22 rfl (by rw [jx,HT.o.2.2.1])) rfl ?_
    rw [HZ.o]
    exact ⟨by rw [HXI.o],HEND.o _ _ HQ.o.1⟩
   ·obtain ⟨yB28,yhB30⟩:∃ B9,yw6.heap.size=B9:=⟨_,rfl⟩
    have yP29:=yP10.grow hC (G.alloc yw6 (.cells z22 22))
    refine AllJ.value jE 9 9 (.pointer (some ⟨yB28,0,none⟩)) (yw6.alloc (.cells z22 22)) rfl (by kernel_rfl) (jG 22 z22 rfl qm _ _ yhB30) (HI.o _ _ _ yP29) ?_ AllJ.nil
    try simp only [Act.put,sA,sB,sC]
    have yhv31:(yw6.alloc (.cells z22 22)).heap[yB28]?=some (.cells z22 22 (0,0)):=by rw [← yhB30];exact World.alloc_heap_new _ _
    have yhn32:=fun h=>(absurd ((hC.bnd yP10.st).2 yB28 h).2 (by omega):False)
    have yhle33:w6.heap.size≤yB28:=by have:=yP10.fr.size;omega
    have yhlt34:yB28<(yw6.alloc (.cells z22 22)).heap.size:=by rw [World.size_alloc];omega
    have yhu36:=Su.Has.below yhu11 (G.alloc yw6 (.cells z22 22))
    generalize yw6.alloc (.cells z22 22)=yw35 at *
    refine jb [8] (by kernel_rfl) (by simp) ?_
    refine AllJ.call jE 8 44 153 #[.pointer (some ⟨Wb,0,none⟩),yu7] rfl (by kernel_rfl) (by go_simp) ((callsIn_wide.2 (CA.o _ yw35 yu7 yP29 yhu36)).mono ?_) AllJ.nil
    rintro e yw37 ⟨rfl,hpo⟩
    obtain ⟨yM38,yP39,yhM40,yhf41⟩:=yP29.next hpo
    have yhv42:=(yhf41.same yB28 yhlt34 yhn32).trans yhv31
    have yhn43:=kM yhM40 yhn32 yhlt34
    have yhlt44:=Nat.lt_of_lt_of_le yhlt34 yhf41.size
    have yP45:PS St pre (tk++(tp.2++[T])) M yM38 w6 yw37:=by rw [← List.append_assoc];exact yP39
    refine ⟨_,rfl,HI.o _ _ _ yP45,?_⟩
    try simp only [Act.put,sA,sB,sC]
    refine jb [10] (by kernel_rfl) (by simp) ?_
    obtain ⟨yP46,yhx47⟩:=HF.o yw37 _ yB28 yP45 yhv42 yhn43 yhle33
    refine AllJ.skip jE 10 (yw37.setRow yB28 XI) rfl (by kernel_rfl) (jL 22 _ _ rfl yB28 XI z22 rfl rfl _ yhv42 (by rw [jx,HT.o.2.2.1]) (by rw [ju,HT.o.2.2.1]) HT.o.2.2.2) (HI.o _ _ _ yP46) ?_ AllJ.nil
    try simp only [List.setIfInBounds_toArray,List.set_cons_zero,List.set_cons_succ]
    refine xn (by kernel_rfl) ?_
    have HQ:=hid (⟨yP46,yhx47⟩:_∧_)
    have hq2:=jB (yP46.at hC H6.o.2.1 H6.o.2.2.1 H6.o.2.2.2.1 H6.o.2.2.2.2.1).1.lies 2 _ rfl
    have hqB:(yw37.setRow yB28 XI).heap[B]?=some (.cells z22 22 (0,0)):=(yP46.fr.same B H6.o.2.2.2.2.2.2.2.2.1 H6.o.2.2.2.2.2.2.1).trans H6.o.2.2.2.2.2.2.2.1
    clear yP46 yhx47
    generalize yw37.setRow yB28 XI=wf at *
    go_wp2_with (first
     | ((with_reducible refine jA (.bool false) ?_ ?_);exact zD _ rfl rfl rfl _)
     | ((with_reducible refine jA (.agg XI) ?_ ?_);exact jv 22 _ rfl yB28 0 rfl XI _ (jD HQ.o.2) Tryz.underlying22 rfl (by rw [jx,HT.o.2.2.1]))
     | ((with_reducible refine jC (wf.setRow B XI) ?_ ?_);exact jL 22 _ _ rfl B XI z22 rfl rfl _ hqB (by rw [jx,HT.o.2.2.1]) (by rw [ju,HT.o.2.2.1]) HT.o.2.2.2))
    refine bodyPost_ret (results_cell_row (P:=Tryz.prog) (p:=4) (ty:=22) rfl _ _ B 22 XI (0,0) _ rfl (setRow_heap _ _ _ _ _ _ hqB) Tryz.underlying22 rfl (by rw [jx,HT.o.2.2.1])) rfl ?_
    rw [HZ.o]
    exact ⟨by rw [HXI.o],HEND.o _ _ HQ.o.1⟩
  ·obtain ⟨yB48,yhB50⟩:∃ B9,yw1.heap.size=B9:=⟨_,rfl⟩
   have yP49:=yP3.grow hC (G.alloc yw1 (.cells z22 22))
   refine AllJ.value jE 9 9 (.pointer (some ⟨yB48,0,none⟩)) (yw1.alloc (.cells z22 22)) rfl (by kernel_rfl) (jG 22 z22 rfl qm _ _ yhB50) (HI.o _ _ _ yP49) ?_ AllJ.nil
   try simp only [Act.put,sA,sB,sC]
   have yhv51:(yw1.alloc (.cells z22 22)).heap[yB48]?=some (.cells z22 22 (0,0)):=by rw [← yhB50];exact World.alloc_heap_new _ _
   have yhn52:=fun h=>(absurd ((hC.bnd yP3.st).2 yB48 h).2 (by omega):False)
   have yhle53:w6.heap.size≤yB48:=by have:=yP3.fr.size;omega
   have yhlt54:yB48<(yw1.alloc (.cells z22 22)).heap.size:=by rw [World.size_alloc];omega
   generalize yw1.alloc (.cells z22 22)=yw55 at *
   refine jb [7] (by kernel_rfl) (by simp) ?_
   refine AllJ.call jE 7 43 154 #[.agg X,.int .i64 n,.agg XT] rfl (by kernel_rfl) (by go_simp) ((callsIn_wide.2 (CO.o yw55)).mono ?_) AllJ.nil
   rintro e yw56 ⟨yu57,rfl,yho58,yhg59⟩
   have yP60:=yP49.grow hC yhg59
   have yhu61:=Su.Owns.has yho58
   have yhv62:=(yhg59.block yB48 yhlt54).trans yhv51
   have yhlt63:=Nat.lt_of_lt_of_le yhlt54 yhg59.size
   refine ⟨_,rfl,HI.o _ _ _ yP60,?_⟩
   try simp only [Act.put,sA,sB,sC]
   refine jb [8] (by kernel_rfl) (by simp) ?_
   refine AllJ.call jE 8 44 153 #[.pointer (some ⟨Wb,0,none⟩),yu57] rfl (by kernel_rfl) (by go_simp) ((callsIn_wide.2 (CA.o _ yw56 yu57 yP60 yhu61)).mono ?_) AllJ.nil
   rintro e yw64 ⟨rfl,hpo⟩
   obtain ⟨yM65,yP66,yhM67,yhf68⟩:=yP60.next hpo
   have yhv69:=(yhf68.same yB48 yhlt63 yhn52).trans yhv62
   have yhn70:=kM yhM67 yhn52 yhlt63
   have yhlt71:=Nat.lt_of_lt_of_le yhlt63 yhf68.size
   have yP72:PS St pre (tk++(tp.2++[T])) M yM65 w6 yw64:=by rw [← List.append_assoc];exact yP66
   refine ⟨_,rfl,HI.o _ _ _ yP72,?_⟩
   try simp only [Act.put,sA,sB,sC]
   refine jb [10] (by kernel_rfl) (by simp) ?_
   obtain ⟨yP73,yhx74⟩:=HF.o yw64 _ yB48 yP72 yhv69 yhn70 yhle53
   refine AllJ.skip jE 10 (yw64.setRow yB48 XI) rfl (by kernel_rfl) (jL 22 _ _ rfl yB48 XI z22 rfl rfl _ yhv69 (by rw [jx,HT.o.2.2.1]) (by rw [ju,HT.o.2.2.1]) HT.o.2.2.2) (HI.o _ _ _ yP73) ?_ AllJ.nil
   try simp only [List.setIfInBounds_toArray,List.set_cons_zero,List.set_cons_succ]
   refine xn (by kernel_rfl) ?_
   have HQ:=hid (⟨yP73,yhx74⟩:_∧_)
   have hq2:=jB (yP73.at hC H6.o.2.1 H6.o.2.2.1 H6.o.2.2.2.1 H6.o.2.2.2.2.1).1.lies 2 _ rfl
   have hqB:(yw64.setRow yB48 XI).heap[B]?=some (.cells z22 22 (0,0)):=(yP73.fr.same B H6.o.2.2.2.2.2.2.2.2.1 H6.o.2.2.2.2.2.2.1).trans H6.o.2.2.2.2.2.2.2.1
   clear yP73 yhx74
   generalize yw64.setRow yB48 XI=wf at *
   go_wp2_with (first
    | ((with_reducible refine jA (.bool false) ?_ ?_);exact zD _ rfl rfl rfl _)
    | ((with_reducible refine jA (.agg XI) ?_ ?_);exact jv 22 _ rfl yB48 0 rfl XI _ (jD HQ.o.2) Tryz.underlying22 rfl (by rw [jx,HT.o.2.2.1]))
    | ((with_reducible refine jC (wf.setRow B XI) ?_ ?_);exact jL 22 _ _ rfl B XI z22 rfl rfl _ hqB (by rw [jx,HT.o.2.2.1]) (by rw [ju,HT.o.2.2.1]) HT.o.2.2.2))
   refine bodyPost_ret (results_cell_row (P:=Tryz.prog) (p:=4) (ty:=22) rfl _ _ B 22 XI (0,0) _ rfl (setRow_heap _ _ _ _ _ _ hqB) Tryz.underlying22 rfl (by rw [jx,HT.o.2.2.1])) rfl ?_
   rw [HZ.o]
   exact ⟨by rw [HXI.o],HEND.o _ _ HQ.o.1⟩
 ·obtain ⟨yB75,yhB77⟩:∃ B9,w9.heap.size=B9:=⟨_,rfl⟩
  have yP76:=hp9.grow hC (G.alloc w9 (.cells z22 22))
  refine AllJ.value jE 9 9 (.pointer (some ⟨yB75,0,none⟩)) (w9.alloc (.cells z22 22)) rfl (by kernel_rfl) (jG 22 z22 rfl qm _ _ yhB77) (HI.o _ _ _ yP76) ?_ AllJ.nil
  try simp only [Act.put,sA,sB,sC]
  have yhv78:(w9.alloc (.cells z22 22)).heap[yB75]?=some (.cells z22 22 (0,0)):=by rw [← yhB77];exact World.alloc_heap_new _ _
  have yhn79:=fun h=>(absurd ((hC.bnd hp9.st).2 yB75 h).2 (by omega):False)
  have yhle80:w6.heap.size≤yB75:=by have:=hp9.fr.size;omega
  have yhlt81:yB75<(w9.alloc (.cells z22 22)).heap.size:=by rw [World.size_alloc];omega
  have yhg83:=hg9.trans (G.alloc w9 (.cells z22 22))
  generalize w9.alloc (.cells z22 22)=yw82 at *
  refine jb [6] (by kernel_rfl) (by simp) ?_
  refine AllJ.call jE 6 42 157 #[.pointer (some ⟨Wb,0,none⟩),.slice a8 n cap8] rfl (by kernel_rfl) (by go_simp) ((callsIn_wide.2 (hp8.o.2 yw82 yhg83)).mono ?_) AllJ.nil
  rintro e yw84 ⟨rfl,hpo⟩
  obtain ⟨yM85,yP86,yhM87,yhf88⟩:=yP76.next hpo
  have yhv89:=(yhf88.same yB75 yhlt81 yhn79).trans yhv78
  have yhn90:=kM yhM87 yhn79 yhlt81
  have yhlt91:=Nat.lt_of_lt_of_le yhlt81 yhf88.size
  refine ⟨_,rfl,HI.o _ _ _ yP86,?_⟩
  try simp only [Act.put,sA,sB,sC]
  refine jb [7] (by kernel_rfl) (by simp) ?_
  refine AllJ.call jE 7 43 154 #[.agg X,.int .i64 n,.agg XT] rfl (by kernel_rfl) (by go_simp) ((callsIn_wide.2 (CO.o yw84)).mono ?_) AllJ.nil
  rintro e yw92 ⟨yu93,rfl,yho94,yhg95⟩
  have yP96:=yP86.grow hC yhg95
  have yhu97:=Su.Owns.has yho94
  have yhv98:=(yhg95.block yB75 yhlt91).trans yhv89
  have yhlt99:=Nat.lt_of_lt_of_le yhlt91 yhg95.size
  refine ⟨_,rfl,HI.o _ _ _ yP96,?_⟩
  try simp only [Act.put,sA,sB,sC]
  refine jb [8] (by kernel_rfl) (by simp) ?_
  refine AllJ.call jE 8 44 153 #[.pointer (some ⟨Wb,0,none⟩),yu93] rfl (by kernel_rfl) (by go_simp) ((callsIn_wide.2 (CA.o _ yw92 yu93 yP96 yhu97)).mono ?_) AllJ.nil
  rintro e yw100 ⟨rfl,hpo⟩
  obtain ⟨yM101,yP102,yhM103,yhf104⟩:=yP96.next hpo
  have yhv105:=(yhf104.same yB75 yhlt99 yhn90).trans yhv98
  have yhn106:=kM yhM103 yhn90 yhlt99
  have yhlt107:=Nat.lt_of_lt_of_le yhlt99 yhf104.size
  have yP108:PS St pre (tk++(tp.2++[T])) M yM101 w6 yw100:=by rw [← List.append_assoc];exact yP102
  refine ⟨_,rfl,HI.o _ _ _ yP108,?_⟩
  try simp only [Act.put,sA,sB,sC]
  refine jb [10] (by kernel_rfl) (by simp) ?_
  obtain ⟨yP109,yhx110⟩:=HF.o yw100 _ yB75 yP108 yhv105 yhn106 yhle80
  refine AllJ.skip jE 10 (yw100.setRow yB75 XI) rfl (by kernel_rfl) (jL 22 _ _ rfl yB75 XI z22 rfl rfl _ yhv105 (by rw [jx,HT.o.2.2.1]) (by rw [ju,HT.o.2.2.1]) HT.o.2.2.2) (HI.o _ _ _ yP109) ?_ AllJ.nil
  try simp only [List.setIfInBounds_toArray,List.set_cons_zero,List.set_cons_succ]
  refine xn (by kernel_rfl) ?_
  have HQ:=hid (⟨yP109,yhx110⟩:_∧_)
  have hq2:=jB (yP109.at hC H6.o.2.1 H6.o.2.2.1 H6.o.2.2.2.1 H6.o.2.2.2.2.1).1.lies 2 _ rfl
  have hqB:(yw100.setRow yB75 XI).heap[B]?=some (.cells z22 22 (0,0)):=(yP109.fr.same B H6.o.2.2.2.2.2.2.2.2.1 H6.o.2.2.2.2.2.2.1).trans H6.o.2.2.2.2.2.2.2.1
  clear yP109 yhx110
  generalize yw100.setRow yB75 XI=wf at *
  go_wp2_with (first
   | ((with_reducible refine jA (.bool false) ?_ ?_);exact zD _ rfl rfl rfl _)
   | ((with_reducible refine jA (.agg XI) ?_ ?_);exact jv 22 _ rfl yB75 0 rfl XI _ (jD HQ.o.2) Tryz.underlying22 rfl (by rw [jx,HT.o.2.2.1]))
   | ((with_reducible refine jC (wf.setRow B XI) ?_ ?_);exact jL 22 _ _ rfl B XI z22 rfl rfl _ hqB (by rw [jx,HT.o.2.2.1]) (by rw [ju,HT.o.2.2.1]) HT.o.2.2.2))
  refine bodyPost_ret (results_cell_row (P:=Tryz.prog) (p:=4) (ty:=22) rfl _ _ B 22 XI (0,0) _ rfl (setRow_heap _ _ _ _ _ _ hqB) Tryz.underlying22 rfl (by rw [jx,HT.o.2.2.1])) rfl ?_
  rw [HZ.o]
  exact ⟨by rw [HXI.o],HEND.o _ _ HQ.o.1⟩
theorem mQ (hC:CB St lo Wb (.pointer (some c1)) (.pointer (some c2)) (.pointer (some c3))):∀ (Z:Nat) (v:Vd) (k:K),k.flat.size<Z→vOk v→fOk k.flat→k.flat.size≤100000→dt St lo Wb c1 c2 c3 v k
 | 0,_,_,h,_,_,_=>absurd h (Nat.not_lt_zero _)
 | Z+1,v,k,hZ,hv,hf,hs=>by
  by_cases hk:v.kind=1
  ·refine tP hC v k hv hk hf hs fun x hx=>?_
   have h1:=yE x hx
   have h2:=mO (by rw [qC];exact hf) x hx
   exact mQ hC Z x.v x.k (by omega) h2.1 h2.2 (by omega)
  ·exact pp hC v k hv hk
end
end Go.Proofs.YtjikkhbcbfpocaaGreatDoor
