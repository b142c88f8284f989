import Derived.Test.YthfcanpkhjgomaaGreatVu
namespace Go.Proofs.YthfcanpkhjgomaaGreat.Th
open Go.RowKit Ch
abbrev Pr:=Option Nat × Option Nat
def ordA (A B:List Cd) (i j:Nat):Int:=match A[i]?,B[j]? with
 | none,_=>1
 | some _,none=>-1
 | some x,some y=>cmpL (tl x.path) (tl y.path)
def itm (A B:List Cd) (i j:Nat):Pr:=(if ordA A B i j≤0 then some i else none,if 0≤ordA A B i j then some j else none)
def ni (A B:List Cd) (i j:Nat):Nat:=if ordA A B i j≤0 then i+1 else i
def nj (A B:List Cd) (i j:Nat):Nat:=if 0≤ordA A B i j then j+1 else j
def mgF (A B:List Cd):Nat→Nat→Nat→List Pr
 | 0,_,_=>[]
 | f+1,i,j=>if i<A.length∨j<B.length then itm A B i j::mgF A B f (ni A B i j) (nj A B i j) else []
def rem (A B:List Cd) (i j:Nat):Nat:=(A.length-i)+(B.length-j)
theorem ord_left {A B:List Cd} {i j:Nat} (_h:i<A.length∨j<B.length) (ho:ordA A B i j≤0):i<A.length:=by
 unfold ordA at ho
 by_cases hi:i<A.length
 ·exact hi
 ·rw [List.getElem?_eq_none (by omega)] at ho
  simp at ho
theorem ord_right {A B:List Cd} {i j:Nat} (h:i<A.length∨j<B.length) (ho:0≤ordA A B i j):j<B.length:=by
 unfold ordA at ho
 by_cases hj:j<B.length
 ·exact hj
 ·have hi:i<A.length:=by omega
  rw [List.getElem?_eq_none (l:=B) (by omega),List.getElem?_eq_getElem hi] at ho
  simp at ho
theorem rem_next {A B:List Cd} {i j:Nat} (h:i<A.length∨j<B.length):rem A B (ni A B i j) (nj A B i j)<rem A B i j:=by
 unfold rem ni nj
 by_cases h1:ordA A B i j≤0
 ·have:=ord_left h h1
  rw [if_pos h1]
  split
  ·rename_i h2
   have:=ord_right h h2
   omega
  ·omega
 ·have h2:0≤ordA A B i j:=by omega
  have:=ord_right h h2
  rw [if_neg h1,if_pos h2]
  omega
theorem mgF_succ (A B:List Cd) (f i j:Nat):mgF A B (f+1) i j=if i<A.length∨j<B.length then itm A B i j::mgF A B f (ni A B i j) (nj A B i j) else []:=rfl
theorem mgF_more (A B:List Cd):∀ (f i j:Nat),rem A B i j≤f→mgF A B (f+1) i j=mgF A B f i j
 | 0,i,j,h=>by
  unfold rem at h
  rw [mgF_succ,if_neg (by omega)]
  rfl
 | f+1,i,j,h=>by
  rw [mgF_succ A B (f+1) i j,mgF_succ A B f i j]
  split
  ·rename_i hc
   rw [mgF_more A B f _ _ (by have:=rem_next hc;omega)]
  ·rfl
theorem mgF_enough (A B:List Cd) (i j:Nat):∀ k,mgF A B (rem A B i j+k) i j=mgF A B (rem A B i j) i j
 | 0=>rfl
 | k+1=>by rw [← Nat.add_assoc,mgF_more A B _ i j (by omega),mgF_enough A B i j k]
def mg (A B:List Cd) (i j:Nat):List Pr:=mgF A B (rem A B i j) i j
theorem mg_step {A B:List Cd} {i j:Nat} (h:i<A.length∨j<B.length):mg A B i j=itm A B i j::mg A B (ni A B i j) (nj A B i j):=by
 have h1:=rem_next h
 obtain ⟨k,hk⟩:∃ k,rem A B i j=rem A B (ni A B i j) (nj A B i j)+k+1:=⟨rem A B i j-rem A B (ni A B i j) (nj A B i j)-1,by omega⟩
 unfold mg
 rw [hk,mgF_succ,if_pos h,mgF_enough]
theorem mg_done {A B:List Cd} {i j:Nat} (h:¬ (i<A.length∨j<B.length)):mg A B i j=[]:=by
 unfold mg rem
 rw [show A.length-i+(B.length-j)=0 by omega]
 rfl
def cz:Cd:=chP ⟨#[]⟩
def outP (A B:List Cd):Pr→List Cd
 | (some i,some j)=>if (A.getD i cz).old=(B.getD j cz).new then [] else [⟨(A.getD i cz).path,(A.getD i cz).old,(B.getD j cz).new⟩]
 | (some i,none)=>[A.getD i cz]
 | (none,some j)=>[B.getD j cz]
 | (none,none)=>[]
def badP (A B:List Cd):Pr→Bool
 | (some i,some j)=>!decide ((A.getD i cz).new=(B.getD j cz).old)
 | _=>false
def outs (A B:List Cd) (L:List Pr):List Cd:=(L.map (outP A B)).flatten
def wrong (A B:List Cd) (L:List Pr):Bool:=L.any (badP A B)
theorem outs_snoc (A B:List Cd) (L:List Pr) (p:Pr):outs A B (L++[p])=outs A B L++outP A B p:=by simp [outs]
theorem wrong_snoc (A B:List Cd) (L:List Pr) (p:Pr):wrong A B (L++[p])=(wrong A B L||badP A B p):=by simp [wrong]
theorem outP_len (A B:List Cd) (p:Pr):(outP A B p).length≤1:=by
 obtain ⟨a,b⟩:=p
 cases a<;>cases b<;>simp only [outP]
 ·simp
 ·simp
 ·simp
 ·split<;>simp
theorem mg_len (A B:List Cd) (i j:Nat):(mg A B i j).length≤rem A B i j:=by
 have:∀ f i j,(mgF A B f i j).length≤f:=by
  intro f
  induction f with
  | zero=>intro i j;simp [mgF]
  | succ f ih=>
   intro i j
   rw [mgF_succ]
   split
   ·simp only [List.length_cons];have:=ih (ni A B i j) (nj A B i j);omega
   ·simp
 exact this _ _ _
theorem outs_len (A B:List Cd):∀ L:List Pr,(outs A B L).length≤L.length
 | []=>by simp [outs]
 | p::L=>by
  have h1:=outP_len A B p
  have h2:=outs_len A B L
  have e:outs A B (p::L)=outP A B p++outs A B L:=by simp [outs]
  rw [e,List.length_append,List.length_cons]
  omega
def thenE (A B:List Cd):Int:=if riseB none A&&riseB none B then (if wrong A B (mg A B 0 0) then 131 else 0) else 130
def thenR (A B:List Cd):List Cd:=if thenE A B=0 then outs A B (mg A B 0 0) else []
theorem getD_of {A:List Cd} {i:Nat} {x:Cd} (h:A[i]?=some x):A.getD i cz=x:=by simp [List.getD,h]
theorem itm_neg {A B:List Cd} {i j:Nat} (h:ordA A B i j<0):itm A B i j=(some i,none)∧ni A B i j=i+1∧nj A B i j=j:=by
 unfold itm ni nj
 rw [if_pos (by omega),if_neg (by omega),if_pos (by omega),if_neg (by omega)]
 exact ⟨rfl,rfl,rfl⟩
theorem itm_pos {A B:List Cd} {i j:Nat} (h:0<ordA A B i j):itm A B i j=(none,some j)∧ni A B i j=i∧nj A B i j=j+1:=by
 unfold itm ni nj
 rw [if_neg (by omega),if_pos (by omega),if_neg (by omega),if_pos (by omega)]
 exact ⟨rfl,rfl,rfl⟩
theorem itm_zero {A B:List Cd} {i j:Nat} (h:ordA A B i j=0):itm A B i j=(some i,some j)∧ni A B i j=i+1∧nj A B i j=j+1:=by
 unfold itm ni nj
 rw [if_pos (by omega),if_pos (by omega),if_pos (by omega),if_pos (by omega)]
 exact ⟨rfl,rfl,rfl⟩
theorem snoc_mg {A B:List Cd} {i j:Nat} {pre:List Pr} (hc:i<A.length∨j<B.length) (h:pre++mg A B i j=mg A B 0 0):(pre++[itm A B i j])++mg A B (ni A B i j) (nj A B i j)=mg A B 0 0:=by
 rw [List.append_assoc,List.singleton_append,← mg_step hc];exact h
end Go.Proofs.YthfcanpkhjgomaaGreat.Th
namespace Go.Proofs.YthfcanpkhjgomaaGreat
open Go.RowKit
open Ch (Cd riseB)
open Th (mg itm ni nj ordA outs outP badP wrong getD_of mg_step mg_done itm_neg itm_pos itm_zero rem rem_next)
open DO (vz)
theorem ltP_ne {x y:Cd} (h:ltP x y):x.path≠y.path:=fun e=>by
 unfold ltP at h
 rw [e,(cmpL_zero _ _).2 rfl] at h
 omega
theorem ltP_trans {x y z:Cd} (h:ltP x y) (k:ltP y z):ltP x z:=cmpL_lt h k
theorem ltP_path {x y z:Cd} (e:y.path=z.path) (h:ltP x y):ltP x z:=by unfold ltP at h ⊢;rw [← e];exact h
theorem ltP_path' {x y z:Cd} (e:x.path=y.path) (h:ltP x z):ltP y z:=by unfold ltP at h ⊢;rw [← e];exact h
structure Jn (X Y S:List Cd) (b:Bool):Prop where
 srt:S.Pairwise ltP
 mem:∀ c∈S,(c∈X∧∀ y∈Y,y.path≠c.path)∨(c∈Y∧∀ x∈X,x.path≠c.path)∨∃ x∈X,∃ y∈Y,x.path=y.path∧c=⟨x.path,x.old,y.new⟩∧x.old≠y.new
 left:∀ x∈X,(∀ y∈Y,y.path≠x.path)→x∈S
 right:∀ y∈Y,(∀ x∈X,x.path≠y.path)→y∈S
 both:∀ x∈X,∀ y∈Y,x.path=y.path→x.old≠y.new→(⟨x.path,x.old,y.new⟩:Cd)∈S
 bad:(∀ x∈X,∀ y∈Y,x.path=y.path→x.new=y.old)→b=false
theorem Jn.from {X Y S:List Cd} {b:Bool} (h:Jn X Y S b) {c:Cd} (hc:c∈S):(∃ x∈X,x.path=c.path)∨∃ y∈Y,y.path=c.path:=by
 rcases h.mem c hc with ⟨q,_⟩ | ⟨q,_⟩ | ⟨x,hx,y,_,_,e,_⟩
 ·exact .inl ⟨c,q,rfl⟩
 ·exact .inr ⟨c,q,rfl⟩
 ·exact .inl ⟨x,hx,by rw [e]⟩
theorem Jn.lt {X Y S:List Cd} {b:Bool} (h:Jn X Y S b) {x:Cd} (h1:∀ a∈X,ltP x a) (h2:∀ a∈Y,ltP x a):∀ c∈S,ltP x c:=fun c hc=>by
 rcases h.from hc with ⟨a,ha,e⟩ | ⟨a,ha,e⟩
 ·exact ltP_path e (h1 a ha)
 ·exact ltP_path e (h2 a ha)
theorem Jn.nil:Jn [] [] [] false:=⟨.nil,fun _ h=>(List.not_mem_nil h).elim,fun _ h=>(List.not_mem_nil h).elim,fun _ h=>(List.not_mem_nil h).elim,fun _ h=>(List.not_mem_nil h).elim,fun _=>rfl⟩
theorem Jn.swap {X Y S:List Cd} {b:Bool} {x:Cd} (h:Jn X Y S b) (h1:∀ a∈X,ltP x a) (h2:∀ a∈Y,ltP x a):Jn (x::X) Y (x::S) b where
 srt:=List.pairwise_cons.2 ⟨h.lt h1 h2,h.srt⟩
 mem:=fun c hc=>by
  rcases List.mem_cons.1 hc with rfl | hc
  ·exact .inl ⟨List.mem_cons_self,fun y hy=>(ltP_ne (h2 y hy)).symm⟩
  ·have hlt:=h.lt h1 h2 c hc
   rcases h.mem c hc with ⟨q,q2⟩ | ⟨q,q2⟩ | ⟨a,ha,y,hy,e⟩
   ·exact .inl ⟨List.mem_cons_of_mem _ q,q2⟩
   ·refine .inr (.inl ⟨q,fun a ha=>?_⟩)
    rcases List.mem_cons.1 ha with rfl | ha
    ·exact ltP_ne hlt
    ·exact q2 a ha
   ·exact .inr (.inr ⟨a,List.mem_cons_of_mem _ ha,y,hy,e⟩)
 left:=fun a ha q=>by
  rcases List.mem_cons.1 ha with rfl | ha
  ·exact List.mem_cons_self
  ·exact List.mem_cons_of_mem _ (h.left a ha q)
 right:=fun y hy q=>List.mem_cons_of_mem _ (h.right y hy fun a ha=>q a (List.mem_cons_of_mem _ ha))
 both:=fun a ha y hy e n=>by
  rcases List.mem_cons.1 ha with rfl | ha
  ·exact absurd e (ltP_ne (h2 y hy))
  ·exact List.mem_cons_of_mem _ (h.both a ha y hy e n)
 bad:=fun q=>h.bad fun a ha y hy e=>q a (List.mem_cons_of_mem _ ha) y hy e
theorem Jn.swap' {X Y S:List Cd} {b:Bool} {y:Cd} (h:Jn X Y S b) (h1:∀ a∈X,ltP y a) (h2:∀ a∈Y,ltP y a):Jn X (y::Y) (y::S) b where
 srt:=List.pairwise_cons.2 ⟨h.lt h1 h2,h.srt⟩
 mem:=fun c hc=>by
  rcases List.mem_cons.1 hc with rfl | hc
  ·exact .inr (.inl ⟨List.mem_cons_self,fun y hy=>(ltP_ne (h1 y hy)).symm⟩)
  ·have hlt:=h.lt h1 h2 c hc
   rcases h.mem c hc with ⟨q,q2⟩ | ⟨q,q2⟩ | ⟨a,ha,z,hz,e⟩
   ·refine .inl ⟨q,fun a ha=>?_⟩
    rcases List.mem_cons.1 ha with rfl | ha
    ·exact ltP_ne hlt
    ·exact q2 a ha
   ·exact .inr (.inl ⟨List.mem_cons_of_mem _ q,q2⟩)
   ·exact .inr (.inr ⟨a,ha,z,List.mem_cons_of_mem _ hz,e⟩)
 left:=fun a ha q=>List.mem_cons_of_mem _ (h.left a ha fun z hz=>q z (List.mem_cons_of_mem _ hz))
 right:=fun z hz q=>by
  rcases List.mem_cons.1 hz with rfl | hz
  ·exact List.mem_cons_self
  ·exact List.mem_cons_of_mem _ (h.right z hz q)
 both:=fun a ha z hz e n=>by
  rcases List.mem_cons.1 hz with rfl | hz
  ·exact absurd e.symm (ltP_ne (h1 a ha))
  ·exact List.mem_cons_of_mem _ (h.both a ha z hz e n)
 bad:=fun q=>h.bad fun a ha z hz e=>q a ha z (List.mem_cons_of_mem _ hz) e
theorem Jn.two {X Y S:List Cd} {b:Bool} {x y:Cd} (h:Jn X Y S b) (e:x.path=y.path) (h1:∀ a∈X,ltP x a) (h2:∀ a∈Y,ltP y a):
  Jn (x::X) (y::Y) ((if x.old=y.new then [] else [⟨x.path,x.old,y.new⟩])++S) ((!decide (x.new=y.old))||b):=by
 have h3:∀ a∈Y,ltP x a:=fun a ha=>ltP_path' e.symm (h2 a ha)
 have h4:∀ a∈X,ltP y a:=fun a ha=>ltP_path' e (h1 a ha)
 have hin:∀ c∈S,c∈(if x.old=y.new then [] else [(⟨x.path,x.old,y.new⟩:Cd)])++S:=fun c hc=>List.mem_append_right _ hc
 refine ⟨?_,fun c hc=>?_,fun a ha q=>?_,fun z hz q=>?_,fun a ha z hz e2 n=>?_,fun q=>?_⟩
 ·split
  ·exact h.srt
  ·exact List.pairwise_cons.2 ⟨fun c hc=>ltP_path' rfl (h.lt h1 h3 c hc),h.srt⟩
 ·rcases List.mem_append.1 hc with hc | hc
  ·split at hc
   ·exact (List.not_mem_nil hc).elim
   ·rename_i hne
    rw [List.mem_singleton] at hc
    exact .inr (.inr ⟨x,List.mem_cons_self,y,List.mem_cons_self,e,hc,hne⟩)
  ·have hlt:=h.lt h1 h3 c hc
   have hlt':=h.lt h4 h2 c hc
   rcases h.mem c hc with ⟨q,q2⟩ | ⟨q,q2⟩ | ⟨a,ha,z,hz,e⟩
   ·refine .inl ⟨List.mem_cons_of_mem _ q,fun a ha=>?_⟩
    rcases List.mem_cons.1 ha with rfl | ha
    ·exact ltP_ne hlt'
    ·exact q2 a ha
   ·refine .inr (.inl ⟨List.mem_cons_of_mem _ q,fun a ha=>?_⟩)
    rcases List.mem_cons.1 ha with rfl | ha
    ·exact ltP_ne hlt
    ·exact q2 a ha
   ·exact .inr (.inr ⟨a,List.mem_cons_of_mem _ ha,z,List.mem_cons_of_mem _ hz,e⟩)
 ·rcases List.mem_cons.1 ha with rfl | ha
  ·exact absurd e.symm (q y List.mem_cons_self)
  ·exact hin _ (h.left a ha fun z hz=>q z (List.mem_cons_of_mem _ hz))
 ·rcases List.mem_cons.1 hz with rfl | hz
  ·exact absurd e (q x List.mem_cons_self)
  ·exact hin _ (h.right z hz fun a ha=>q a (List.mem_cons_of_mem _ ha))
 ·rcases List.mem_cons.1 ha with rfl | ha
  ·rcases List.mem_cons.1 hz with rfl | hz
   ·rw [if_neg n];exact List.mem_cons_self
   ·exact absurd e2 (ltP_ne (h3 z hz))
  ·rcases List.mem_cons.1 hz with rfl | hz
   ·exact absurd e2.symm (ltP_ne (h4 a ha))
   ·exact hin _ (h.both a ha z hz e2 n)
 ·rw [h.bad fun a ha z hz e=>q a (List.mem_cons_of_mem _ ha) z (List.mem_cons_of_mem _ hz) e,q x List.mem_cons_self y List.mem_cons_self e]
  simp
theorem drop_of {L:List Cd} {i:Nat} {x:Cd} (h:L[i]?=some x):L.drop i=x::L.drop (i+1):=by
 obtain ⟨h1,h2⟩:=List.getElem?_eq_some_iff.1 h
 rw [List.drop_eq_getElem_cons h1,h2]
theorem jn_all {A B:List Cd} (hA:A.Pairwise ltP) (hB:B.Pairwise ltP):∀ (r i j:Nat),rem A B i j≤r→Jn (A.drop i) (B.drop j) (outs A B (mg A B i j)) (wrong A B (mg A B i j)):=by
 intro r
 induction r with
 | zero=>
  intro i j hr
  unfold rem at hr
  rw [mg_done (by omega),List.drop_eq_nil_of_le (by omega),List.drop_eq_nil_of_le (by omega)]
  exact Jn.nil
 | succ r ih=>
  intro i j hr
  by_cases hc:i<A.length∨j<B.length
  case neg=>
   rw [mg_done hc,List.drop_eq_nil_of_le (by omega),List.drop_eq_nil_of_le (by omega)]
   exact Jn.nil
  have hn:=rem_next hc
  have IH:=ih (ni A B i j) (nj A B i j) (by omega)
  rw [mg_step hc]
  have e1:∀ p L,outs A B (p::L)=outP A B p++outs A B L:=fun p L=>by simp [outs]
  have e2:∀ p L,wrong A B (p::L)=(badP A B p||wrong A B L):=fun p L=>by simp [wrong]
  rw [e1,e2]
  have hdA:(A.drop i).Pairwise ltP:=hA.sublist (List.drop_sublist i A)
  have hdB:(B.drop j).Pairwise ltP:=hB.sublist (List.drop_sublist j B)
  cases hx:A[i]? with
  | none=>
   have hi:A.length≤i:=List.getElem?_eq_none_iff.1 hx
   have ho:0<ordA A B i j:=by unfold ordA;rw [hx];exact Int.one_pos
   obtain ⟨p1,p2,p3⟩:=itm_pos ho
   obtain ⟨y,hy⟩:∃ y,B[j]?=some y:=⟨B[j]'(by omega),by simp⟩
   rw [p2,p3] at IH ⊢
   rw [p1,drop_of hy]
   rw [drop_of hy] at hdB
   rw [show outP A B (none,some j)=[y] by simp only [outP,getD_of hy],show badP A B (none,some j)=false from rfl,Bool.false_or]
   refine IH.swap' (fun a ha=>?_) (List.pairwise_cons.1 hdB).1
   rw [List.drop_eq_nil_of_le hi] at ha
   exact (List.not_mem_nil ha).elim
  | some x=>
   rw [drop_of hx] at hdA ⊢
   cases hy:B[j]? with
   | none=>
    have hj:B.length≤j:=List.getElem?_eq_none_iff.1 hy
    have ho:ordA A B i j<0:=by unfold ordA;rw [hx,hy];exact (by omega:(-1:Int)<0)
    obtain ⟨p1,p2,p3⟩:=itm_neg ho
    rw [p2,p3] at IH ⊢
    rw [p1,show outP A B (some i,none)=[x] by simp only [outP,getD_of hx],show badP A B (some i,none)=false from rfl,Bool.false_or]
    refine IH.swap (List.pairwise_cons.1 hdA).1 (fun a ha=>?_)
    rw [List.drop_eq_nil_of_le hj] at ha
    exact (List.not_mem_nil ha).elim
   | some y=>
    have hord:ordA A B i j=cmpL (tl x.path) (tl y.path):=by unfold ordA;rw [hx,hy]
    rw [drop_of hy] at hdB
    rcases Int.lt_trichotomy (ordA A B i j) 0 with ho | ho | ho
    ·obtain ⟨p1,p2,p3⟩:=itm_neg ho
     rw [p2,p3] at IH ⊢
     rw [p1,show outP A B (some i,none)=[x] by simp only [outP,getD_of hx],show badP A B (some i,none)=false from rfl,Bool.false_or]
     have hxy:ltP x y:=by unfold ltP;omega
     refine IH.swap (List.pairwise_cons.1 hdA).1 (fun a ha=>?_)
     rw [drop_of hy] at ha
     rcases List.mem_cons.1 ha with rfl | ha
     ·exact hxy
     ·exact ltP_trans hxy ((List.pairwise_cons.1 hdB).1 a ha)
    ·obtain ⟨p1,p2,p3⟩:=itm_zero ho
     have e:x.path=y.path:=tl_inj ((cmpL_zero _ _).1 (hord.symm.trans ho))
     rw [p2,p3] at IH ⊢
     rw [p1,drop_of hy]
     have h3:outP A B (some i,some j)=if x.old=y.new then [] else [⟨x.path,x.old,y.new⟩]:=by simp only [outP,getD_of hx,getD_of hy]
     have h4:badP A B (some i,some j)=!decide (x.new=y.old):=by simp only [badP,getD_of hx,getD_of hy]
     rw [h3,h4]
     exact IH.two e (List.pairwise_cons.1 hdA).1 (List.pairwise_cons.1 hdB).1
    ·obtain ⟨p1,p2,p3⟩:=itm_pos ho
     rw [p2,p3] at IH ⊢
     rw [p1,drop_of hy,show outP A B (none,some j)=[y] by simp only [outP,getD_of hy],show badP A B (none,some j)=false from rfl,Bool.false_or]
     have hyx:ltP y x:=by
      unfold ltP
      have:=cmpL_neg (tl x.path) (tl y.path)
      omega
     rw [drop_of hx] at IH
     refine IH.swap' (fun a ha=>?_) (List.pairwise_cons.1 hdB).1
     rcases List.mem_cons.1 ha with rfl | ha
     ·exact hyx
     ·exact ltP_trans hyx ((List.pairwise_cons.1 hdA).1 a ha)
end Go.Proofs.YthfcanpkhjgomaaGreat
namespace Go.Proofs.YthfcanpkhjgomaaGreat
open Go.RowKit
open Ch (Cd riseB)
open Th (mg outs wrong thenE thenR)
open DO (vz)
theorem cutN_inj {a b:ByteArray} (h:cutN a=cutN b):a=b:=by
 have h1:=congrArg (List.map tl) h
 rw [cutN_tl,cutN_tl] at h1
 have h2:=congrArg joinL h1
 rw [join_pieces,join_pieces] at h2
 exact tl_inj h2
theorem Dd.at {t u:T3} {D:List DO.Dif} (h:Dd t u D):∀ x∈D.map toC,vcV x.old=vl t (cutN x.path)∧vcV x.new=vl u (cutN x.path)∧vl t (cutN x.path)≠vl u (cutN x.path)∧splitE (tl x.path) 64=0:=fun x hx=>by
 obtain ⟨h1,h2,h3⟩:=h.cn _ (List.mem_map_of_mem (f:=toN) hx)
 have h1':vcV x.old=vl t (cutN x.path):=h1
 have h2':vcV x.new=vl u (cutN x.path):=h2
 have h3':vcV x.old≠vcV x.new:=h3
 rw [h1',h2'] at h3'
 exact ⟨h1',h2',h3',h.split x hx⟩
theorem Dd.has {t u:T3} {D:List DO.Dif} (h:Dd t u D) (M:List ByteArray) (hM:vl t M≠vl u M):∃ x∈D.map toC,cutN x.path=M:=by
 obtain ⟨c,hc,e⟩:=h.cn_all M hM
 obtain ⟨x,hx,rfl⟩:=List.mem_map.1 hc
 exact ⟨x,hx,e⟩
theorem then_dd {t u w:T3} {D E:List DO.Dif} (h:Dd t u D) (k:Dd u w E):thenE (D.map toC) (E.map toC)=0∧Dd t w ((thenR (D.map toC) (E.map toC)).map frC):=by
 obtain ⟨A,hA⟩:∃ A,D.map toC=A:=⟨_,rfl⟩
 obtain ⟨B,hB⟩:∃ B,E.map toC=B:=⟨_,rfl⟩
 have a1:=h.rise
 have b1:=k.rise
 have a2:=h.lt
 have b2:=k.lt
 have a3:=h.at
 have b3:=k.at
 have a4:=h.has
 have b4:=k.has
 rw [hA] at a1 a2 a3 a4 ⊢
 rw [hB] at b1 b2 b3 b4 ⊢
 have J:=jn_all a2 b2 _ 0 0 (Nat.le_refl _)
 rw [List.drop_zero,List.drop_zero] at J
 have hw:wrong A B (mg A B 0 0)=false:=J.bad fun x hx y hy e=>by
  have h1:=(a3 x hx).2.1
  have h2:=(b3 y hy).1
  rw [← e,← h1] at h2
  rw [← cvV_vc x.new,← cvV_vc y.old,h2]
 have hE:thenE A B=0:=by
  unfold thenE
  rw [a1,b1,hw]
  rfl
 refine ⟨hE,?_⟩
 have hR:thenR A B=outs A B (mg A B 0 0):=by unfold thenR;rw [if_pos hE]
 rw [hR]
 obtain ⟨S,hS⟩:∃ S,outs A B (mg A B 0 0)=S:=⟨_,rfl⟩
 rw [hS] at J ⊢
 have noB:∀ M,(∀ y∈B,cutN y.path≠M)→vl u M=vl w M:=fun M q=>Classical.byContradiction fun q2=>by
  obtain ⟨y,hy,e⟩:=b4 M q2
  exact q y hy e
 have noA:∀ M,(∀ x∈A,cutN x.path≠M)→vl t M=vl u M:=fun M q=>Classical.byContradiction fun q2=>by
  obtain ⟨y,hy,e⟩:=a4 M q2
  exact q y hy e
 have each:∀ c∈S,splitE (tl c.path) 64=0∧vcV c.old=vl t (cutN c.path)∧vcV c.new=vl w (cutN c.path)∧c.old≠c.new:=fun c hc=>by
  rcases J.mem c hc with ⟨q,q2⟩ | ⟨q,q2⟩ | ⟨x,hx,y,hy,e,rfl,n⟩
  ·obtain ⟨p1,p2,p3,p4⟩:=a3 c q
   have p5:=noB (cutN c.path) fun y hy e=>q2 y hy (cutN_inj e)
   exact ⟨p4,p1,p2.trans p5,fun e=>p3 (by rw [← p1,← p2,e])⟩
  ·obtain ⟨p1,p2,p3,p4⟩:=b3 c q
   have p5:=noA (cutN c.path) fun y hy e=>q2 y hy (cutN_inj e)
   exact ⟨p4,p1.trans p5.symm,p2,fun e=>p3 (by rw [← p1,← p2,e])⟩
  ·obtain ⟨p1,_,_,p4⟩:=a3 x hx
   obtain ⟨_,q2,_,_⟩:=b3 y hy
   exact ⟨p4,p1,by rw [← e] at q2;exact q2,n⟩
 refine ⟨?_,fun d hd=>?_,fun M hM=>?_⟩
 ·show (S.map frC).Pairwise _
  rw [List.pairwise_map]
  refine J.srt.imp fun {a b} hab=>?_
  show cmpP ((cutN a.path).map tl) ((cutN b.path).map tl)=-1
  rw [cutN_tl,cutN_tl]
  have h1:cmpP (pieces (tl a.path)) (pieces (tl b.path))<0:=by rw [cmpP_pieces];exact hab
  rcases DO.cmpP_three (pieces (tl a.path)) (pieces (tl b.path)) with q | q | q
  ·exact q
  ·omega
  ·omega
 ·obtain ⟨c,hc,rfl⟩:=List.mem_map.1 hd
  obtain ⟨p1,p2,p3,p4⟩:=each c hc
  have hn:=names_split p1
  exact ⟨cutN c.path,rfl,hn.1,hn.2,p2,p3,fun q=>p4 (by rw [← cvV_vc c.old,← cvV_vc c.new];exact congrArg cvV q)⟩
 ·have key:∃ c∈S,cutN c.path=M:=by
   by_cases q1:vl t M=vl u M
   ·obtain ⟨y,hy,rfl⟩:=b4 M fun q=>hM (q1.trans q)
    exact ⟨y,J.right y hy fun x hx e=>(a3 x hx).2.2.1 (by rw [e];exact q1),rfl⟩
   ·obtain ⟨x,hx,rfl⟩:=a4 M q1
    by_cases q2:vl u (cutN x.path)=vl w (cutN x.path)
    ·exact ⟨x,J.left x hx fun y hy e=>(b3 y hy).2.2.1 (by rw [e];exact q2),rfl⟩
    ·obtain ⟨y,hy,e⟩:=b4 _ q2
     have ep:=cutN_inj e
     refine ⟨_,J.both x hx y hy ep.symm fun n=>hM ?_,rfl⟩
     rw [← (a3 x hx).1,n,(b3 y hy).2.1,ep]
  obtain ⟨c,hc,rfl⟩:=key
  exact ⟨frC c,List.mem_map_of_mem hc,rfl⟩
theorem dl_then {q r s:Kid} (ht:Good (kT q)) (hu:Good (kT r)) (hw:Good (kT s)):thenE (difs (some q) (some r)) (difs (some r) (some s))=0∧thenR (difs (some q) (some r)) (difs (some r) (some s))=difs (some q) (some s):=by
 obtain ⟨h1,h2⟩:=then_dd (dl_dd ht hu) (dl_dd hu hw)
 refine ⟨h1,?_⟩
 show thenR ((dl [] (some q) (some r)).map toC) ((dl [] (some r) (some s)).map toC)=(dl [] (some q) (some s)).map toC
 rw [(dl_dd ht hw).uniq h2,List.map_map]
 conv=>lhs;rw [← List.map_id (thenR _ _)]
 exact (List.map_congr_left fun c _=>toC_fr c).symm
end Go.Proofs.YthfcanpkhjgomaaGreat
