import Derived.Test.YthfcanpkhjgomaaGreatVa
namespace Go.Proofs.YthfcanpkhjgomaaGreat.DO
open Go.RowKit
def vz:Vd:=⟨0,0,0,List.replicate 32 0,by simp⟩
structure Ent where
 p:List By
 v:Vd
structure Dif where
 p:List By
 o:Vd
 n:Vd
theorem belowL_self:∀ a:By,belowL a a=false
 | []=>rfl
 | x::xs=>by rw [belowL_cons];exact belowL_self xs
theorem belowL_asym:∀ a b:By,belowL a b=true→belowL b a=false
 | [],[],h=>by cases h
 | [],_::_,_=>rfl
 | _::_,[],h=>by cases h
 | x::xs,y::ys,h=>by
  rw [belowL] at h ⊢
  by_cases e:x=y
  ·rw [if_pos e] at h;rw [if_pos e.symm];exact belowL_asym xs ys h
  ·rw [if_neg e] at h
   rw [if_neg (fun q=>e q.symm)]
   simp at h ⊢
   omega
theorem belowL_eq:∀ a b:By,belowL a b=false→belowL b a=false→a=b
 | [],[],_,_=>rfl
 | [],_::_,h,_=>by cases h
 | _::_,[],_,h=>by cases h
 | x::xs,y::ys,h1,h2=>by
  rw [belowL] at h1 h2
  by_cases e:x=y
  ·rw [if_pos e] at h1;rw [if_pos e.symm] at h2
   rw [e,belowL_eq xs ys h1 h2]
  ·rw [if_neg e] at h1
   rw [if_neg (fun q=>e q.symm)] at h2
   simp at h1 h2
   exact absurd (UInt8.toNat_inj.1 (Nat.le_antisymm h2 h1)) e
theorem below_trans:∀ {a b c:By},belowL a b=true→belowL b c=true→belowL a c=true
 | [],[],_,h,_=>by cases h
 | [],_::_,[],_,h=>by cases h
 | [],_::_,_::_,_,_=>rfl
 | _::_,[],_,h,_=>by cases h
 | _::_,_::_,[],_,h=>by cases h
 | x::xs,y::ys,z::zs,h1,h2=>by
  rw [belowL] at h1 h2 ⊢
  by_cases e:x=y
  ·subst e
   rw [if_pos rfl] at h1
   by_cases e2:x=z
   ·subst e2
    rw [if_pos rfl] at h2 ⊢
    exact below_trans h1 h2
   ·rw [if_neg e2] at h2 ⊢
    exact h2
  ·rw [if_neg e] at h1
   by_cases e2:y=z
   ·subst e2
    rw [if_neg e]
    exact h1
   ·rw [if_neg e2] at h2
    simp at h1 h2
    by_cases e3:x=z
    ·subst e3;omega
    ·rw [if_neg e3]
     simp
     omega
theorem cmpP_pre:∀ (L a b:List By),cmpP (L++a) (L++b)=cmpP a b
 | [],_,_=>rfl
 | x::L,a,b=>by
  rw [List.cons_append,List.cons_append,cmpP,belowL_self]
  simp only [Bool.false_eq_true,if_false]
  exact cmpP_pre L a b
theorem cmpP_self (L:List By):cmpP L L=0:=by
 have:=cmpP_pre L [] []
 simpa [cmpP] using this
theorem cmpP_lt {L:List By} {x y:By} (h:belowL x y=true) (p q:List By):cmpP (L++x::p) (L++y::q)=-1:=by
 rw [cmpP_pre,cmpP,if_pos h]
def flatF (L:List By):F→List Ent
 | .nil=>[]
 | .cons nm v _ k r=>⟨L++[tl nm],v⟩::(flatF (L++[tl nm]) k++flatF L r)
def nms:F→List By
 | .nil=>[]
 | .cons nm _ _ _ r=>tl nm::nms r
def Rise:F→Prop
 | .nil=>True
 | .cons nm v _ k r=>v≠vz∧Rise k∧Rise r∧∀ x∈nms r,belowL (tl nm) x=true
def mgE:Nat→List Ent→List Ent→List Dif
 | 0,_,_=>[]
 | _+1,[],[]=>[]
 | f+1,x::a,[]=>⟨x.p,x.v,vz⟩::mgE f a []
 | f+1,[],y::b=>⟨y.p,vz,y.v⟩::mgE f [] b
 | f+1,x::a,y::b=>
  if cmpP x.p y.p<0 then ⟨x.p,x.v,vz⟩::mgE f a (y::b)
  else if 0<cmpP x.p y.p then ⟨y.p,vz,y.v⟩::mgE f (x::a) b
  else (if x.v=y.v then [] else [⟨x.p,x.v,y.v⟩])++mgE f a b
def df (L:List By) (o n:Vd):List Dif:=if o=n then [] else [⟨L,o,n⟩]
def wk:Nat→List By→F→F→List Dif
 | 0,_,_,_=>[]
 | _+1,_,.nil,.nil=>[]
 | f+1,L,.cons nm v _ k r,.nil=>df (L++[tl nm]) v vz++(wk f (L++[tl nm]) k .nil++wk f L r .nil)
 | f+1,L,.nil,.cons nm v _ k r=>df (L++[tl nm]) vz v++(wk f (L++[tl nm]) .nil k++wk f L .nil r)
 | f+1,L,.cons nm v m k r,.cons nm2 v2 m2 k2 r2=>
  if belowL (tl nm) (tl nm2) then df (L++[tl nm]) v vz++(wk f (L++[tl nm]) k .nil++wk f L r (.cons nm2 v2 m2 k2 r2))
  else if belowL (tl nm2) (tl nm) then df (L++[tl nm2]) vz v2++(wk f (L++[tl nm2]) .nil k2++wk f L (.cons nm v m k r) r2)
  else df (L++[tl nm]) v v2++(wk f (L++[tl nm]) k k2++wk f L r r2)
def After (L:List By) (A:List Ent):Prop:=∀ e∈A,∀ x q,cmpP (L++x::q) e.p=-1
theorem flat_in:∀ (f:F) (L:List By) (e:Ent),e∈flatF L f→∃ x∈nms f,∃ q,e.p=L++x::q
 | .nil,_,_,h=>by cases h
 | .cons nm v m k r,L,e,h=>by
  rcases List.mem_cons.1 h with rfl | h
  ·exact ⟨tl nm,by simp [nms],[],rfl⟩
  ·rcases List.mem_append.1 h with h | h
   ·obtain ⟨x,_,q,e1⟩:=flat_in k _ e h
    exact ⟨tl nm,by simp [nms],x::q,by rw [e1];simp⟩
   ·obtain ⟨x,hx,q,e1⟩:=flat_in r L e h
    exact ⟨x,by simp [nms,hx],q,e1⟩
theorem After.down {L:List By} {A:List Ent} (h:After L A) (y:By):After (L++[y]) A:=fun e he x q=>by
 have:=h e he y (x::q)
 simpa using this
theorem After.flat {L:List By} {A:List Ent} (h:After L A) {y:By} {f:F} (hf:∀ x∈nms f,belowL y x=true):After (L++[y]) (flatF L f++A):=fun e he x q=>by
 rcases List.mem_append.1 he with he | he
 ·obtain ⟨z,hz,q',e1⟩:=flat_in f L e he
  rw [e1,List.append_assoc]
  exact cmpP_lt (hf z hz) _ _
 ·exact h.down y e he x q
theorem after_lt {L:List By} {A:List Ent} (h:After L A) (y:By) {e:Ent} (he:e∈A):cmpP (L++[y]) e.p=-1:=h e he y []
theorem cmpP_neg:∀ a b:List By,cmpP b a=- cmpP a b
 | [],[]=>rfl
 | [],_::_=>rfl
 | _::_,[]=>rfl
 | x::a,y::b=>by
  rw [cmpP,cmpP]
  by_cases h:belowL x y=true
  ·rw [if_pos h,if_neg (by rw [belowL_asym _ _ h];simp),if_pos h];rfl
  ·by_cases h2:belowL y x=true
   ·simp [h,h2]
   ·rw [if_neg h,if_neg h2,if_neg h2,if_neg h];exact cmpP_neg a b
theorem mg_left {f:Nat} {x:Ent} {a b:List Ent} (h:∀ e∈b,cmpP x.p e.p=-1):mgE (f+1) (x::a) b=⟨x.p,x.v,vz⟩::mgE f a b:=by
 cases b with
 | nil=>rfl
 | cons y b=>
  have:=h y (by simp)
  rw [mgE,if_pos (by omega)]
theorem mg_right {f:Nat} {y:Ent} {a b:List Ent} (h:∀ e∈a,cmpP y.p e.p=-1):mgE (f+1) a (y::b)=⟨y.p,vz,y.v⟩::mgE f a b:=by
 cases a with
 | nil=>rfl
 | cons x a=>
  have h1:=h x (by simp)
  have h2:=cmpP_neg x.p y.p
  rw [mgE,if_neg (by omega),if_pos (by omega)]
theorem flat_len:∀ (f:F) (L:List By),(flatF L f).length=f.size
 | .nil,_=>rfl
 | .cons nm v m k r,L=>by
  simp only [flatF,List.length_cons,List.length_append,F.size,flat_len k,flat_len r]
theorem mgE_more:∀ (f g:Nat) (a b:List Ent),a.length+b.length≤f→a.length+b.length≤g→mgE f a b=mgE g a b:=by
 intro f
 induction f with
 | zero=>
  intro g a b h1 h2
  have ea:a=[]:=List.length_eq_zero_iff.1 (by omega)
  have eb:b=[]:=List.length_eq_zero_iff.1 (by omega)
  subst ea eb
  cases g<;>rfl
 | succ f ih=>
  intro g a b h1 h2
  cases g with
  | zero=>
   have ea:a=[]:=List.length_eq_zero_iff.1 (by omega)
   have eb:b=[]:=List.length_eq_zero_iff.1 (by omega)
   subst ea eb
   rfl
  | succ g=>
   cases a with
   | nil=>cases b with
    | nil=>rfl
    | cons y b=>simp only [mgE];rw [ih g [] b (by simp at h1 ⊢;omega) (by simp at h2 ⊢;omega)]
   | cons x a=>cases b with
    | nil=>simp only [mgE];rw [ih g a [] (by simp at h1 ⊢;omega) (by simp at h2 ⊢;omega)]
    | cons y b=>
     simp only [List.length_cons] at h1 h2
     simp only [mgE]
     rw [ih g a (y::b) (by simp;omega) (by simp;omega),ih g (x::a) b (by simp;omega) (by simp;omega),ih g a b (by omega) (by omega)]
theorem df_left {L:List By} {v:Vd} (h:v≠vz):df L v vz=[⟨L,v,vz⟩]:=by rw [df,if_neg h]
theorem df_right {L:List By} {v:Vd} (h:v≠vz):df L vz v=[⟨L,vz,v⟩]:=by rw [df,if_neg (fun e=>h e.symm)]
theorem mg_wk:∀ (N:Nat) (f g:F) (L:List By) (A B:List Ent) (M:Nat),f.size+g.size≤N→Rise f→Rise g→After L A→After L B→f.size+g.size+A.length+B.length≤M→
  mgE M (flatF L f++A) (flatF L g++B)=wk (N+1) L f g++mgE M A B:=by
 intro N
 induction N with
 | zero=>
  intro f g L A B M h _ _ _ _ hM
  cases f with
  | nil=>cases g with
   | nil=>rfl
   | cons nm v m k r=>simp [F.size] at h
  | cons nm v m k r=>simp [F.size] at h
 | succ N ih=>
  intro f g L A B M h hf hg hA hB hM
  cases f with
  | nil=>cases g with
   | nil=>rfl
   | cons nm v m k r=>
    obtain ⟨q1,q2,q3,q4⟩:=hg
    simp only [F.size] at h hM
    obtain ⟨M',rfl⟩:∃ M',M=M'+1:=⟨M-1,by omega⟩
    rw [wk,df_right q1]
    show mgE (M'+1) A (⟨L++[tl nm],v⟩::((flatF (L++[tl nm]) k++flatF L r)++B))=_
    rw [mg_right (fun e he=>after_lt hA (tl nm) he),List.append_assoc]
    have i1:=ih .nil k (L++[tl nm]) A (flatF L r++B) M' (by simp [F.size];omega) trivial q2 (hA.down _) (hB.flat q4) (by simp [F.size,flat_len];omega)
    have i2:=ih .nil r L A B M' (by simp [F.size];omega) trivial q3 hA hB (by simp [F.size];omega)
    simp only [flatF,List.nil_append] at i1 i2
    rw [i1,i2,mgE_more M' (M'+1) A B (by omega) (by omega)]
    simp
  | cons nm v m k r=>cases g with
   | nil=>
    obtain ⟨q1,q2,q3,q4⟩:=hf
    simp only [F.size] at h hM
    obtain ⟨M',rfl⟩:∃ M',M=M'+1:=⟨M-1,by omega⟩
    rw [wk,df_left q1]
    show mgE (M'+1) (⟨L++[tl nm],v⟩::((flatF (L++[tl nm]) k++flatF L r)++A)) B=_
    rw [mg_left (fun e he=>after_lt hB (tl nm) he),List.append_assoc]
    have i1:=ih k .nil (L++[tl nm]) (flatF L r++A) B M' (by simp [F.size];omega) q2 trivial (hA.flat q4) (hB.down _) (by simp [F.size,flat_len];omega)
    have i2:=ih r .nil L A B M' (by simp [F.size];omega) q3 trivial hA hB (by simp [F.size];omega)
    simp only [flatF,List.nil_append] at i1 i2
    rw [i1,i2,mgE_more M' (M'+1) A B (by omega) (by omega)]
    simp
   | cons nm2 v2 m2 k2 r2=>
    have hf0:=hf
    have hg0:=hg
    obtain ⟨q1,q2,q3,q4⟩:=hf
    obtain ⟨p1,p2,p3,p4⟩:=hg
    simp only [F.size] at h hM
    obtain ⟨M',rfl⟩:∃ M',M=M'+1:=⟨M-1,by omega⟩
    rw [wk]
    by_cases hlt:belowL (tl nm) (tl nm2)=true
    ·rw [if_pos hlt,df_left q1]
     show mgE (M'+1) (⟨L++[tl nm],v⟩::((flatF (L++[tl nm]) k++flatF L r)++A)) (flatF L (.cons nm2 v2 m2 k2 r2)++B)=_
     have hn:∀ x∈nms (.cons nm2 v2 m2 k2 r2),belowL (tl nm) x=true:=fun x hx=>by
      rcases List.mem_cons.1 hx with rfl | hx
      ·exact hlt
      ·exact below_trans hlt (p4 x hx)
     rw [mg_left (fun e he=>by
      have:=hB.flat hn e he
      rcases List.mem_append.1 he with he | he
      ·obtain ⟨z,hz,q',e1⟩:=flat_in _ L e he
       rw [e1];exact cmpP_lt (hn z hz) [] _
      ·exact after_lt hB _ he),List.append_assoc]
     have i1:=ih k .nil (L++[tl nm]) (flatF L r++A) (flatF L (.cons nm2 v2 m2 k2 r2)++B) M' (by simp [F.size];omega) q2 trivial (hA.flat q4) (hB.flat hn) (by simp [F.size,flat_len];omega)
     have i2:=ih r (.cons nm2 v2 m2 k2 r2) L A B M' (by simp [F.size];omega) q3 hg0 hA hB (by simp [F.size];omega)
     rw [flatF,List.nil_append] at i1
     rw [i1,i2,mgE_more M' (M'+1) A B (by omega) (by omega)]
     simp
    ·rw [if_neg hlt]
     by_cases hgt:belowL (tl nm2) (tl nm)=true
     ·rw [if_pos hgt,df_right p1]
      show mgE (M'+1) (flatF L (.cons nm v m k r)++A) (⟨L++[tl nm2],v2⟩::((flatF (L++[tl nm2]) k2++flatF L r2)++B))=_
      have hn:∀ x∈nms (.cons nm v m k r),belowL (tl nm2) x=true:=fun x hx=>by
       rcases List.mem_cons.1 hx with rfl | hx
       ·exact hgt
       ·exact below_trans hgt (q4 x hx)
      rw [mg_right (fun e he=>by
       rcases List.mem_append.1 he with he | he
       ·obtain ⟨z,hz,q',e1⟩:=flat_in _ L e he
        rw [e1];exact cmpP_lt (hn z hz) [] _
       ·exact after_lt hA _ he),List.append_assoc]
      have i1:=ih .nil k2 (L++[tl nm2]) (flatF L (.cons nm v m k r)++A) (flatF L r2++B) M' (by simp [F.size];omega) trivial p2 (hA.flat hn) (hB.flat p4) (by simp [F.size,flat_len];omega)
      have i2:=ih (.cons nm v m k r) r2 L A B M' (by simp [F.size];omega) hf0 p3 hA hB (by simp [F.size];omega)
      rw [flatF,List.nil_append] at i1
      rw [i1,i2,mgE_more M' (M'+1) A B (by omega) (by omega)]
      simp
     ·rw [if_neg hgt]
      have e:=belowL_eq _ _ (by simpa using hlt) (by simpa using hgt)
      show mgE (M'+1) (⟨L++[tl nm],v⟩::((flatF (L++[tl nm]) k++flatF L r)++A)) (⟨L++[tl nm2],v2⟩::((flatF (L++[tl nm2]) k2++flatF L r2)++B))=_
      rw [← e] at p4 ⊢
      rw [mgE,if_neg (by rw [cmpP_self];omega),if_neg (by rw [cmpP_self];omega),List.append_assoc,List.append_assoc]
      have i1:=ih k k2 (L++[tl nm]) (flatF L r++A) (flatF L r2++B) M' (by omega) q2 p2 (hA.flat q4) (hB.flat p4) (by simp [flat_len];omega)
      have i2:=ih r r2 L A B M' (by omega) q3 p3 hA hB (by omega)
      rw [i1,i2,mgE_more M' (M'+1) A B (by omega) (by omega)]
      simp [df]
def flatN (v:Vd) (k:F):List Ent:=⟨[],v⟩::flatF [] k
def wkN (N:Nat) (v v2:Vd) (k k2:F):List Dif:=df [] v v2++wk N [] k k2
theorem mg_root {v v2:Vd} {k k2:F} (hk:Rise k) (hk2:Rise k2) (M:Nat) (hM:k.size+k2.size+2≤M):mgE M (flatN v k) (flatN v2 k2)=wkN (k.size+k2.size+1) v v2 k k2:=by
 obtain ⟨M',rfl⟩:∃ M',M=M'+1:=⟨M-1,by omega⟩
 have h:=mg_wk (k.size+k2.size) k k2 [] [] [] M' (Nat.le_refl _) hk hk2 (fun e he=>by cases he) (fun e he=>by cases he) (by simp;omega)
 simp only [List.append_nil] at h
 have e0:mgE M' [] []=[]:=by cases M'<;>rfl
 rw [e0,List.append_nil] at h
 unfold flatN wkN
 rw [mgE,if_neg (by simp [cmpP]),if_neg (by simp [cmpP]),h]
 rfl
end Go.Proofs.YthfcanpkhjgomaaGreat.DO
namespace Go.Proofs.YthfcanpkhjgomaaGreat
open Go.RowKit
open DO (vz)
structure Cn where
 L:List ByteArray
 o:Vd
 n:Vd
def wayN (t:T3) (L:List ByteArray):Int:=if L=[] then 0 else match dn t L.dropLast with
 | none=>44
 | some x=>if x.1.kind=1 then 0 else 44
theorem wayN_to {t:T3} {L:List ByteArray} (h:wayN t L=0):wayTo t L:=by
 unfold wayN at h
 by_cases hL:L=[]
 ·subst hL;trivial
 ·rw [if_neg hL] at h
  cases e:dn t L.dropLast with
  | none=>rw [e] at h;cases h
  | some x=>exact wayTo_of e
def stepC (c:Cn) (t:T3):Option T3:=
 if c.n≠vz then some t else if (match dn t c.L with | none=>0 | some x=>x.2.2.depth)≠0 then none
 else if wayN t c.L≠0 then none else if c.L=[] then none else if dn t c.L=none then none else some (dropT t c.L)
def clrR:List Cn→T3→Option T3
 | [],t=>some t
 | c::l,t=>(clrR l t).bind (stepC c)
def stepL (c:Cn) (t:T3):Option T3:=
 if c.n=vz then some t else if c.o≠vz then
  if wayN t c.L≠0 then none else match dn t c.L with
   | none=>none
   | some x=>if ownE c.n Md.zero (decide (0<x.2.2.len))≠0 then none else some (putT t c.L (c.n,Md.zero,x.2.2))
 else if checkE c.n Md.zero .nil≠0 then none else if wayN t c.L≠0 then none else some (putT t c.L (c.n,Md.zero,.nil))
def layL:List Cn→T3→Option T3
 | [],t=>some t
 | c::l,t=>(stepL c t).bind (layL l)
def Po (l:List Cn):Prop:=l.Pairwise fun c d=>¬ d.L <+: c.L
theorem Po.ne {c d:Cn} {l:List Cn} (h:Po (c::l)) (hd:d∈l):d.L≠c.L:=fun e=>(List.pairwise_cons.1 h).1 d hd (by rw [e];exact List.prefix_refl _)
theorem Po.no {c d:Cn} {l:List Cn} (h:Po (c::l)) (hd:d∈l):¬ d.L <+: c.L:=(List.pairwise_cons.1 h).1 d hd
theorem Po.tail {c:Cn} {l:List Cn} (h:Po (c::l)):Po l:=(List.pairwise_cons.1 h).2
def Par (t:T3):Prop:=∀ L n,val t (L++[n])≠none→∃ v m,val t L=some (v,m)∧v.kind=1
def Go_ (l:List Cn) (M:List ByteArray):Prop:=∃ c∈l,c.n=vz∧c.L=M
theorem get_of_len:∀ {f:F},f≠.nil→∃ n s,f.get n=some s
 | .nil,h=>absurd rfl h
 | .cons n v m k _,_=>⟨n,(v,m,k),F.get_cons_eq⟩
theorem val_kid {t x:T3} {L:List ByteArray} (h:dn t L=some x) (n:ByteArray):val t (L++[n])=(x.2.2.get n).map fun s=>(s.1,s.2.1):=by
 rw [val_app,h,Option.bind_some,jY]
 cases x.2.2.get n<;>rfl
theorem stepC_val {c:Cn} {t t1:T3} (ht:t.2.2.rises) (h:stepC c t=some t1):t1.2.2.rises∧(c.n=vz→val t1 c.L=none)∧∀ M,(c.n=vz→c.L≠M)→val t1 M=val t M:=by
 unfold stepC at h
 by_cases hn:c.n=vz
 ·rw [if_neg (by simpa using hn)] at h
  by_cases h0:(match dn t c.L with | none=>0 | some x=>x.2.2.depth)≠0
  ·rw [if_pos h0] at h;cases h
  rw [if_neg h0] at h
  by_cases h1:wayN t c.L≠0
  ·rw [if_pos h1] at h;cases h
  rw [if_neg h1] at h
  by_cases h2:c.L=[]
  ·rw [if_pos h2] at h;cases h
  rw [if_neg h2] at h
  cases e:dn t c.L with
  | none=>rw [if_pos e] at h;cases h
  | some x=>
   rw [if_neg (by rw [e];simp)] at h
   cases h
   have hk:x.2.2=.nil:=F.nil_of_depth (by rw [e] at h0;simpa using h0)
   have hv:=val_dropT h2 ht e hk
   exact ⟨dropT_rises ht,fun _=>by rw [hv,if_pos rfl],fun M hM=>by rw [hv,if_neg fun q=>hM hn q.symm]⟩
 ·rw [if_pos hn] at h
  cases h
  exact ⟨ht,fun q=>absurd q hn,fun _ _=>rfl⟩
theorem clr_val:∀ {l:List Cn} {t t1:T3},t.2.2.rises→clrR l t=some t1→t1.2.2.rises∧(∀ M,Go_ l M→val t1 M=none)∧∀ M,¬ Go_ l M→val t1 M=val t M
 | [],t,t1,ht,h=>by
  cases h
  exact ⟨ht,fun M ⟨_,h,_⟩=>(List.not_mem_nil h).elim,fun _ _=>rfl⟩
 | c::l,t,t2,ht,h=>by
  rw [clrR] at h
  cases e:clrR l t with
  | none=>rw [e] at h;cases h
  | some t1=>
   rw [e,Option.bind_some] at h
   obtain ⟨h1,h2,h3⟩:=clr_val ht e
   obtain ⟨k1,k2,k3⟩:=stepC_val h1 h
   refine ⟨k1,fun M hM=>?_,fun M hM=>?_⟩
   ·by_cases q:c.n=vz∧c.L=M
    ·rw [← q.2];exact k2 q.1
    ·rw [k3 M (fun a b=>q ⟨a,b⟩)]
     obtain ⟨d,hd,d1,d2⟩:=hM
     rcases List.mem_cons.1 hd with rfl | hd
     ·exact absurd ⟨d1,d2⟩ q
     ·exact h2 M ⟨d,hd,d1,d2⟩
   ·rw [k3 M (fun a b=>hM ⟨c,by simp,a,b⟩)]
    exact h3 M fun ⟨d,hd,q⟩=>hM ⟨d,List.mem_cons_of_mem _ hd,q⟩
theorem clr_ok:∀ {l:List Cn} {t:T3},t.2.2.rises→Par t→Po l→(∀ c∈l,c.n=vz→c.L≠[]∧val t c.L≠none∧∀ n,val t (c.L++[n])≠none→Go_ l (c.L++[n]))→∃ t1,clrR l t=some t1
 | [],t,_,_,_,_=>⟨t,rfl⟩
 | c::l,t,ht,hp,ho,h=>by
  obtain ⟨t1,e⟩:=clr_ok (l:=l) ht hp ho.tail fun d hd hn=>by
   obtain ⟨a,b,k⟩:=h d (List.mem_cons_of_mem _ hd) hn
   refine ⟨a,b,fun n q=>?_⟩
   obtain ⟨x,hx,x1,x2⟩:=k n q
   rcases List.mem_cons.1 hx with rfl | hx
   ·exact absurd (by rw [x2];exact List.prefix_append ..) (ho.no hd)
   ·exact ⟨x,hx,x1,x2⟩
  obtain ⟨r1,v1,v2⟩:=clr_val ht e
  rw [clrR,e,Option.bind_some]
  unfold stepC
  by_cases hn:c.n=vz
  ·rw [if_neg (by simpa using hn)]
   obtain ⟨a,b,k⟩:=h c (by simp) hn
   have hc:¬ Go_ l c.L:=fun ⟨d,hd,_,q⟩=>ho.ne hd q
   have hv:=v2 _ hc
   obtain ⟨x,hx⟩:∃ x,dn t1 c.L=some x:=by
    cases q:dn t1 c.L with
    | some x=>exact ⟨x,rfl⟩
    | none=>exact absurd (hv.symm.trans (val_none.2 q)) b
   have hk:x.2.2=.nil:=by
    by_cases q:x.2.2=.nil
    ·exact q
    ·obtain ⟨n,s,q⟩:=get_of_len q
     have h1:=val_kid hx n
     rw [q] at h1
     have h2:val t (c.L++[n])≠none:=by
      intro h2
      by_cases g:Go_ l (c.L++[n])
      ·rw [v1 _ g] at h1;cases h1
      ·rw [v2 _ g,h2] at h1;cases h1
     obtain ⟨d,hd,d1,d2⟩:=k n h2
     rcases List.mem_cons.1 hd with rfl | hd
     ·exact absurd (congrArg List.length d2) (by simp)
     ·rw [v1 _ ⟨d,hd,d1,d2⟩] at h1;cases h1
   rw [hx]
   simp only [hk,F.depth,ne_eq,not_true_eq_false,if_false,a,reduceCtorEq]
   have hw:wayN t1 c.L=0:=by
    unfold wayN
    rw [if_neg a]
    have hl:c.L.dropLast++[c.L.getLast a]=c.L:=List.dropLast_concat_getLast a
    obtain ⟨v,m,q1,q2⟩:=hp c.L.dropLast (c.L.getLast a) (by rw [hl];exact b)
    obtain ⟨y,hy⟩:∃ y,dn t1 c.L.dropLast=some y:=by
     have:=hx
     rw [← hl,dn_app] at this
     cases q:dn t1 c.L.dropLast with
     | some y=>exact ⟨y,rfl⟩
     | none=>rw [q] at this;cases this
    have hg:¬ Go_ l c.L.dropLast:=fun g=>by
     have:=v1 _ g
     rw [val_none.1 this] at hy;cases hy
    have:=v2 _ hg
    rw [q1,val_some hy] at this
    injection this with this
    injection this with e1 _
    rw [hy]
    simp only [e1,q2,if_true]
   rw [if_neg (by simp [hw])]
   exact ⟨_,rfl⟩
  ·rw [if_pos hn];exact ⟨_,rfl⟩
theorem stepL_val {c:Cn} {t t1:T3} (ht:t.2.2.rises) (hz:c.n≠vz→c.o=vz→val t c.L=none) (h:stepL c t=some t1):t1.2.2.rises∧(c.n≠vz→val t1 c.L=some (c.n,Md.zero))∧∀ M,(c.n≠vz→c.L≠M)→val t1 M=val t M:=by
 unfold stepL at h
 by_cases hn:c.n=vz
 ·rw [if_pos hn] at h
  cases h
  exact ⟨ht,fun q=>absurd hn q,fun _ _=>rfl⟩
 rw [if_neg hn] at h
 have fin:∀ s:T3,s.1=c.n→s.2.1=Md.zero→s.2.2.rises→wayTo t c.L→(∀ n N,val s (n::N)=val t (c.L++n::N))→t1=putT t c.L s→t1.2.2.rises∧(c.n≠vz→val t1 c.L=some (c.n,Md.zero))∧∀ M,(c.n≠vz→c.L≠M)→val t1 M=val t M:=by
  rintro s q1 q2 hs hw hk rfl
  have hv:=val_putT ht hs hw hk
  exact ⟨putT_rises ht hs,fun _=>by rw [hv,if_pos rfl,q1,q2],fun M hM=>by rw [hv,if_neg fun q=>hM hn q.symm]⟩
 by_cases ho:c.o=vz
 ·rw [if_neg (by simpa using ho)] at h
  by_cases h1:checkE c.n Md.zero .nil≠0
  ·rw [if_pos h1] at h;cases h
  rw [if_neg h1] at h
  by_cases h2:wayN t c.L≠0
  ·rw [if_pos h2] at h;cases h
  rw [if_neg h2] at h
  cases h
  refine fin (c.n,Md.zero,.nil) rfl rfl trivial (wayN_to (by simpa using h2)) (fun n N=>?_) rfl
  rw [val_app,val_none.1 (hz hn ho),jY,F.get]
  rfl
 ·rw [if_pos ho] at h
  by_cases h2:wayN t c.L≠0
  ·rw [if_pos h2] at h;cases h
  rw [if_neg h2] at h
  cases e:dn t c.L with
  | none=>rw [e] at h;cases h
  | some x=>
   rw [e] at h
   simp only [] at h
   by_cases h3:ownE c.n Md.zero (decide (0<x.2.2.len))≠0
   ·rw [if_pos h3] at h;cases h
   rw [if_neg h3] at h
   cases h
   refine fin (c.n,Md.zero,x.2.2) rfl rfl (dn_rises ht e).1 (wayN_to (by simpa using h2)) (fun n N=>?_) rfl
   rw [val_app,e,Option.bind_some,jY,jY]
theorem lay_val:∀ {l:List Cn} {t t2:T3},t.2.2.rises→Po l→(∀ c∈l,c.n≠vz→c.o=vz→val t c.L=none)→layL l t=some t2→
  t2.2.2.rises∧(∀ c∈l,c.n≠vz→val t2 c.L=some (c.n,Md.zero))∧∀ M,(∀ c∈l,c.n≠vz→c.L≠M)→val t2 M=val t M
 | [],t,t2,ht,_,_,h=>by
  cases h
  exact ⟨ht,fun c h=>(List.not_mem_nil h).elim,fun _ _=>rfl⟩
 | c::l,t,t2,ht,ho,hz,h=>by
  rw [layL] at h
  cases e:stepL c t with
  | none=>rw [e] at h;cases h
  | some t1=>
   rw [e,Option.bind_some] at h
   obtain ⟨k1,k2,k3⟩:=stepL_val ht (hz c (by simp)) e
   obtain ⟨h1,h2,h3⟩:=lay_val k1 ho.tail (fun d hd a b=>by rw [k3 _ fun _=>(ho.ne hd).symm];exact hz d (List.mem_cons_of_mem _ hd) a b) h
   refine ⟨h1,fun d hd hn=>?_,fun M hM=>?_⟩
   ·rcases List.mem_cons.1 hd with rfl | hd
    ·rw [h3 _ fun x hx _=>ho.ne hx];exact k2 hn
    ·exact h2 d hd hn
   ·rw [h3 M fun x hx=>hM x (List.mem_cons_of_mem _ hx)]
    exact k3 M fun q=>hM c (by simp) q
theorem own_kids {v:Vd} {m:Md} {b:Bool} (h:ownE v m false=0) (hb:b=true→v.kind=1):ownE v m b=0:=by
 cases b with
 | false=>exact h
 | true=>
  have hk:=hb rfl
  clear hb
  unfold ownE at h ⊢
  simp only [hk] at h ⊢
  simpa using h
theorem check_own {v:Vd}:checkE v Md.zero .nil=0↔ownE v Md.zero false=0:=by
 unfold checkE faultN
 simp only [F.len,Nat.lt_irrefl,decide_false]
 by_cases h:ownE v Md.zero false=0
 ·rw [if_neg (by simpa using h)];simp [faultF,errOf,h]
 ·rw [if_pos h];simp [errOf]
theorem lay_ok:∀ {l:List Cn} {t:T3},t.2.2.rises→Po l→(∀ c∈l,c.n≠vz→(c.o=vz→val t c.L=none)∧(c.o≠vz→val t c.L≠none))→(∀ c∈l,c.n≠vz→checkE c.n Md.zero .nil=0)→
  (∀ c∈l,c.n≠vz→c.L=[]∨(∃ v m,val t c.L.dropLast=some (v,m)∧v.kind=1∧∀ d∈l,d.n≠vz→d.L≠c.L.dropLast)∨∃ d∈l,d.n≠vz∧d.L=c.L.dropLast∧d.n.kind=1)→
  (∀ c∈l,c.n≠vz→c.n.kind≠1→∀ n,val t (c.L++[n])=none)→∃ t2,layL l t=some t2
 | [],t,_,_,_,_,_,_=>⟨t,rfl⟩
 | c::l,t,ht,ho,ha,hb,hc,hd=>by
  obtain ⟨t1,e⟩:∃ t1,stepL c t=some t1:=by
   unfold stepL
   by_cases hn:c.n=vz
   ·rw [if_pos hn];exact ⟨_,rfl⟩
   rw [if_neg hn]
   have hw:wayN t c.L=0:=by
    unfold wayN
    rcases hc c (by simp) hn with h | ⟨v,m,q1,q2,_⟩ | ⟨d,hd',d1,d2,_⟩
    ·rw [if_pos h]
    ·by_cases h:c.L=[]
     ·rw [if_pos h]
     ·rw [if_neg h]
      obtain ⟨s,hs,e⟩:=dn_some q1
      injection e with e1 _
      rw [hs]
      simp only [← e1,q2,if_true]
    ·by_cases h:c.L=[]
     ·rw [if_pos h]
     ·exfalso
      rcases List.mem_cons.1 hd' with rfl | hd'
      ·have:=congrArg List.length d2
       rw [List.length_dropLast] at this
       have:0<d.L.length:=List.length_pos_iff.2 h
       omega
      ·exact ho.no hd' (by rw [d2];exact List.dropLast_prefix _)
   have hv:=hb c (by simp) hn
   by_cases hz:c.o=vz
   ·rw [if_neg (by simpa using hz),if_neg (by simp [hv]),if_neg (by simp [hw])]
    exact ⟨_,rfl⟩
   ·rw [if_pos hz,if_neg (by simp [hw])]
    cases q:dn t c.L with
    | none=>exact absurd (val_none.2 q) ((ha c (by simp) hn).2 hz)
    | some x=>
     simp only []
     have hf:ownE c.n Md.zero (decide (0<x.2.2.len))=0:=by
      refine own_kids (check_own.1 hv) fun hl=>?_
      by_cases hk:c.n.kind=1
      ·exact hk
      ·have hne:x.2.2≠.nil:=fun z=>by rw [z] at hl;simp [F.len] at hl
       obtain ⟨n,s,g⟩:=get_of_len hne
       have:=val_kid q n
       rw [hd c (by simp) hn hk n,g] at this
       cases this
     rw [if_neg fun z=>z hf]
     exact ⟨_,rfl⟩
  obtain ⟨k1,k2,k3⟩:=stepL_val ht (fun a b=>(ha c (by simp) a).1 b) e
  rw [layL,e,Option.bind_some]
  refine lay_ok k1 ho.tail (fun d hd' hn=>?_) (fun d hd'=>hb d (List.mem_cons_of_mem _ hd')) (fun d hd' hn=>?_) (fun d hd' hn hk n=>?_)
  ·rw [k3 _ fun _=>(ho.ne hd').symm]
   exact ha d (List.mem_cons_of_mem _ hd') hn
  ·rcases hc d (List.mem_cons_of_mem _ hd') hn with h | ⟨v,m,q1,q2,q3⟩ | ⟨x,hx,x1,x2,x3⟩
   ·exact .inl h
   ·exact .inr (.inl ⟨v,m,by rw [k3 _ fun z=>q3 c (by simp) z];exact q1,q2,fun y hy=>q3 y (List.mem_cons_of_mem _ hy)⟩)
   ·rcases List.mem_cons.1 hx with rfl | hx
    ·exact .inr (.inl ⟨x.n,Md.zero,by rw [← x2];exact k2 x1,x3,fun y hy _=>by rw [← x2];exact ho.ne hy⟩)
    ·exact .inr (.inr ⟨x,hx,x1,x2,x3⟩)
  ·rw [k3 _ fun _ q=>ho.no hd' (by rw [q];exact List.prefix_append ..)]
   exact hd d (List.mem_cons_of_mem _ hd') hn hk n
end Go.Proofs.YthfcanpkhjgomaaGreat
