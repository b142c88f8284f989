import Derived.Test.YthfcanpkhjgomaaGreatVn
namespace Go.Proofs.YthfcanpkhjgomaaGreat
open Go.RowKit
open DO (vz)
def bareF:F→F
 | .nil=>.nil
 | .cons n v _ k r=>.cons n v Md.zero (bareF k) (bareF r)
def bareT (t:T3):T3:=(t.1,Md.zero,bareF t.2.2)
theorem sameF_bare:∀ {f g:F},sameF false f g=true↔bareF f=bareF g
 | .nil,.nil=>by simp [sameF,bareF]
 | .nil,.cons ..=>by simp [sameF,bareF]
 | .cons ..,.nil=>by simp [sameF,bareF]
 | .cons n v m k r,.cons n' v' m' k' r'=>by
  rw [sameF,bareF,bareF,F.cons.injEq]
  simp only [Bool.and_eq_true,decide_eq_true_eq,sameF_bare (f:=k),sameF_bare (f:=r)]
  unfold sameV
  simp
theorem sameT_bare {t u:T3}:sameT false t u=true↔bareT t=bareT u:=by
 unfold sameT bareT
 rw [Bool.and_eq_true,sameF_bare]
 unfold sameV
 simp [Prod.ext_iff]
theorem bare_above {n:ByteArray}:∀ {f:F},f.above n→(bareF f).above n
 | .nil,h=>h
 | .cons _ _ _ _ _,⟨h1,h2⟩=>⟨h1,bare_above h2⟩
theorem bare_rises:∀ {f:F},f.rises→(bareF f).rises
 | .nil,h=>h
 | .cons _ _ _ _ _,⟨h1,h2,h3⟩=>⟨bare_above h1,bare_rises h2,bare_rises h3⟩
theorem bare_get {n:ByteArray}:∀ {f:F},(bareF f).get n=(f.get n).map bareT
 | .nil=>rfl
 | .cons nm v m k r=>by
  rw [bareF,F.get,F.get]
  by_cases e:n=nm
  ·rw [if_pos e,if_pos e];rfl
  ·rw [if_neg e,if_neg e];exact bare_get
theorem bare_val:∀ {M:List ByteArray} {t:T3},val (bareT t) M=(val t M).map fun x=>(x.1,Md.zero)
 | [],_=>rfl
 | n::N,t=>by
  rw [jY,jY]
  show ((bareF t.2.2).get n).bind _=_
  rw [bare_get]
  cases t.2.2.get n with
  | none=>rfl
  | some s=>exact bare_val
def Nz (t:T3):Prop:=∀ M x,val t M=some x→x.1≠vz
theorem Good.nz' {t:T3} (h:Good t):Nz t:=fun _ _ e=>h.nz e
theorem same_vals {t u:T3} (ht:t.2.2.rises) (hu:u.2.2.rises) (n1:Nz t) (n2:Nz u):sameT false t u=true↔∀ M,vl t M=vl u M:=by
 rw [sameT_bare]
 constructor
 ·intro e M
  have h1:=bare_val (M:=M) (t:=t)
  rw [e,bare_val] at h1
  unfold vl
  cases a:val t M<;>cases b:val u M<;>rw [a,b] at h1<;>simp_all
 ·intro h
  refine T3.ext_val (bare_rises ht) (bare_rises hu) fun M=>?_
  rw [bare_val,bare_val]
  have h1:=h M
  unfold vl at h1
  cases a:val t M with
  | none=>
   cases b:val u M with
   | none=>rfl
   | some y=>rw [a,b] at h1;exact absurd h1.symm (n2 M y b)
  | some x=>
   cases b:val u M with
   | none=>rw [a,b] at h1;exact absurd h1 (n1 M x a)
   | some y=>
    rw [a,b] at h1
    have h2:x.1=y.1:=h1
    simp [h2]
theorem Dd.nil {t u:T3} {D:List DO.Dif} (ht:Good t) (hu:Good u) (h:Dd t u D):D=[]↔sameT false t u=true:=by
 rw [same_vals ht.rises hu.rises ht.nz' hu.nz']
 constructor
 ·rintro rfl M
  refine Classical.byContradiction fun q=>?_
  obtain ⟨d,hd,_⟩:=h.all M q
  exact (List.not_mem_nil hd).elim
 ·intro e
  cases D with
  | nil=>rfl
  | cons d D=>
   obtain ⟨M,_,_,_,h1,h2,h3⟩:=h.each d List.mem_cons_self
   exact absurd (h1.trans ((e M).trans h2.symm)) h3
def swapD (d:DO.Dif):DO.Dif:=⟨d.p,d.n,d.o⟩
theorem Dd.turn {t u:T3} {D:List DO.Dif} (h:Dd t u D):Dd u t (D.map swapD) where
 srt:=List.pairwise_map.2 (h.srt.imp fun q=>q)
 each:=fun d hd=>by
  obtain ⟨e,he,rfl⟩:=List.mem_map.1 hd
  obtain ⟨M,h1,h2,h3,h4,h5,h6⟩:=h.each e he
  exact ⟨M,h1,h2,h3,h5,h4,fun q=>h6 q.symm⟩
 all:=fun M hM=>by
  obtain ⟨d,hd,e⟩:=h.all M fun q=>hM q.symm
  exact ⟨swapD d,List.mem_map_of_mem hd,e⟩
theorem srt_uniq {D E:List DO.Dif} (h1:DO.SrtD D) (h2:DO.SrtD E) (h:∀ d,d∈D↔d∈E):D=E:=by
 have nd:∀ {L:List DO.Dif},DO.SrtD L→L.Nodup:=fun hL=>List.Pairwise.imp (fun {a b} q e=>by rw [e,DO.cmpP_self] at q;cases q) hL
 have hp:D.Perm E:=(List.perm_ext_iff_of_nodup (nd h1) (nd h2)).2 h
 refine List.Perm.eq_of_pairwise (le:=fun (a b:DO.Dif)=>cmpP a.p b.p=-1) (fun a b _ _ q1 q2=>?_) h1 h2 hp
 have:=DO.cmpP_neg a.p b.p
 omega
theorem Dd.sub {t u:T3} {D E:List DO.Dif} (h:Dd t u D) (k:Dd t u E):∀ d∈D,d∈E:=fun d hd=>by
 obtain ⟨M,a1,_,_,a2,a3,a4⟩:=h.each d hd
 obtain ⟨e,he,b1⟩:=k.all M (by rw [← a2,← a3];exact a4)
 obtain ⟨N,c1,_,_,c2,c3,_⟩:=k.each e he
 obtain rfl:N=M:=map_tl_inj (c1.symm.trans b1)
 have:d=e:=by
  obtain ⟨dp,d_o,dn⟩:=d
  obtain ⟨ep,eo,en⟩:=e
  simp only at a1 a2 a3 b1 c2 c3
  rw [a1,a2,a3,b1,c2,c3]
 rw [this];exact he
theorem Dd.uniq {t u:T3} {D E:List DO.Dif} (h:Dd t u D) (k:Dd t u E):D=E:=srt_uniq h.srt k.srt fun d=>⟨h.sub k d,k.sub h d⟩
end Go.Proofs.YthfcanpkhjgomaaGreat
namespace Go.Proofs.YthfcanpkhjgomaaGreat
open Go.RowKit
open DO (vz)
theorem leP_of {nm p:ByteArray} (h:lt p nm):leP nm (some p)=false:=by
 show leB nm p=false
 unfold leB
 rw [Bool.or_eq_false_iff,beq_eq_false_iff_ne]
 refine ⟨?_,fun e=>(lt_no h).2 (toList_inj e).symm⟩
 have:=(lt_no h).1
 unfold lt at this
 simpa using this
def OkAt (t:T3) (P:Nat):Prop:=∀ M x,val t M=some x→(∀ y∈M,nameB (tl y)=true)∧P+M.length≤64∧ownE x.1 x.2 false=0
theorem Par.kid {t s:T3} {n:ByteArray} (h:Par t) (e:t.2.2.get n=some s):Par s:=fun L k hk=>by
 have h1:=h (n::L) k (by rw [List.cons_append,jY,e];exact hk)
 rw [jY,e] at h1
 exact h1
theorem OkAt.kid {t s:T3} {n:ByteArray} {P:Nat} (h:OkAt t P) (e:t.2.2.get n=some s):OkAt s (P+1):=fun M x hx=>by
 obtain ⟨h1,h2,h3⟩:=h (n::M) x (by rw [jY,e];exact hx)
 exact ⟨fun y hy=>h1 y (List.mem_cons_of_mem _ hy),by rw [List.length_cons] at h2;omega,h3⟩
theorem Par.own {t:T3} (h:Par t) (o:ownE t.1 t.2.1 false=0):ownE t.1 t.2.1 (decide (0<t.2.2.len))=0:=own_kids o fun hb=>by
 have hl:t.2.2≠.nil:=fun e=>by rw [e] at hb;simp [F.len] at hb
 obtain ⟨n,s,e⟩:=get_of_len hl
 obtain ⟨v,m,e1,e2⟩:=h [] n (by rw [List.nil_append,jY,e];exact nofun)
 rw [qO] at e1
 cases e1
 exact e2
theorem fault_none_of:∀ {f:F} {prev:Option ByteArray} {P:List ByteArray},f.rises→(∀ p,prev=some p→f.above p)→(∀ n s,f.get n=some s→nameB (tl n)=true∧OkAt s (P.length+1)∧Par s)→faultF f prev P=none
 | .nil,_,_,_,_,_=>rfl
 | .cons nm v m k r,prev,P,⟨h1,h2,h3⟩,ha,hg=>by
  obtain ⟨g1,g2,g3⟩:=hg nm (v,m,k) F.get_cons_eq
  have g0:=g2 [] _ (qO _)
  have hp:placeE prev nm (P.length+1)=0:=by
   unfold placeE
   rw [if_neg (by have:=g0.2.1;simp only [List.length_nil] at this;omega),if_neg (by rw [g1];simp),if_neg]
   cases prev with
   | none=>exact nofun
   | some p=>rw [leP_of (ha p rfl).1];simp
  have hk:faultF k none (P++[nm])=none:=fault_none_of h2 (fun _ q=>by cases q) fun n s e=>by
   have q1:=g2 [n] (s.1,s.2.1) (by rw [jY];show (k.get n).bind _=_;rw [e];rfl)
   refine ⟨q1.1 n (by simp),?_,g3.kid e⟩
   rw [List.length_append]
   exact g2.kid e
  have hr:faultF r (some nm) P=none:=fault_none_of h3 (fun p q=>by cases q;exact h1) fun n s e=>hg n s (by
   rw [F.get,if_neg fun q=>(lt_no (F.get_above2 h1 (by rw [e];rfl))).2 q.symm]
   exact e)
  rw [faultF,if_neg (by simpa using hp),if_neg (by simpa using g3.own g0.2.2),hk]
  exact hr
theorem good_of {t:T3} (hr:t.2.2.rises) (ho:OkAt t 0) (hp:Par t):Good t:=⟨by
 have h0:=hp.own (ho [] _ (qO _)).2.2
 have h1:faultF t.2.2 none []=none:=fault_none_of hr (fun _ q=>by cases q) fun n s e=>by
  have q1:=ho [n] (s.1,s.2.1) (by rw [jY,e];rfl)
  exact ⟨q1.1 n (by simp),by simpa using ho.kid e,hp.kid e⟩
 unfold checkE faultN
 rw [if_neg (by simpa using h0),h1]
 rfl⟩
theorem own_false {v:Vd} {m:Md} {b:Bool} (h:ownE v m b=0):ownE v m false=0:=by
 unfold ownE at h ⊢
 split at h
 ·cases h
 rename_i h1
 rw [if_neg h1,if_neg (by simp)]
 split at h
 ·cases h
 exact h
theorem Good.okAt {t:T3} (h:Good t):OkAt t 0:=fun M x e=>by
 obtain ⟨s,hs,rfl⟩:=dn_some e
 obtain ⟨a,b,c⟩:=h.names hs
 exact ⟨a,by omega,own_false c⟩
theorem stepC_good {c:Cn} {t t1:T3} (h:Good t) (e:stepC c t=some t1):Good t1:=by
 obtain ⟨r1,z1,z2⟩:=stepC_val h.rises e
 have hsub:∀ M x,val t1 M=some x→val t M=some x:=fun M x q=>by
  by_cases hM:c.n=vz→c.L≠M
  ·rw [← z2 M hM];exact q
  ·have:c.n=vz∧c.L=M:=by
    by_cases a:c.n=vz
    ·exact ⟨a,Classical.byContradiction fun b=>hM fun _=>b⟩
    ·exact absurd (fun q=>absurd q a) hM
   rw [← this.2,z1 this.1] at q
   cases q
 refine good_of r1 (fun M x q=>h.okAt M x (hsub M x q)) fun L n hn=>?_
 obtain ⟨y,hy⟩:=Option.ne_none_iff_exists'.1 hn
 have ht:=hsub _ _ hy
 obtain ⟨v,m,e1,e2⟩:=h.par L n (by rw [ht];exact nofun)
 refine ⟨v,m,?_,e2⟩
 rw [z2 L]
 ·exact e1
 ·rintro hz rfl
  unfold stepC at e
  rw [if_neg (by simpa using hz)] at e
  obtain ⟨s,hs,_⟩:=dn_some e1
  rw [hs] at e
  by_cases h0:s.2.2.depth≠0
  ·rw [if_pos h0] at e;cases e
  ·have hk:s.2.2=.nil:=F.nil_of_depth (by simpa using h0)
   rw [val_kid hs,hk] at ht
   cases ht
theorem clrR_good:∀ {l:List Cn} {t t1:T3},Good t→clrR l t=some t1→Good t1
 | [],_,_,h,e=>by cases e;exact h
 | c::l,t,t1,h,e=>by
  rw [clrR] at e
  cases e1:clrR l t with
  | none=>rw [e1] at e;cases e
  | some t2=>rw [e1,Option.bind_some] at e;exact stepC_good (clrR_good h e1) e
theorem stepL_good {c:Cn} {t t1:T3} (h:Good t) (hn:∀ x∈c.L,nameB (tl x)=true) (hl:c.L.length≤64) (hz:c.n≠vz→c.o=vz→val t c.L=none) (e:stepL c t=some t1):Good t1:=by
 obtain ⟨r1,z1,z2⟩:=stepL_val h.rises hz e
 by_cases hv:c.n=vz
 ·unfold stepL at e
  rw [if_pos hv] at e
  cases e
  exact h
 have key:ownE c.n Md.zero false=0∧wayN t c.L=0∧∀ n,val t (c.L++[n])≠none→c.n.kind=1:=by
  unfold stepL at e
  rw [if_neg hv] at e
  by_cases ho:c.o=vz
  ·rw [if_neg (by simpa using ho)] at e
   by_cases h1:checkE c.n Md.zero .nil≠0
   ·rw [if_pos h1] at e;cases e
   rw [if_neg h1] at e
   by_cases h2:wayN t c.L≠0
   ·rw [if_pos h2] at e;cases e
   refine ⟨check_own.1 (by simpa using h1),by simpa using h2,fun n q=>?_⟩
   rw [val_app,val_none.1 (hz hv ho)] at q
   exact absurd rfl q
  ·rw [if_pos ho] at e
   by_cases h2:wayN t c.L≠0
   ·rw [if_pos h2] at e;cases e
   rw [if_neg h2] at e
   cases e4:dn t c.L with
   | none=>rw [e4] at e;cases e
   | some x=>
    rw [e4] at e
    simp only [] at e
    by_cases h3:ownE c.n Md.zero (decide (0<x.2.2.len))≠0
    ·rw [if_pos h3] at e;cases e
    have h3':ownE c.n Md.zero (decide (0<x.2.2.len))=0:=by simpa using h3
    refine ⟨own_false h3',by simpa using h2,fun n q=>?_⟩
    rw [val_kid e4] at q
    cases hg:x.2.2.get n with
    | none=>rw [hg] at q;exact absurd rfl q
    | some y=>
     rw [decide_eq_true (len_pos hg)] at h3'
     exact own_dir h3'
 obtain ⟨k1,k2,k3⟩:=key
 refine good_of r1 (fun M x q=>?_) fun L n q=>?_
 ·by_cases hM:c.L=M
  ·subst hM
   rw [z1 hv] at q
   cases q
   exact ⟨hn,by omega,k1⟩
  ·rw [z2 M fun _=>hM] at q
   exact h.okAt M x q
 ·by_cases hM:c.L=L++[n]
  ·unfold wayN at k2
   rw [if_neg (by rw [hM];simp),hM,List.dropLast_concat] at k2
   cases e4:dn t L with
   | none=>rw [e4] at k2;cases k2
   | some x=>
    rw [e4] at k2
    simp only [] at k2
    split at k2
    ·rename_i hk
     refine ⟨x.1,x.2.1,?_,hk⟩
     rw [z2 L fun _ q=>by rw [hM] at q;exact absurd (congrArg List.length q) (by simp),val_some e4]
    ·cases k2
  ·rw [z2 _ fun _=>hM] at q
   by_cases hL:c.L=L
   ·subst hL
    exact ⟨c.n,Md.zero,z1 hv,k3 n q⟩
   ·rw [z2 L fun _=>hL]
    exact h.par L n q
end Go.Proofs.YthfcanpkhjgomaaGreat
