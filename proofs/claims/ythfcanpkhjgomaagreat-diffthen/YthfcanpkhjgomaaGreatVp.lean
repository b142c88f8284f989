import Derived.Test.YthfcanpkhjgomaaGreatVj
namespace Go.Proofs.YthfcanpkhjgomaaGreat
open Go.RowKit
open Ch
theorem row_low {w:World} {lo lo' e s n:Nat} {v:Value} {xs:List Value} (h:w.ownsRow lo e s v n xs) (hb:lo'≤lo):w.ownsRow lo' e s v n xs:=by
 obtain ⟨h1,h2⟩:=h
 exact ⟨h1,h2.imp id fun ⟨g,cap,cur,e,h3,r⟩=>⟨g,cap,cur,e,by omega,r⟩⟩
def goodN:F→Prop
 | .nil=>True
 | .cons nm _ _ k r=>nameB (tl nm)=true∧goodN k∧goodN r
theorem own_kind {v:Vd} {m:Md} {b:Bool} (h:ownE v m b=0):v≠DO.vz:=by
 rintro rfl
 unfold ownE at h
 rw [if_pos (by decide)] at h
 cases h
theorem bl_below:∀ a b:By,Op.bytesLess a b=belowL a b
 | [],[]=>rfl
 | [],_::_=>rfl
 | _::_,[]=>rfl
 | x::a,y::b=>by
  have ih:=bl_below a b
  unfold Op.bytesLess belowL
  by_cases e:x=y
  ·subst e
   simp [ih]
  ·simp [e,UInt8.lt_iff_toNat_lt]
theorem fault_none:∀ (f:F) (prev:Option ByteArray) (L:List ByteArray),faultF f prev L=none→DO.Rise f∧goodN f∧∀ p,prev=some p→∀ x∈DO.nms f,belowL (tl p) x=true
 | .nil,_,_,_=>⟨trivial,trivial,fun _ _ _ h=>by cases h⟩
 | .cons nm v m k r,prev,L,h=>by
  rw [faultF] at h
  by_cases h1:placeE prev nm (L.length+1)≠0
  ·rw [if_pos h1] at h;cases h
  ·rw [if_neg h1] at h
   by_cases h2:ownE v m (decide (0<k.len))≠0
   ·rw [if_pos h2] at h;cases h
   ·rw [if_neg h2] at h
    cases hk:faultF k none (L++[nm]) with
    | some x=>rw [hk] at h;cases h
    | none=>
     rw [hk] at h
     obtain ⟨a1,a2,_⟩:=fault_none k none _ hk
     obtain ⟨b1,b2,b3⟩:=fault_none r (some nm) L h
     have h1':placeE prev nm (L.length+1)=0:=by simpa using h1
     have hv:=own_kind (by simpa using h2:ownE v m (decide (0<k.len))=0)
     unfold placeE at h1'
     split at h1'
     ·cases h1'
     ·split at h1'
      ·cases h1'
      ·rename_i hn
       split at h1'
       ·cases h1'
       ·rename_i hle
        refine ⟨⟨hv,a1,b1,b3 nm rfl⟩,⟨by simpa using hn,a2,b2⟩,fun p hp x hx=>?_⟩
        subst hp
        have hlt:belowL (tl p) (tl nm)=true:=by
         have h9:leB nm p=false:=by simpa [leP] using hle
         rw [leB_geq] at h9
         rw [← bl_below]
         simpa using h9
        rcases List.mem_cons.1 hx with rfl | hx
        ·exact hlt
        ·exact DO.below_trans hlt (b3 nm rfl x hx)
theorem fault_nz:∀ (f:F) (prev:Option ByteArray) (L P:List ByteArray) (e:Int),faultF f prev L=some (P,e)→e≠0
 | .nil,_,_,_,_,h=>by cases h
 | .cons nm v m k r,prev,L,P,e,h=>by
  rw [faultF] at h
  by_cases h1:placeE prev nm (L.length+1)≠0
  ·rw [if_pos h1] at h
   injection h with h
   injection h with _ h
   rw [← h]
   exact h1
  ·rw [if_neg h1] at h
   by_cases h2:ownE v m (decide (0<k.len))≠0
   ·rw [if_pos h2] at h
    injection h with h
    injection h with _ h
    rw [← h]
    exact h2
   ·rw [if_neg h2] at h
    cases hk:faultF k none (L++[nm]) with
    | some x=>
     rw [hk] at h
     obtain ⟨P',e'⟩:=x
     injection h with h
     injection h with _ h
     rw [← h]
     exact fault_nz k _ _ _ _ hk
    | none=>
     rw [hk] at h
     exact fault_nz r _ _ _ _ h
theorem check_rise {v:Vd} {m:Md} {ks:F} (h:checkE v m ks=0):DO.Rise ks∧goodN ks:=by
 unfold checkE at h
 have hn:faultN v m ks []=none:=by
  cases hf:faultN v m ks [] with
  | none=>rfl
  | some x=>
   obtain ⟨P,e⟩:=x
   rw [hf] at h
   exfalso
   unfold faultN at hf
   split at hf
   ·rename_i h1
    injection hf with hf
    injection hf with _ hf
    exact h1 (hf.trans h)
   ·exact fault_nz _ _ _ _ _ hf h
 unfold faultN at hn
 split at hn
 ·cases hn
 ·obtain ⟨h1,h2,_⟩:=fault_none ks none [] hn
  exact ⟨h1,h2⟩
def goodL (L:List By):Prop:=∀ x∈L,nameB x=true
theorem pieces_join {L:List By} (h:goodL L):pieces (joinL L)=L:=by
 cases L with
 | nil=>rfl
 | cons x L=>
  have hx:∀ p∈x::L,1≤p.length∧∀ y∈p,y≠47:=fun p hp=>by
   have:=h p hp
   unfold nameB at this
   simp only [decide_eq_true_eq] at this
   exact ⟨this.1,fun y hy=>(this.2.2.2.2 y hy).1⟩
  unfold pieces
  rw [if_neg ?_,cuts_join (by simp) fun p hp=>(hx p hp).2]
  intro e
  have h1:=(hx x (by simp)).1
  have:(joinL (x::L)).length=0:=by rw [e];rfl
  cases L with
  | nil=>simp only [joinL] at this;omega
  | cons y L=>simp only [joinL,List.length_append,List.length_cons] at this;omega
theorem cmpL_join {L M:List By} (h1:goodL L) (h2:goodL M):cmpL (joinL L) (joinL M)=cmpP L M:=by
 rw [← cmpP_pieces,pieces_join h1,pieces_join h2]
theorem goodL.snoc {L:List By} (h:goodL L) {x:By} (hx:nameB x=true):goodL (L++[x]):=fun y hy=>by
 rcases List.mem_append.1 hy with hy | hy
 ·exact h y hy
 ·simp at hy;rw [hy];exact hx
end Go.Proofs.YthfcanpkhjgomaaGreat
namespace Go.Proofs.YthfcanpkhjgomaaGreat
open Go.RowKit
open DO (flatF flatN Rise Srt At_ nms vz)
theorem tl_inj {a b:ByteArray} (h:tl a=tl b):a=b:=by rw [← ofB_tl a,← ofB_tl b,h]
theorem map_tl_inj:∀ {a b:List ByteArray},a.map tl=b.map tl→a=b
 | [],[],_=>rfl
 | [],_::_,h=>by simp at h
 | _::_,[],h=>by simp at h
 | x::xs,y::ys,h=>by
  simp only [List.map_cons,List.cons.injEq] at h
  rw [tl_inj h.1,map_tl_inj h.2]
theorem flat_mem:∀ {f:F} {L:List By} {e:DO.Ent},f.rises→(e∈flatF L f↔∃ n M m,e.p=L++(n::M).map tl∧((f.get n).bind fun s=>val s M)=some (e.v,m))
 | .nil,L,e,_=>by simp [flatF,F.get]
 | .cons nm v m k r,L,e,h=>by
  obtain ⟨hab,hk,hr⟩:r.above nm∧k.rises∧r.rises:=by simpa [F.rises] using h
  rw [flatF,List.mem_cons,List.mem_append,flat_mem hk,flat_mem hr]
  constructor
  ·rintro (rfl | ⟨n,M,m',e1,e2⟩ | ⟨n,M,m',e1,e2⟩)
   ·exact ⟨nm,[],m,rfl,by rw [F.get_cons_eq];rfl⟩
   ·refine ⟨nm,n::M,m',by rw [e1];simp,?_⟩
    rw [F.get_cons_eq,Option.bind_some,val_cons]
    exact e2
   ·refine ⟨n,M,m',e1,?_⟩
    rw [F.get,if_neg]
    ·exact e2
    ·rintro rfl
     rw [F.get_above hab] at e2
     cases e2
  ·rintro ⟨n,M,m',e1,e2⟩
   by_cases hn:nm=n
   ·subst hn
    rw [F.get_cons_eq,Option.bind_some] at e2
    cases M with
    | nil=>
     left
     rw [val_nil] at e2
     injection e2 with e2
     injection e2 with e3 _
     cases e
     simp only at e1 e3
     rw [e1,e3];rfl
    | cons x N=>
     right;left
     rw [val_cons] at e2
     exact ⟨x,N,m',by rw [e1];simp,e2⟩
   ·right;right
    rw [F.get,if_neg fun q=>hn q.symm] at e2
    exact ⟨n,M,m',e1,e2⟩
theorem cmpP_ext (L:List By) (x:By) (q:List By):cmpP L (L++x::q)=-1:=by
 have:=DO.cmpP_pre L [] (x::q)
 rw [List.append_nil] at this
 rw [this];rfl
theorem flat_srt:∀ {f:F} {L:List By},Rise f→Srt (flatF L f)
 | .nil,_,_=>.nil
 | .cons nm v m k r,L,h=>by
  obtain ⟨_,hk,hr,hn⟩:=h
  have hb:∀ e∈flatF L r,∀ q,cmpP (L++tl nm::q) e.p=-1:=fun e he q=>by
   obtain ⟨x,hx,q',e1⟩:=DO.flat_in r L e he
   rw [e1]
   exact DO.cmpP_lt (hn x hx) q q'
  refine List.pairwise_cons.2 ⟨fun e he=>?_,List.pairwise_append.2 ⟨flat_srt hk,flat_srt hr,fun a ha b hb'=>?_⟩⟩
  ·rcases List.mem_append.1 he with he | he
   ·obtain ⟨x,_,q,e1⟩:=DO.flat_in k _ e he
    show cmpP (L++[tl nm]) e.p=-1
    rw [e1]
    exact cmpP_ext _ _ _
   ·exact hb e he []
  ·obtain ⟨x,_,q,e1⟩:=DO.flat_in k _ a ha
   rw [e1,List.append_assoc]
   exact hb b hb' _
theorem flat_vals:∀ {f:F} {L:List By},Rise f→∀ e∈flatF L f,e.v≠vz
 | .nil,_,_,e,h=>(List.not_mem_nil h).elim
 | .cons nm v m k r,L,h,e,he=>by
  obtain ⟨h1,hk,hr,_⟩:=h
  rw [flatF] at he
  rcases List.mem_cons.1 he with rfl | he
  ·exact h1
  ·rcases List.mem_append.1 he with he | he
   ·exact flat_vals hk e he
   ·exact flat_vals hr e he
structure Good (t:T3):Prop where
 c:checkE t.1 t.2.1 t.2.2=0
theorem Good.rises {t:T3} (h:Good t):t.2.2.rises:=rises_of_check h.c
theorem Good.rise {t:T3} (h:Good t):Rise t.2.2:=(check_rise h.c).1
theorem Good.own {t:T3} (h:Good t):ownE t.1 t.2.1 (decide (0<t.2.2.len))=0:=(check_none h.c).1
def flatT (t:T3):List DO.Ent:=flatN t.1 t.2.2
theorem Good.srt {t:T3} (h:Good t):Srt (flatT t):=List.pairwise_cons.2 ⟨fun e he=>by
  obtain ⟨x,_,q,e1⟩:=DO.flat_in _ _ e he
  rw [e1];rfl,flat_srt h.rise⟩
theorem Good.vals {t:T3} (h:Good t):∀ e∈flatT t,e.v≠vz:=fun e he=>by
 rcases List.mem_cons.1 he with rfl | he
 ·exact own_kind h.own
 ·exact flat_vals h.rise e he
def vl (t:T3) (M:List ByteArray):Vd:=((val t M).map (·.1)).getD vz
theorem Good.at_ {t:T3} (h:Good t) (M:List ByteArray):At_ (flatT t) (M.map tl) (vl t M):=by
 cases e:val t M with
 | some x=>
  have e1:vl t M=x.1:=by unfold vl;rw [e];rfl
  rw [e1]
  left
  cases M with
  | nil=>
   rw [val_nil] at e
   injection e with e
   exact ⟨⟨[],t.1⟩,List.mem_cons_self,rfl,by rw [← e]⟩
  | cons n N=>
   rw [val_cons] at e
   exact ⟨⟨(n::N).map tl,x.1⟩,List.mem_cons_of_mem _ ((flat_mem h.rises).2 ⟨n,N,x.2,rfl,e⟩),rfl,rfl⟩
 | none=>
  have e1:vl t M=vz:=by unfold vl;rw [e];rfl
  rw [e1]
  refine .inr ⟨fun a ha q=>?_,rfl⟩
  rcases List.mem_cons.1 ha with rfl | ha
  ·cases M with
   | nil=>rw [val_nil] at e;cases e
   | cons n N=>simp at q
  ·obtain ⟨n,N,m,e2,e3⟩:=(flat_mem h.rises).1 ha
   rw [e2,List.nil_append] at q
   have:n::N=M:=map_tl_inj q
   subst this
   rw [val_cons,e3] at e
   cases e
theorem Good.mem {t:T3} (h:Good t) {e:DO.Ent} (he:e∈flatT t):∃ M m,e.p=M.map tl∧val t M=some (e.v,m):=by
 rcases List.mem_cons.1 he with rfl | he
 ·exact ⟨[],t.2.1,rfl,rfl⟩
 ·obtain ⟨n,N,m,e2,e3⟩:=(flat_mem h.rises).1 he
  exact ⟨n::N,m,by rw [e2];rfl,by rw [val_cons];exact e3⟩
theorem Good.nz {t:T3} (h:Good t) {M:List ByteArray} {x:Vd × Md} (e:val t M=some x):x.1≠vz:=by
 have h1:=h.at_ M
 have e1:vl t M=x.1:=by unfold vl;rw [e];rfl
 rw [e1] at h1
 rcases h1 with ⟨a,ha,_,e2⟩ | ⟨h2,_⟩
 ·rw [← e2];exact h.vals a ha
 ·exfalso
  cases M with
  | nil=>exact h2 _ List.mem_cons_self rfl
  | cons n N=>
   rw [val_cons] at e
   exact h2 ⟨(n::N).map tl,x.1⟩ (List.mem_cons_of_mem _ ((flat_mem h.rises).2 ⟨n,N,x.2,rfl,e⟩)) rfl
theorem vl_none {t:T3} (h:Good t) {M:List ByteArray}:vl t M=vz↔val t M=none:=by
 unfold vl
 cases e:val t M with
 | none=>simp
 | some x=>simpa using h.nz e
end Go.Proofs.YthfcanpkhjgomaaGreat
namespace Go.Proofs.YthfcanpkhjgomaaGreat
open Go.RowKit Ch
open DO (flatF flatN Rise SrtD At_ MgOk Srt mgE wkN mg_root mg_ok vz)
theorem fault_get {n:ByteArray} {s:T3}:∀ {f:F} {prev:Option ByteArray} {P:List ByteArray},faultF f prev P=none→f.get n=some s→
  nameB (tl n)=true∧P.length+1≤64∧faultF s.2.2 none (P++[n])=none∧ownE s.1 s.2.1 (decide (0<s.2.2.len))=0
 | .nil,_,_,_,h=>by cases h
 | .cons nm v m k r,prev,P,hf,h=>by
  rw [faultF] at hf
  by_cases h1:placeE prev nm (P.length+1)≠0
  ·rw [if_pos h1] at hf;cases hf
  rw [if_neg h1] at hf
  by_cases h2:ownE v m (decide (0<k.len))≠0
  ·rw [if_pos h2] at hf;cases hf
  rw [if_neg h2] at hf
  cases h3:faultF k none (P++[nm]) with
  | some x=>rw [h3] at hf;cases hf
  | none=>
   rw [h3] at hf
   rw [F.get] at h
   by_cases e:n=nm
   ·rw [if_pos e] at h
    subst e
    cases h
    have h4:placeE prev n (P.length+1)=0:=Classical.not_not.1 h1
    unfold placeE at h4
    split at h4
    ·cases h4
    ·split at h4
     ·cases h4
     ·rename_i q1 q2
      exact ⟨by simpa using q2,by omega,h3,Classical.not_not.1 h2⟩
   ·rw [if_neg e] at h
    exact fault_get hf h
theorem fault_dn:∀ {M:List ByteArray} {t s:T3} {P:List ByteArray},faultF t.2.2 none P=none→ownE t.1 t.2.1 (decide (0<t.2.2.len))=0→P.length≤64→dn t M=some s→
  (∀ x∈M,nameB (tl x)=true)∧P.length+M.length≤64∧ownE s.1 s.2.1 (decide (0<s.2.2.len))=0
 | [],t,s,P,_,ho,hP,h=>by
  cases h
  exact ⟨fun x h=>(List.not_mem_nil h).elim,by simpa using hP,ho⟩
 | n::N,t,s,P,hf,_,_,h=>by
  rw [dn] at h
  cases e:t.2.2.get n with
  | none=>rw [e] at h;cases h
  | some y=>
   rw [e,Option.bind_some] at h
   obtain ⟨h1,h2,h3,h4⟩:=fault_get hf e
   obtain ⟨k1,k2,k3⟩:=fault_dn h3 h4 (by simpa using h2) h
   refine ⟨fun x hx=>?_,?_,k3⟩
   ·rcases List.mem_cons.1 hx with rfl | hx
    ·exact h1
    ·exact k1 x hx
   ·simp only [List.length_append,List.length_cons,List.length_nil] at k2 ⊢
    omega
theorem Good.names {t s:T3} (h:Good t) {M:List ByteArray} (e:dn t M=some s):(∀ x∈M,nameB (tl x)=true)∧M.length≤64∧ownE s.1 s.2.1 (decide (0<s.2.2.len))=0:=by
 have h1:=check_none h.c
 obtain ⟨a,b,c⟩:=fault_dn (P:=[]) h1.2 h1.1 (by simp) e
 exact ⟨a,by simpa using b,c⟩
theorem own_dir {v:Vd} {m:Md} (h:ownE v m true=0):v.kind=1:=by
 unfold ownE at h
 split at h
 ·cases h
 ·split at h
  ·cases h
  ·rename_i q
   simpa using q
theorem own_zero_md {v:Vd} {m:Md} {b:Bool} (h:ownE v m b=0):ownE v Md.zero false=0:=by
 unfold ownE at h ⊢
 split at h
 ·cases h
 rename_i h1
 rw [if_neg h1,if_neg (by simp)]
 split at h
 ·cases h
 split at h
 ·cases h
 rename_i h3
 rw [if_neg h3,if_neg,if_neg]
 ·rintro ⟨_,q⟩;exact q rfl
 ·rintro ⟨_,q⟩
  rcases q with q | q<;>· revert q;decide
theorem len_pos {f:F} {n:ByteArray} {s:T3} (h:f.get n=some s):0<f.len:=by
 cases f with
 | nil=>cases h
 | cons=>simp [F.len]
theorem Good.par {t:T3} (h:Good t):Par t:=fun L n hn=>by
 cases e:dn t L with
 | none=>
  exfalso
  apply hn
  rw [val_app,e];rfl
 | some s=>
  refine ⟨s.1,s.2.1,val_some e,?_⟩
  rw [val_kid e] at hn
  cases hg:s.2.2.get n with
  | none=>rw [hg] at hn;exact absurd rfl hn
  | some y=>
   have h1:=(h.names e).2.2
   have h2:=len_pos hg
   rw [decide_eq_true h2] at h1
   exact own_dir h1
structure Dd (t u:T3) (D:List DO.Dif):Prop where
 srt:SrtD D
 each:∀ d∈D,∃ M:List ByteArray,d.p=M.map tl∧(∀ x∈M,nameB (tl x)=true)∧M.length≤64∧d.o=vl t M∧d.n=vl u M∧d.o≠d.n
 all:∀ M,vl t M≠vl u M→∃ d∈D,d.p=M.map tl
theorem Dd.of {t u:T3} {D:List DO.Dif} (ht:Good t) (hu:Good u) (h:MgOk (flatT t) (flatT u) D):Dd t u D:=by
 obtain ⟨h1,h2,h3,h4⟩:=h
 refine ⟨h1,fun d hd=>?_,fun M hM=>h3 _ _ _ (ht.at_ M) (hu.at_ M) hM⟩
 obtain ⟨a1,a2,a3⟩:=h2 d hd
 have key:∃ M s,d.p=M.map tl∧(dn t M=some s∨dn u M=some s):=by
  rcases h4 d hd with ⟨a,ha,e⟩ | ⟨b,hb,e⟩
  ·obtain ⟨M,m,e1,e2⟩:=ht.mem ha
   obtain ⟨s,e3,_⟩:=dn_some e2
   exact ⟨M,s,e.symm.trans e1,.inl e3⟩
  ·obtain ⟨M,m,e1,e2⟩:=hu.mem hb
   obtain ⟨s,e3,_⟩:=dn_some e2
   exact ⟨M,s,e.symm.trans e1,.inr e3⟩
 obtain ⟨M,s,e,hs⟩:=key
 have hn:(∀ x∈M,nameB (tl x)=true)∧M.length≤64:=by
  rcases hs with hs | hs
  ·exact ⟨(ht.names hs).1,(ht.names hs).2.1⟩
  ·exact ⟨(hu.names hs).1,(hu.names hs).2.1⟩
 rw [e] at a1 a2
 exact ⟨M,e,hn.1,hn.2,At_.uniq ht.srt a1 (ht.at_ M),At_.uniq hu.srt a2 (hu.at_ M),a3⟩
def kT (q:Kid):T3:=(q.v,q.m,q.k.flat)
theorem dl_dd {q r:Kid} (ht:Good (kT q)) (hu:Good (kT r)):Dd (kT q) (kT r) (dl [] (some q) (some r)):=by
 refine Dd.of ht hu ?_
 have e:dl [] (some q) (some r)=mgE (q.k.flat.size+r.k.flat.size+3) (flatT (kT q)) (flatT (kT r)):=(mg_root ht.rise hu.rise _ (by show q.k.flat.size+r.k.flat.size+2≤_;omega)).symm
 rw [e]
 refine mg_ok _ _ _ ?_ ht.srt hu.srt ht.vals hu.vals
 show (flatN q.v q.k.flat).length+(flatN r.v r.k.flat).length<_
 unfold flatN
 rw [List.length_cons,List.length_cons,DO.flat_len,DO.flat_len]
 omega
theorem good_map {M:List ByteArray} (h:∀ x∈M,nameB (tl x)=true):goodL (M.map tl):=fun y hy=>by
 obtain ⟨x,hx,rfl⟩:=List.mem_map.1 hy
 exact h x hx
theorem toC_names {d:DO.Dif} {M:List ByteArray} (e:d.p=M.map tl) (hn:∀ x∈M,nameB (tl x)=true) (hl:M.length≤64):splitE (tl (toC d).path) 64=0∧toN (toC d)=⟨M,d.o,d.n⟩:=by
 have h1:pieces (tl (toC d).path)=M.map tl:=by
  show pieces (tl (ofB (joinL d.p)))=_
  rw [tl_ofB,e,pieces_join (good_map hn)]
 constructor
 ·unfold splitE
  rw [h1,if_neg (by rw [List.length_map];omega),if_pos]
  rw [List.all_eq_true]
  exact good_map hn
 ·show Cn.mk (cutN (toC d).path) _ _=_
  unfold cutN
  rw [h1,List.map_map]
  have:M.map (ofB ∘ tl)=M:=by
   conv=>rhs;rw [← List.map_id M]
   exact List.map_congr_left fun x _=>ofB_tl x
  rw [this]
  rfl
theorem Dd.split {t u:T3} {D:List DO.Dif} (h:Dd t u D):∀ c∈D.map toC,splitE (tl c.path) 64=0:=fun c hc=>by
 obtain ⟨d,hd,rfl⟩:=List.mem_map.1 hc
 obtain ⟨M,e,h1,h2,_⟩:=h.each d hd
 exact (toC_names e h1 h2).1
theorem Dd.lt {t u:T3} {D:List DO.Dif} (h:Dd t u D):(D.map toC).Pairwise ltP:=by
 rw [List.pairwise_map]
 refine List.Pairwise.imp_of_mem ?_ h.srt
 intro a b ha hb hab
 obtain ⟨M,e,h1,_⟩:=h.each a ha
 obtain ⟨N,e',h1',_⟩:=h.each b hb
 show cmpL (tl (ofB (joinL a.p))) (tl (ofB (joinL b.p)))<0
 rw [tl_ofB,tl_ofB,cmpL_join (by rw [e];exact good_map h1) (by rw [e'];exact good_map h1'),hab]
 decide
theorem Dd.rise {t u:T3} {D:List DO.Dif} (h:Dd t u D):riseB none (D.map toC)=true:=rise_of (fun c hc=>⟨h.split c hc,by
 obtain ⟨d,hd,rfl⟩:=List.mem_map.1 hc
 obtain ⟨M,_,_,_,_,_,h3⟩:=h.each d hd
 exact fun e=>h3 (cvV_inj e)⟩) h.lt fun q hq=>by cases hq
theorem Dd.starts {t u:T3} {D:List DO.Dif} (h:Dd t u D):startsB t (D.map toC)=true:=by
 unfold startsB
 rw [List.all_eq_true]
 intro c hc
 obtain ⟨d,hd,rfl⟩:=List.mem_map.1 hc
 obtain ⟨M,e,h1,h2,h3,_⟩:=h.each d hd
 obtain ⟨n1,n2⟩:=toC_names e h1 h2
 have hcut:cutN (toC d).path=M:=congrArg Cn.L n2
 rw [decide_eq_true_eq]
 show atV t (toC d).path=d.o
 unfold atV
 rw [sub_names n1,hcut,h3]
 unfold vl val
 cases dn t M<;>rfl
theorem Dd.cn {t u:T3} {D:List DO.Dif} (h:Dd t u D):∀ c∈(D.map toC).map toN,c.o=vl t c.L∧c.n=vl u c.L∧c.o≠c.n:=fun c hc=>by
 rw [List.map_map] at hc
 obtain ⟨d,hd,rfl⟩:=List.mem_map.1 hc
 obtain ⟨M,e,h1,h2,h3,h4,h5⟩:=h.each d hd
 show (toN (toC d)).o=_∧_
 rw [show (toN ∘ toC) d=toN (toC d) from rfl,(toC_names e h1 h2).2]
 exact ⟨h3,h4,h5⟩
theorem Dd.cn_all {t u:T3} {D:List DO.Dif} (h:Dd t u D) (M:List ByteArray) (hM:vl t M≠vl u M):∃ c∈(D.map toC).map toN,c.L=M:=by
 obtain ⟨d,hd,e⟩:=h.all M hM
 obtain ⟨N,e',h1,h2,_⟩:=h.each d hd
 obtain rfl:N=M:=map_tl_inj (e'.symm.trans e)
 exact ⟨toN (toC d),List.mem_map_of_mem (List.mem_map_of_mem hd),by rw [(toC_names e h1 h2).2]⟩
end Go.Proofs.YthfcanpkhjgomaaGreat
namespace Go.Proofs.YthfcanpkhjgomaaGreat
open Go.RowKit
open DO (vz)
def Made (t u z:T3):Prop:=z.2.2.rises∧∀ M,val z M=if vl t M=vl u M then val t M else (val u M).map fun x=>(x.1,Md.zero)
theorem ap_dd {t u:T3} {D:List DO.Dif} (ht:Good t) (hu:Good u) (h:Dd t u D):∃ z,apM t (D.map toC)=some z∧Made t u z:=by
 obtain ⟨l,hl⟩:∃ l,(D.map toC).map toN=l:=⟨_,rfl⟩
 have hpo:Po l:=by rw [← hl];exact rise_po h.lt
 have hc:∀ c∈l,c.o=vl t c.L∧c.n=vl u c.L∧c.o≠c.n:=by rw [← hl];exact h.cn
 have ha:∀ M,vl t M≠vl u M→∃ c∈l,c.L=M:=by rw [← hl];exact h.cn_all
 have hgo:∀ M,vl t M≠vl u M→vl u M=vz→Go_ l M:=fun M h1 h2=>by
  obtain ⟨c,hc1,rfl⟩:=ha M h1
  exact ⟨c,hc1,(hc c hc1).2.1.trans h2,rfl⟩
 have hgo':∀ M,Go_ l M→vl u M=vz∧vl t M≠vz:=fun M ⟨c,h1,h2,h3⟩=>by
  obtain ⟨k1,k2,k3⟩:=hc c h1
  rw [h3] at k1 k2
  exact ⟨k2.symm.trans h2,fun e=>k3 (by rw [k1,h2,e])⟩
 have hroot:∀ {x:T3},Good x→vl x []≠vz:=fun {x} hx=>by
  rw [Ne,vl_none hx,val_nil]
  exact nofun
 obtain ⟨t1,e1⟩:=clr_ok ht.rises ht.par hpo fun c h1 h2=>by
  obtain ⟨k1,k2,k3⟩:=hc c h1
  have hz:vl u c.L=vz:=k2.symm.trans h2
  refine ⟨fun e=>hroot hu (by rw [← e];exact hz),fun e=>k3 (by rw [k1,h2,(vl_none ht).2 e]),fun n hn=>hgo _ ?_ ?_⟩
  ·intro e
   apply hn
   rw [← vl_none ht,e,vl_none hu]
   have:=(vl_none hu).1 hz
   rw [val_app,val_none.1 this];rfl
  ·rw [vl_none hu]
   have:=(vl_none hu).1 hz
   rw [val_app,val_none.1 this];rfl
 obtain ⟨r1,g1,g2⟩:=clr_val ht.rises e1
 have sub1:∀ M,val t M=none→val t1 M=none:=fun M h0=>by
  by_cases hg:Go_ l M
  ·exact g1 M hg
  ·rw [g2 M hg];exact h0
 have H1:∀ c∈l,c.n≠vz→(c.o=vz→val t1 c.L=none)∧(c.o≠vz→val t1 c.L≠none):=fun c h1 h2=>by
  obtain ⟨k1,k2,k3⟩:=hc c h1
  refine ⟨fun h3=>sub1 _ ((vl_none ht).1 (k1.symm.trans h3)),fun h3 h4=>h3 ?_⟩
  rw [g2 c.L (fun hg=>h2 (k2.trans (hgo' _ hg).1))] at h4
  rw [k1]
  exact (vl_none ht).2 h4
 obtain ⟨z,e2⟩:=lay_ok r1 hpo H1 (fun c h1 h2=>by
   obtain ⟨k1,k2,k3⟩:=hc c h1
   rw [check_own]
   have:val u c.L≠none:=fun e=>h2 (by rw [k2];exact (vl_none hu).2 e)
   obtain ⟨x,hx⟩:=Option.ne_none_iff_exists'.1 this
   obtain ⟨s,hs,ex⟩:=dn_some hx
   have hn:c.n=s.1:=by rw [k2];unfold vl;rw [hx,ex];rfl
   rw [hn]
   exact own_zero_md (hu.names hs).2.2)
  (fun c h1 h2=>by
   obtain ⟨k1,k2,k3⟩:=hc c h1
   by_cases hL:c.L=[]
   ·exact .inl hL
   right
   have hne:val u c.L≠none:=fun e=>h2 (by rw [k2];exact (vl_none hu).2 e)
   have hd:c.L=c.L.dropLast++[c.L.getLast hL]:=(List.dropLast_concat_getLast hL).symm
   rw [hd] at hne
   obtain ⟨v,m,e,hk⟩:=hu.par _ _ hne
   have ev:vl u c.L.dropLast=v:=by unfold vl;rw [e];rfl
   by_cases q:∃ d∈l,d.n≠vz∧d.L=c.L.dropLast
   ·right
    obtain ⟨d,hd1,hd2,hd3⟩:=q
    exact ⟨d,hd1,hd2,hd3,by rw [(hc d hd1).2.1,hd3,ev];exact hk⟩
   ·left
    have hz:vl u c.L.dropLast≠vz:=fun e'=>by
     have:=(vl_none hu).1 e'
     rw [e] at this;cases this
    have same:vl t c.L.dropLast=vl u c.L.dropLast:=Classical.byContradiction fun q2=>by
     obtain ⟨d,hd1,hd2⟩:=ha _ q2
     exact q ⟨d,hd1,by rw [(hc d hd1).2.1,hd2];exact hz,hd2⟩
    have h3:val t1 c.L.dropLast=val t c.L.dropLast:=g2 _ fun hg=>hz (hgo' _ hg).1
    cases e4:val t c.L.dropLast with
    | none=>exact absurd (same.symm.trans ((vl_none ht).2 e4)) hz
    | some y=>
     refine ⟨y.1,y.2,h3.trans e4,?_,fun d hd1 hd2 hd3=>q ⟨d,hd1,hd2,hd3⟩⟩
     have:vl t c.L.dropLast=y.1:=by unfold vl;rw [e4];rfl
     rw [← this,same,ev];exact hk)
  (fun c h1 h2 h3 n=>by
   obtain ⟨k1,k2,k3⟩:=hc c h1
   have hn:val u (c.L++[n])=none:=Classical.byContradiction fun q=>by
    obtain ⟨v,m,e,hk⟩:=hu.par _ _ q
    apply h3
    rw [k2]
    unfold vl
    rw [e];exact hk
   by_cases q:val t (c.L++[n])=none
   ·exact sub1 _ q
   ·refine g1 _ (hgo _ ?_ ((vl_none hu).2 hn))
    rw [(vl_none hu).2 hn]
    exact fun e=>q ((vl_none ht).1 e))
 obtain ⟨r2,l1,l2⟩:=lay_val r1 hpo (fun c h1 h2 h3=>(H1 c h1 h2).1 h3) e2
 have hs:=h.split
 refine ⟨z,?_,r2,fun M=>?_⟩
 ·unfold apM
  rw [dpL_names hs,hl,e1,Option.bind_some,ldM_names hs,hl]
  exact e2
 by_cases e:vl t M=vl u M
 ·rw [if_pos e,l2 M fun c h1 _ h3=>(hc c h1).2.2 (by rw [(hc c h1).1,(hc c h1).2.1,h3,e])]
  exact g2 M fun hg=>(hgo' M hg).2 (by rw [e];exact (hgo' M hg).1)
 ·rw [if_neg e]
  obtain ⟨c,h1,rfl⟩:=ha M e
  obtain ⟨k1,k2,k3⟩:=hc c h1
  by_cases hz:c.n=vz
  ·have hu0:vl u c.L=vz:=k2.symm.trans hz
   rw [(vl_none hu).1 hu0,l2 c.L fun d d1 d2 d3=>d2 (by rw [(hc d d1).2.1,d3];exact hu0)]
   exact g1 _ (hgo _ e hu0)
  ·rw [l1 c h1 hz]
   cases eu:val u c.L with
   | none=>exact absurd (k2.trans ((vl_none hu).2 eu)) hz
   | some x=>
    have:c.n=x.1:=by rw [k2];unfold vl;rw [eu];rfl
    rw [this];rfl
theorem apE_dd {t u:T3} {D:List DO.Dif} (ht:Good t) (hu:Good u) (h:Dd t u D):apE t (D.map toC)=0:=by
 obtain ⟨z,hz,_⟩:=ap_dd ht hu h
 unfold apE
 rw [h.rise,h.starts,hz]
 rfl
theorem Made.vals {t u z:T3} (h:Made t u z) (M:List ByteArray):vl z M=vl u M:=by
 have h1:=h.2 M
 unfold vl at h1 ⊢
 rw [h1]
 by_cases e:((val t M).map (·.1)).getD vz=((val u M).map (·.1)).getD vz
 ·rw [if_pos e];exact e
 ·rw [if_neg e]
  cases val u M<;>rfl
end Go.Proofs.YthfcanpkhjgomaaGreat
namespace Go.Proofs.YthfcanpkhjgomaaGreat
open Go.RowKit
open DO (vz)
def bareF:F→F
 | .nil=>.nil
 | .cons n v _ k r=>.cons n v Md.zero (bareF k) (bareF r)
def bareT (t:T3):T3:=(t.1,Md.zero,bareF t.2.2)
theorem sameF_bare:∀ {f g:F},sameF false f g=true↔bareF f=bareF g
 | .nil,.nil=>by simp [sameF,bareF]
 | .nil,.cons ..=>by simp [sameF,bareF]
 | .cons ..,.nil=>by simp [sameF,bareF]
 | .cons n v m k r,.cons n' v' m' k' r'=>by
  rw [sameF,bareF,bareF,F.cons.injEq]
  simp only [Bool.and_eq_true,decide_eq_true_eq,sameF_bare (f:=k),sameF_bare (f:=r)]
  unfold sameV
  simp
theorem sameT_bare {t u:T3}:sameT false t u=true↔bareT t=bareT u:=by
 unfold sameT bareT
 rw [Bool.and_eq_true,sameF_bare]
 unfold sameV
 simp [Prod.ext_iff]
theorem bare_above {n:ByteArray}:∀ {f:F},f.above n→(bareF f).above n
 | .nil,h=>h
 | .cons _ _ _ _ _,⟨h1,h2⟩=>⟨h1,bare_above h2⟩
theorem bare_rises:∀ {f:F},f.rises→(bareF f).rises
 | .nil,h=>h
 | .cons _ _ _ _ _,⟨h1,h2,h3⟩=>⟨bare_above h1,bare_rises h2,bare_rises h3⟩
theorem bare_get {n:ByteArray}:∀ {f:F},(bareF f).get n=(f.get n).map bareT
 | .nil=>rfl
 | .cons nm v m k r=>by
  rw [bareF,F.get,F.get]
  by_cases e:n=nm
  ·rw [if_pos e,if_pos e];rfl
  ·rw [if_neg e,if_neg e];exact bare_get
theorem bare_val:∀ {M:List ByteArray} {t:T3},val (bareT t) M=(val t M).map fun x=>(x.1,Md.zero)
 | [],_=>rfl
 | n::N,t=>by
  rw [val_cons,val_cons]
  show ((bareF t.2.2).get n).bind _=_
  rw [bare_get]
  cases t.2.2.get n with
  | none=>rfl
  | some s=>exact bare_val
def Nz (t:T3):Prop:=∀ M x,val t M=some x→x.1≠vz
theorem Good.nz' {t:T3} (h:Good t):Nz t:=fun _ _ e=>h.nz e
theorem Made.nz {t u z:T3} (ht:Good t) (hu:Good u) (h:Made t u z):Nz z:=fun M x e=>by
 rw [h.2 M] at e
 split at e
 ·exact ht.nz e
 ·cases eu:val u M with
  | none=>rw [eu] at e;cases e
  | some y=>
   rw [eu] at e
   cases e
   have:=hu.nz eu
   exact this
theorem same_vals {t u:T3} (ht:t.2.2.rises) (hu:u.2.2.rises) (n1:Nz t) (n2:Nz u):sameT false t u=true↔∀ M,vl t M=vl u M:=by
 rw [sameT_bare]
 constructor
 ·intro e M
  have h1:=bare_val (M:=M) (t:=t)
  rw [e,bare_val] at h1
  unfold vl
  cases a:val t M<;>cases b:val u M<;>rw [a,b] at h1<;>simp_all
 ·intro h
  refine T3.ext_val (bare_rises ht) (bare_rises hu) fun M=>?_
  rw [bare_val,bare_val]
  have h1:=h M
  unfold vl at h1
  cases a:val t M with
  | none=>
   cases b:val u M with
   | none=>rfl
   | some y=>rw [a,b] at h1;exact absurd h1.symm (n2 M y b)
  | some x=>
   cases b:val u M with
   | none=>rw [a,b] at h1;exact absurd h1 (n1 M x a)
   | some y=>
    rw [a,b] at h1
    have h2:x.1=y.1:=h1
    simp [h2]
theorem Made.same {t u z:T3} (ht:Good t) (hu:Good u) (h:Made t u z):sameT false z u=true:=(same_vals h.1 hu.rises (h.nz ht hu) hu.nz').2 h.vals
theorem Dd.nil {t u:T3} {D:List DO.Dif} (ht:Good t) (hu:Good u) (h:Dd t u D):D=[]↔sameT false t u=true:=by
 rw [same_vals ht.rises hu.rises ht.nz' hu.nz']
 constructor
 ·rintro rfl M
  refine Classical.byContradiction fun q=>?_
  obtain ⟨d,hd,_⟩:=h.all M q
  exact (List.not_mem_nil hd).elim
 ·intro e
  cases D with
  | nil=>rfl
  | cons d D=>
   obtain ⟨M,_,_,_,h1,h2,h3⟩:=h.each d List.mem_cons_self
   exact absurd (h1.trans ((e M).trans h2.symm)) h3
def swapD (d:DO.Dif):DO.Dif:=⟨d.p,d.n,d.o⟩
theorem Dd.turn {t u:T3} {D:List DO.Dif} (h:Dd t u D):Dd u t (D.map swapD) where
 srt:=List.pairwise_map.2 (h.srt.imp fun q=>q)
 each:=fun d hd=>by
  obtain ⟨e,he,rfl⟩:=List.mem_map.1 hd
  obtain ⟨M,h1,h2,h3,h4,h5,h6⟩:=h.each e he
  exact ⟨M,h1,h2,h3,h5,h4,fun q=>h6 q.symm⟩
 all:=fun M hM=>by
  obtain ⟨d,hd,e⟩:=h.all M fun q=>hM q.symm
  exact ⟨swapD d,List.mem_map_of_mem hd,e⟩
theorem srt_uniq {D E:List DO.Dif} (h1:DO.SrtD D) (h2:DO.SrtD E) (h:∀ d,d∈D↔d∈E):D=E:=by
 have nd:∀ {L:List DO.Dif},DO.SrtD L→L.Nodup:=fun hL=>List.Pairwise.imp (fun {a b} q e=>by rw [e,DO.cmpP_self] at q;cases q) hL
 have hp:D.Perm E:=(List.perm_ext_iff_of_nodup (nd h1) (nd h2)).2 h
 refine List.Perm.eq_of_pairwise (le:=fun (a b:DO.Dif)=>cmpP a.p b.p=-1) (fun a b _ _ q1 q2=>?_) h1 h2 hp
 have:=DO.cmpP_neg a.p b.p
 omega
theorem Dd.sub {t u:T3} {D E:List DO.Dif} (h:Dd t u D) (k:Dd t u E):∀ d∈D,d∈E:=fun d hd=>by
 obtain ⟨M,a1,_,_,a2,a3,a4⟩:=h.each d hd
 obtain ⟨e,he,b1⟩:=k.all M (by rw [← a2,← a3];exact a4)
 obtain ⟨N,c1,_,_,c2,c3,_⟩:=k.each e he
 obtain rfl:N=M:=map_tl_inj (c1.symm.trans b1)
 have:d=e:=by
  obtain ⟨dp,d_o,dn⟩:=d
  obtain ⟨ep,eo,en⟩:=e
  simp only at a1 a2 a3 b1 c2 c3
  rw [a1,a2,a3,b1,c2,c3]
 rw [this];exact he
theorem Dd.uniq {t u:T3} {D E:List DO.Dif} (h:Dd t u D) (k:Dd t u E):D=E:=srt_uniq h.srt k.srt fun d=>⟨h.sub k d,k.sub h d⟩
theorem dl_turn {q r:Kid} (ht:Good (kT q)) (hu:Good (kT r)):(dl [] (some q) (some r)).map swapD=dl [] (some r) (some q):=(dl_dd ht hu).turn.uniq (dl_dd hu ht)
end Go.Proofs.YthfcanpkhjgomaaGreat
namespace Go.Proofs.YthfcanpkhjgomaaGreat
open Go.RowKit
open DO (vz)
theorem leP_of {nm p:ByteArray} (h:lt p nm):leP nm (some p)=false:=by
 show leB nm p=false
 unfold leB
 rw [Bool.or_eq_false_iff,beq_eq_false_iff_ne]
 refine ⟨?_,fun e=>(lt_no h).2 (toList_inj e).symm⟩
 have:=(lt_no h).1
 unfold lt at this
 simpa using this
def OkAt (t:T3) (P:Nat):Prop:=∀ M x,val t M=some x→(∀ y∈M,nameB (tl y)=true)∧P+M.length≤64∧ownE x.1 x.2 false=0
theorem Par.kid {t s:T3} {n:ByteArray} (h:Par t) (e:t.2.2.get n=some s):Par s:=fun L k hk=>by
 have h1:=h (n::L) k (by rw [List.cons_append,val_cons,e];exact hk)
 rw [val_cons,e] at h1
 exact h1
theorem OkAt.kid {t s:T3} {n:ByteArray} {P:Nat} (h:OkAt t P) (e:t.2.2.get n=some s):OkAt s (P+1):=fun M x hx=>by
 obtain ⟨h1,h2,h3⟩:=h (n::M) x (by rw [val_cons,e];exact hx)
 exact ⟨fun y hy=>h1 y (List.mem_cons_of_mem _ hy),by rw [List.length_cons] at h2;omega,h3⟩
theorem Par.own {t:T3} (h:Par t) (o:ownE t.1 t.2.1 false=0):ownE t.1 t.2.1 (decide (0<t.2.2.len))=0:=own_kids o fun hb=>by
 have hl:t.2.2≠.nil:=fun e=>by rw [e] at hb;simp [F.len] at hb
 obtain ⟨n,s,e⟩:=get_of_len hl
 obtain ⟨v,m,e1,e2⟩:=h [] n (by rw [List.nil_append,val_cons,e];exact nofun)
 rw [val_nil] at e1
 cases e1
 exact e2
theorem fault_none_of:∀ {f:F} {prev:Option ByteArray} {P:List ByteArray},f.rises→(∀ p,prev=some p→f.above p)→(∀ n s,f.get n=some s→nameB (tl n)=true∧OkAt s (P.length+1)∧Par s)→faultF f prev P=none
 | .nil,_,_,_,_,_=>rfl
 | .cons nm v m k r,prev,P,⟨h1,h2,h3⟩,ha,hg=>by
  obtain ⟨g1,g2,g3⟩:=hg nm (v,m,k) F.get_cons_eq
  have g0:=g2 [] _ (val_nil _)
  have hp:placeE prev nm (P.length+1)=0:=by
   unfold placeE
   rw [if_neg (by have:=g0.2.1;simp only [List.length_nil] at this;omega),if_neg (by rw [g1];simp),if_neg]
   cases prev with
   | none=>exact nofun
   | some p=>rw [leP_of (ha p rfl).1];simp
  have hk:faultF k none (P++[nm])=none:=fault_none_of h2 (fun _ q=>by cases q) fun n s e=>by
   have q1:=g2 [n] (s.1,s.2.1) (by rw [val_cons];show (k.get n).bind _=_;rw [e];rfl)
   refine ⟨q1.1 n (by simp),?_,g3.kid e⟩
   rw [List.length_append]
   exact g2.kid e
  have hr:faultF r (some nm) P=none:=fault_none_of h3 (fun p q=>by cases q;exact h1) fun n s e=>hg n s (by
   rw [F.get,if_neg fun q=>(lt_no (F.get_above2 h1 (by rw [e];rfl))).2 q.symm]
   exact e)
  rw [faultF,if_neg (by simpa using hp),if_neg (by simpa using g3.own g0.2.2),hk]
  exact hr
theorem good_of {t:T3} (hr:t.2.2.rises) (ho:OkAt t 0) (hp:Par t):Good t:=⟨by
 have h0:=hp.own (ho [] _ (val_nil _)).2.2
 have h1:faultF t.2.2 none []=none:=fault_none_of hr (fun _ q=>by cases q) fun n s e=>by
  have q1:=ho [n] (s.1,s.2.1) (by rw [val_cons,e];rfl)
  exact ⟨q1.1 n (by simp),by simpa using ho.kid e,hp.kid e⟩
 unfold checkE faultN
 rw [if_neg (by simpa using h0),h1]
 rfl⟩
theorem own_false {v:Vd} {m:Md} {b:Bool} (h:ownE v m b=0):ownE v m false=0:=by
 unfold ownE at h ⊢
 split at h
 ·cases h
 rename_i h1
 rw [if_neg h1,if_neg (by simp)]
 split at h
 ·cases h
 exact h
theorem Good.okAt {t:T3} (h:Good t):OkAt t 0:=fun M x e=>by
 obtain ⟨s,hs,rfl⟩:=dn_some e
 obtain ⟨a,b,c⟩:=h.names hs
 exact ⟨a,by omega,own_false c⟩
theorem stepC_good {c:Cn} {t t1:T3} (h:Good t) (e:stepC c t=some t1):Good t1:=by
 obtain ⟨r1,z1,z2⟩:=stepC_val h.rises e
 have hsub:∀ M x,val t1 M=some x→val t M=some x:=fun M x q=>by
  by_cases hM:c.n=vz→c.L≠M
  ·rw [← z2 M hM];exact q
  ·have:c.n=vz∧c.L=M:=by
    by_cases a:c.n=vz
    ·exact ⟨a,Classical.byContradiction fun b=>hM fun _=>b⟩
    ·exact absurd (fun q=>absurd q a) hM
   rw [← this.2,z1 this.1] at q
   cases q
 refine good_of r1 (fun M x q=>h.okAt M x (hsub M x q)) fun L n hn=>?_
 obtain ⟨y,hy⟩:=Option.ne_none_iff_exists'.1 hn
 have ht:=hsub _ _ hy
 obtain ⟨v,m,e1,e2⟩:=h.par L n (by rw [ht];exact nofun)
 refine ⟨v,m,?_,e2⟩
 rw [z2 L]
 ·exact e1
 ·rintro hz rfl
  unfold stepC at e
  rw [if_neg (by simpa using hz)] at e
  obtain ⟨s,hs,_⟩:=dn_some e1
  rw [hs] at e
  by_cases h0:s.2.2.depth≠0
  ·rw [if_pos h0] at e;cases e
  ·have hk:s.2.2=.nil:=F.nil_of_depth (by simpa using h0)
   rw [val_kid hs,hk] at ht
   cases ht
theorem clrR_good:∀ {l:List Cn} {t t1:T3},Good t→clrR l t=some t1→Good t1
 | [],_,_,h,e=>by cases e;exact h
 | c::l,t,t1,h,e=>by
  rw [clrR] at e
  cases e1:clrR l t with
  | none=>rw [e1] at e;cases e
  | some t2=>rw [e1,Option.bind_some] at e;exact stepC_good (clrR_good h e1) e
theorem stepL_good {c:Cn} {t t1:T3} (h:Good t) (hn:∀ x∈c.L,nameB (tl x)=true) (hl:c.L.length≤64) (hz:c.n≠vz→c.o=vz→val t c.L=none) (e:stepL c t=some t1):Good t1:=by
 obtain ⟨r1,z1,z2⟩:=stepL_val h.rises hz e
 by_cases hv:c.n=vz
 ·unfold stepL at e
  rw [if_pos hv] at e
  cases e
  exact h
 have key:ownE c.n Md.zero false=0∧wayN t c.L=0∧∀ n,val t (c.L++[n])≠none→c.n.kind=1:=by
  unfold stepL at e
  rw [if_neg hv] at e
  by_cases ho:c.o=vz
  ·rw [if_neg (by simpa using ho)] at e
   by_cases h1:checkE c.n Md.zero .nil≠0
   ·rw [if_pos h1] at e;cases e
   rw [if_neg h1] at e
   by_cases h2:wayN t c.L≠0
   ·rw [if_pos h2] at e;cases e
   refine ⟨check_own.1 (by simpa using h1),by simpa using h2,fun n q=>?_⟩
   rw [val_app,val_none.1 (hz hv ho)] at q
   exact absurd rfl q
  ·rw [if_pos ho] at e
   by_cases h2:wayN t c.L≠0
   ·rw [if_pos h2] at e;cases e
   rw [if_neg h2] at e
   cases e4:dn t c.L with
   | none=>rw [e4] at e;cases e
   | some x=>
    rw [e4] at e
    simp only [] at e
    by_cases h3:ownE c.n Md.zero (decide (0<x.2.2.len))≠0
    ·rw [if_pos h3] at e;cases e
    have h3':ownE c.n Md.zero (decide (0<x.2.2.len))=0:=by simpa using h3
    refine ⟨own_false h3',by simpa using h2,fun n q=>?_⟩
    rw [val_kid e4] at q
    cases hg:x.2.2.get n with
    | none=>rw [hg] at q;exact absurd rfl q
    | some y=>
     rw [decide_eq_true (len_pos hg)] at h3'
     exact own_dir h3'
 obtain ⟨k1,k2,k3⟩:=key
 refine good_of r1 (fun M x q=>?_) fun L n q=>?_
 ·by_cases hM:c.L=M
  ·subst hM
   rw [z1 hv] at q
   cases q
   exact ⟨hn,by omega,k1⟩
  ·rw [z2 M fun _=>hM] at q
   exact h.okAt M x q
 ·by_cases hM:c.L=L++[n]
  ·unfold wayN at k2
   rw [if_neg (by rw [hM];simp),hM,List.dropLast_concat] at k2
   cases e4:dn t L with
   | none=>rw [e4] at k2;cases k2
   | some x=>
    rw [e4] at k2
    simp only [] at k2
    split at k2
    ·rename_i hk
     refine ⟨x.1,x.2.1,?_,hk⟩
     rw [z2 L fun _ q=>by rw [hM] at q;exact absurd (congrArg List.length q) (by simp),val_some e4]
    ·cases k2
  ·rw [z2 _ fun _=>hM] at q
   by_cases hL:c.L=L
   ·subst hL
    exact ⟨c.n,Md.zero,z1 hv,k3 n q⟩
   ·rw [z2 L fun _=>hL]
    exact h.par L n q
end Go.Proofs.YthfcanpkhjgomaaGreat
