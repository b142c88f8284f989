import Derived.Test.YthfcanpkhjgomaaGreatCells
import Derived.Test.YthfcanpkhjgomaaGreatOwnR
set_option maxRecDepth 100000
set_option maxHeartbeats 2000000
namespace Go.Proofs.YthfcanpkhjgomaaGreat
open Go.RowKit
theorem bl_total:∀ a b:List UInt8,(Op.bytesLess a b||a==b)=!Op.bytesLess b a
 | [],[]=>rfl
 | [],_::_=>rfl
 | _::_,[]=>rfl
 | x::a,y::b=>by
  have ih:=bl_total a b
  have e1:(x::a==y::b)=(x==y&&a==b):=rfl
  simp only [Op.bytesLess,e1]
  by_cases h1:x<y
  ·have h2:¬ y<x:=fun h=>by have:=UInt8.lt_iff_toNat_lt.1 h;have:=UInt8.lt_iff_toNat_lt.1 h1;omega
   have h3:¬ y=x:=fun h=>by subst h;exact h2 h1
   simp [h1,h2,h3]
  ·by_cases h4:y<x
   ·have h3:¬ x=y:=fun h=>by subst h;exact h1 h4
    simp [h1,h4,h3]
   ·have h5:x=y:=UInt8.toNat_inj.1 (by have h6:¬ x.toNat<y.toNat:=fun h=>h1 (UInt8.lt_iff_toNat_lt.2 h);have h7:¬ y.toNat<x.toNat:=fun h=>h4 (UInt8.lt_iff_toNat_lt.2 h);omega)
    subst h5
    simp only [h1,decide_false,Bool.false_or,beq_self_eq_true,Bool.true_and]
    exact ih
theorem leB_geq (nm p:ByteArray):leB nm p=!Op.bytesLess p.toList nm.toList:=bl_total _ _
theorem joinL_snoc:∀ (L:List By) (x:By),L≠[]→joinL (L++[x])=joinL L++47::x
 | [],_,h=>absurd rfl h
 | [a],x,_=>by simp [joinL]
 | a::b::L,x,_=>by
  have ih:=joinL_snoc (b::L) x (by simp)
  simp only [List.cons_append,joinL] at ih ⊢
  rw [ih]
  simp
def pS (L:List ByteArray):ByteArray:=ofB (joinL (L.map tl))
theorem pS_size (L:List ByteArray):(pS L).size≤wsum L:=by
 rw [← jg,pS,qF]
 exact join_wsum L
theorem pS_snoc (L:List ByteArray) (nm:ByteArray) (h:L≠[]):(pS L++⟨#[47]⟩)++nm=pS (L++[nm]):=by
 refine ext_of _ _ ?_
 rw [tl_append,tl_append,pS,pS,qF,qF,List.map_append,List.map_cons,List.map_nil,joinL_snoc _ _ (by simpa using h)]
 simp [tl]
theorem pS_one (nm:ByteArray):pS [nm]=nm:=by
 refine ext_of _ _ ?_
 rw [pS,qF]
 rfl
theorem faultF_ne:∀ (f:F) (prev:Option ByteArray) (L P:List ByteArray) (e:Int),faultF f prev L=some (P,e)→e≠0
 | .nil,_,_,_,_,h=>by cases h
 | .cons nm v m ks r,prev,L,P,e,h=>by
  rw [faultF] at h
  split at h
  ·rename_i h1;injection h with h;injection h with _ h2;subst h2;exact h1
  ·split at h
   ·rename_i h1;injection h with h;injection h with _ h2;subst h2;exact h1
   ·cases hx:faultF ks none (L++[nm]) with
    | some x=>
     rw [hx] at h
     injection h with h
     subst h
     exact faultF_ne ks none (L++[nm]) P e hx
    | none=>
     rw [hx] at h
     exact faultF_ne r (some nm) L P e h
def RefOk (ks:F):Prop:=∀ (nm:ByteArray) (v:Vd) (m:Md) (c:Array Value) (w:World) (L:List ByteArray),HasN w c nm v m ks→ks.weight+wsum L≤200000→L.length≤64→
  Calls Tryz.prog 69 #[.agg c,.string (pS L),.int .i64 L.length] w fun e w'=>e=.returned (.tuple #[.string (pS (namesOf (faultF ks none L))),.int .i64 (errOf (faultF ks none L))])∧G w w'
theorem ref_any:∀ (Z:Nat) (ks:F),ks.size<Z→RefOk ks:=by
 intro Z
 induction Z with
 | zero=>intro f h;omega
 | succ Z ih=>
  intro ks hZ nm v m c w L ⟨kv,hc,hS⟩ hw hL
  obtain ⟨a,cap,rfl,_⟩:=hS.form
  obtain ⟨N,hN⟩:∃ N,ks.len=N:=⟨_,rfl⟩
  have hN2:N≤9223372036854775807:=by have:=ks.len_le_size;have:=F.size_le_weight ks;omega
  obtain ⟨R,hR⟩:∃ R,faultF ks none L=R:=⟨_,rfl⟩
  rw [hR]
  have HR:=hid hR
  have hl:=Var.new w c
  have HV:Hid (Var (w.alloc (.cells c 30)) w.heap.size c∧G w (w.alloc (.cells c 30))):=⟨hl,G.alloc _ _⟩
  have c40:=jG hl.lies 40 (.slice a N cap) (by rw [hc,hN];exact qB ..)
  have HS:Hid (HasS w (.slice a ks.len cap) ks∧ks.len=N∧ks.size<Z+1∧ks.weight+wsum L≤200000):=⟨hS,hN,hZ,hw⟩
  have HIH:Hid (∀ ks:F,ks.size<Z→RefOk ks):=ih
  obtain ⟨P,hP⟩:∃ P,pS L=P:=⟨_,rfl⟩
  have hPs:P.size≤200000:=by rw [← hP];have:=pS_size L;omega
  rw [hP]
  have HP:=hid hP
  obtain ⟨n,hn⟩:∃ n,L.length=n:=⟨_,rfl⟩
  rw [hn] at hL ⊢
  have HLn:=hid hn
  clear hR hl hc hS hN hZ hw ih hP hn
  go_enter Tryz.func69,Tryz.ntmps69
  go_upto_region 1 with fail
  generalize w.alloc (.cells c 30)=w1 at *
  generalize w.heap.size=H at *
  go_wp2_with fail
  go_loopw [8] (fun i wr=>∃ k:Nat,i=.int .i64 k∧k≤N∧wr.cell? ⟨H,40,none⟩=some (.slice a N cap)∧Hid (G w wr∧∃ prev,PrevIs ks k prev∧R=faultF (ks.drop k) prev L)) (fun i _=>N-iOf i)
  case atStart=>exact ⟨0,rfl,Nat.zero_le _,c40,HV.out.2,none,.inl ⟨rfl,rfl⟩,by rw [F.drop_zero];exact HR.out.symm⟩
  case round=>
   clear c40
   obtain ⟨k,rfl,hk,q40,HI⟩:=hrel
   by_cases hlt:k<N
   ·have hltI:(k:Int)<(N:Int):=by omega
    obtain ⟨g2,o2,cp,nm1,v1,m1,ks1,c1,hv1,hd1,hN1,hc1⟩:=HS.out.1.at (k:=k) (by rw [HS.out.2.1];exact hlt)
    obtain rfl:a=some ⟨g2,o2,none⟩:=by injection hv1
    clear hv1
    obtain ⟨prev,hprev,hfe⟩:=HI.out.2
    have HG:Hid (G w wr):=HI.out.1
    have hksz:=F.kids_size hd1
    have hwt:nm1.size+ks1.weight+1+wsum L≤200000:=by
     have h1:=HS.out.2.2.2
     have h2:=congrArg F.weight (F.jw ks k)
     rw [F.app_weight,hd1,F.weight] at h2
     omega
    obtain ⟨kv1,hc1e,hS1⟩:=hN1
    obtain ⟨a1,cap1,rfl,_⟩:=hS1.form
    obtain ⟨N1,hN1⟩:∃ x,ks1.len=x:=⟨_,rfl⟩
    rw [hN1] at hc1e
    have HC1:Hid (Lies wr g2 (o2+k*41) c1∧c1.size=41∧c1.all (·.oneCell')=true∧c1=nc nm1 v1 m1 (.slice a1 N1 cap1)):=⟨HG.out.lies hc1,by rw [hc1e];exact jZ ..,by rw [hc1e];exact nc_one _ _ _ _ rfl,hc1e⟩
    have HF1:Hid (R=faultF (F.cons nm1 v1 m1 ks1 (ks.drop (k+1))) prev L):=by show _=_;rw [hfe,hd1]
    have HNX:Hid (PrevIs ks (k+1) (some nm1)):=.inr ⟨k,nm1,v1,m1,ks1,_,rfl,rfl,hd1⟩
    have HN:Hid (∀ W,G w W→HasN W c1 nm1 v1 m1 ks1):=fun W hW=>⟨_,by rw [← hN1] at hc1e;exact hc1e,hS1.below hW⟩
    have hpv:Hid (∀ W,G w W→(k=0∧prev=none)∨∃ j p,k=j+1∧prev=some p∧W.cell? ⟨g2,o2+j*41,none⟩=some (.string p)):=by
     intro W hW
     rcases hprev with h | ⟨j,nm',v',m',k',r',rfl,rfl,hj⟩
     ·exact .inl h
     ·obtain ⟨g3,o3,cp3,nm3,v3,m3,ks3,c3,hv3,hd3,⟨kv3,rfl,_⟩,hc3⟩:=HS.out.1.at (k:=j) (by rw [HS.out.2.1];omega)
      injection hv3 with e1
      injection e1 with e1
      injection e1 with e1 e2
      subst e1 e2
      rw [hj] at hd3
      injection hd3 with e3
      subst e3
      exact .inr ⟨j,_,rfl,rfl,hW.cell (hc3 0 _ (nc_name ..))⟩
    have HKS:Hid (ks1.size<Z∧nm1.size+ks1.weight+1+wsum L≤200000∧ks1.len=N1):=⟨by have:=HS.out.2.2.1;omega,hwt,hN1⟩
    have hnm:nm1.size≤200000:=by omega
    obtain ⟨Q1,hQ1⟩:∃ Q1,pS (L++[nm1])=Q1:=⟨_,rfl⟩
    have HQ1:=hid hQ1
    have hcat:L≠[]→(P++⟨#[47]⟩)++nm1=Q1:=fun h=>by rw [← HP.out,← hQ1];exact pS_snoc L nm1 h
    clear hQ1 hprev hfe hd1 hc1 hksz hwt hS1 hN1 hc1e HI
    go_upto_region 5 with (first
     | (with_reducible refine jA (.agg c1) ?_ ?_ ?_;exact jH _ rfl g2 (o2+k*41) rfl c1 HC1.out.2.1 HC1.out.1;kernel_rfl)
     | (with_reducible refine jJ (.pointer (some ⟨wr.heap.size,0,none⟩)) (wr.alloc (.cells z30 30)) ?_ ?_ ?_;exact exec_alloc30 rfl _;kernel_rfl)
     | (with_reducible refine jP ((wr.alloc (.cells z30 30)).setRow wr.heap.size c1) ?_ ?_ ?_;exact jX _ _ rfl wr.heap.size c1 z30 rfl rfl _ (Var.new _ _) HC1.out.2.1 jU HC1.out.2.2.1;kernel_rfl))
    obtain ⟨gB,vB,sB⟩:=new_var wr c1
    have HB:Hid (G w ((wr.alloc (.cells z30 30)).setRow wr.heap.size c1)∧Var ((wr.alloc (.cells z30 30)).setRow wr.heap.size c1) wr.heap.size c1):=⟨HG.out.trans gB,vB⟩
    have b0:=jG vB.lies 0 (.string nm1) (by rw [HC1.out.2.2.2];exact nc_name ..)
    have b40:=gB.cell q40
    clear gB vB sB q40
    generalize hBB:wr.heap.size=B at *
    clear hBB
    generalize (wr.alloc (.cells z30 30)).setRow B c1=w2 at *
    by_cases hn0:n=0
    ·have hL0:L=[]:=List.length_eq_zero_iff.1 (by rw [HLn.out];exact hn0)
     have HQN:Hid (nm1=Q1):=by show _=_;rw [← HQ1.out,hL0];exact (pS_one nm1).symm
     have hn0':¬ (0:Int)<(n:Int):=by omega
     clear hn0 hL0 hcat
     go_upto_region 8 with fail
     rw [HQN.out]
     have hnmI:nm1.size≤9223372036854775807:=by omega
     have CN:=refCheck_any nm1 w2 hnmI
     obtain ⟨E1,hE1⟩:∃ E,ownE v1 m1 (decide (0<N1))=E:=⟨_,rfl⟩
     have HE1:=hid hE1
     clear hE1
     by_cases hdeep:64<n+1
     ·have hd':(64:Int)<(n:Int)+1:=by omega
      have HX:Hid (R=some (L++[nm1],43)):=by show _=_;rw [HF1.out,je,HLn.out,placeE,if_pos hdeep,if_pos (by simp)]
      have n1:IntKind.i64.wrap ((n:Int)+1)=(n:Int)+1:=by rw [IntKind.wrap_i64];omega
      clear hdeep
      go_wp2_with fail
      go_ret2
      exact ⟨by rw [HX.out];show _=Ending.returned (.tuple #[.string (pS (L++[nm1])),.int .i64 43]);rw [HQ1.out];rfl,HB.out.1⟩
     ·have hd':¬ (64:Int)<(n:Int)+1:=by omega
      have n0:IntKind.i64.wrap ((n:Int)+1)=(n:Int)+1:=by rw [IntKind.wrap_i64];omega
      obtain ⟨b,hb⟩:∃ b,nameB (tl nm1)=b:=⟨_,rfl⟩
      rw [hb] at CN
      have HBN:=hid hb
      clear hb
      have HPE0:Hid (placeE prev nm1 (L.length+1)=if nameB (tl nm1)=false then 30 else if leP nm1 prev=true then 42 else 0):=by show _=_;rw [HLn.out,placeE,if_neg hdeep]
      clear hdeep
      cases b with
      | false=>
       rw [show eno false=30 from rfl] at CN
       have HX:Hid (R=some (L++[nm1],30)):=by show _=_;rw [HF1.out,je,HPE0.out,if_pos HBN.out,if_pos (by simp)]
       go_upto_region 11 with (go_at_call 105;refine CN.mono ?_;rintro e w9 ⟨rfl,e9⟩;have e8:=e9.symm;subst e8;clear e9)
       refine jV ?_
       have HD:Hid (G w w2.drew∧Var w2.drew B c1):=⟨HB.out.1.trans (G.drew _),HB.out.2.grow (G.drew _)⟩
       have f40:=(G.drew w2).cell b40
       have fb:=(G.drew w2).cell b0
       generalize w2.drew=w3 at *
       refine takeG 0 42 (.int .i64 30) rfl rfl (by kernel_rfl) (by kernel_rfl) (by kernel_rfl) (fun _ _ _ h=>h) (by kernel_rfl) (fun wz hz=>?_) ?_
       ·rfl
       try simp only [Act.put,sA,sB,sC]
       refine takeG 1 43 (.bool false) rfl rfl (by kernel_rfl) (by kernel_rfl) (by kernel_rfl) (fun _ _ _ h=>h) (by kernel_rfl) (fun wz hz=>?_) ?_
       ·go_simp
       try simp only [Act.put,sA,sB,sC]
       refine takeG 2 44 (.bool false) rfl rfl (by kernel_rfl) (by kernel_rfl) (by kernel_rfl) (fun _ _ _ h=>h) (by kernel_rfl) (fun wz hz=>?_) ?_
       ·rfl
       try simp only [Act.put,sA,sB,sC]
       refine skipG 3 45 rfl rfl (by kernel_rfl) (by kernel_rfl) (by kernel_rfl) (fun _ _ _ h=>h) (by kernel_rfl) ?_
       try simp only [Act.put,sA,sB,sC]
       refine skipG 4 46 rfl rfl (by kernel_rfl) (by kernel_rfl) (by kernel_rfl) (fun _ _ _ h=>h) (by kernel_rfl) ?_
       try simp only [Act.put,sA,sB,sC]
       refine takeG 5 47 (.bool false) rfl rfl (by kernel_rfl) (by kernel_rfl) (by kernel_rfl) (fun _ _ _ h=>h) (by kernel_rfl) (fun wz hz=>?_) ?_
       ·go_simp
       try simp only [Act.put,sA,sB,sC]
       refine takeG 6 48 (.bool false) rfl rfl (by kernel_rfl) (by kernel_rfl) (by kernel_rfl) (fun _ _ _ h=>h) (by kernel_rfl) (fun wz hz=>?_) ?_
       ·rfl
       try simp only [Act.put,sA,sB,sC]
       refine skipG 7 49 rfl rfl (by kernel_rfl) (by kernel_rfl) (by kernel_rfl) (fun _ _ _ h=>h) (by kernel_rfl) ?_
       try simp only [Act.put,sA,sB,sC]
       refine skipG 8 50 rfl rfl (by kernel_rfl) (by kernel_rfl) (by kernel_rfl) (fun _ _ _ h=>h) (by kernel_rfl) ?_
       try simp only [Act.put,sA,sB,sC]
       refine skipG 9 51 rfl rfl (by kernel_rfl) (by kernel_rfl) (by kernel_rfl) (fun _ _ _ h=>h) (by kernel_rfl) ?_
       try simp only [Act.put,sA,sB,sC]
       refine skipG 10 52 rfl rfl (by kernel_rfl) (by kernel_rfl) (by kernel_rfl) (fun _ _ _ h=>h) (by kernel_rfl) ?_
       try simp only [Act.put,sA,sB,sC]
       refine skipG 11 53 rfl rfl (by kernel_rfl) (by kernel_rfl) (by kernel_rfl) (fun _ _ _ h=>h) (by kernel_rfl) ?_
       try simp only [Act.put,sA,sB,sC]
       refine skipG 12 54 rfl rfl (by kernel_rfl) (by kernel_rfl) (by kernel_rfl) (fun _ _ _ h=>h) (by kernel_rfl) ?_
       try simp only [Act.put,sA,sB,sC]
       refine skipG 13 55 rfl rfl (by kernel_rfl) (by kernel_rfl) (by kernel_rfl) (fun _ _ _ h=>h) (by kernel_rfl) ?_
       try simp only [Act.put,sA,sB,sC]
       refine skipG 14 56 rfl rfl (by kernel_rfl) (by kernel_rfl) (by kernel_rfl) (fun _ _ _ h=>h) (by kernel_rfl) ?_
       try simp only [Act.put,sA,sB,sC]
       refine skipG 15 57 rfl rfl (by kernel_rfl) (by kernel_rfl) (by kernel_rfl) (fun _ _ _ h=>h) (by kernel_rfl) ?_
       try simp only [Act.put,sA,sB,sC]
       refine skipG 16 58 rfl rfl (by kernel_rfl) (by kernel_rfl) (by kernel_rfl) (fun _ _ _ h=>h) (by kernel_rfl) ?_
       try simp only [Act.put,sA,sB,sC]
       refine takeG 17 59 (.bool false) rfl rfl (by kernel_rfl) (by kernel_rfl) (by kernel_rfl) (fun _ _ _ h=>h) (by kernel_rfl) (fun wz hz=>?_) ?_
       ·go_simp
       try simp only [Act.put,sA,sB,sC]
       refine doneG (by kernel_rfl) (fun w5 hg5=>?_)
       have HW5:Hid (G w w5∧Var w5 B c1):=⟨HD.out.1.trans hg5,HD.out.2.grow hg5⟩
       have k40:=hg5.cell f40
       clear hg5 HD fb f40
       go_wp2_with fail
       go_ret2
       exact ⟨by rw [HX.out];show _=Ending.returned (.tuple #[.string (pS (L++[nm1])),.int .i64 30]);rw [HQ1.out];rfl,HW5.out.1⟩
      | true=>
       rw [show eno true=0 from rfl] at CN
       have HPE1:Hid (placeE prev nm1 (L.length+1)=if leP nm1 prev=true then 42 else 0):=by show _=_;rw [HPE0.out,HBN.out];simp
       have hpv2:=hpv.out w2.drew (HB.out.1.trans (G.drew _))
       rcases hpv2 with ⟨hk0,rfl⟩ | ⟨j,pp,hkj,rfl,hpp⟩
       ·have hk0':¬ 0<k:=by omega
        clear hk0
        have HPL:Hid (placeE none nm1 (L.length+1)=0):=by show _=_;rw [HPE1.out];rfl
        go_upto_region 11 with (go_at_call 105;refine CN.mono ?_;rintro e w9 ⟨rfl,e9⟩;have e8:=e9.symm;subst e8;clear e9)
        refine jV ?_
        have HD:Hid (G w w2.drew∧Var w2.drew B c1):=⟨HB.out.1.trans (G.drew _),HB.out.2.grow (G.drew _)⟩
        have f40:=(G.drew w2).cell b40
        have fb:=(G.drew w2).cell b0
        generalize w2.drew=w3 at *
        refine takeG 0 42 (.int .i64 0) rfl rfl (by kernel_rfl) (by kernel_rfl) (by kernel_rfl) (fun _ _ _ h=>h) (by kernel_rfl) (fun wz hz=>?_) ?_
        ·rfl
        try simp only [Act.put,sA,sB,sC]
        refine takeG 1 43 (.bool true) rfl rfl (by kernel_rfl) (by kernel_rfl) (by kernel_rfl) (fun _ _ _ h=>h) (by kernel_rfl) (fun wz hz=>?_) ?_
        ·go_simp
        try simp only [Act.put,sA,sB,sC]
        refine takeG 2 44 (.bool true) rfl rfl (by kernel_rfl) (by kernel_rfl) (by kernel_rfl) (fun _ _ _ h=>h) (by kernel_rfl) (fun wz hz=>?_) ?_
        ·rfl
        try simp only [Act.put,sA,sB,sC]
        refine takeG 3 45 (.int .i64 k) rfl rfl (by kernel_rfl) (by kernel_rfl) (by kernel_rfl) (fun _ _ _ h=>h) (by kernel_rfl) (fun wz hz=>?_) ?_
        ·rfl
        try simp only [Act.put,sA,sB,sC]
        refine takeG 4 46 (.bool false) rfl rfl (by kernel_rfl) (by kernel_rfl) (by kernel_rfl) (fun _ _ _ h=>h) (by kernel_rfl) (fun wz hz=>?_) ?_
        ·go_simp
        try simp only [Act.put,sA,sB,sC]
        refine takeG 5 47 (.bool false) rfl rfl (by kernel_rfl) (by kernel_rfl) (by kernel_rfl) (fun _ _ _ h=>h) (by kernel_rfl) (fun wz hz=>?_) ?_
        ·go_simp
        try simp only [Act.put,sA,sB,sC]
        refine takeG 6 48 (.bool false) rfl rfl (by kernel_rfl) (by kernel_rfl) (by kernel_rfl) (fun _ _ _ h=>h) (by kernel_rfl) (fun wz hz=>?_) ?_
        ·rfl
        try simp only [Act.put,sA,sB,sC]
        refine skipG 7 49 rfl rfl (by kernel_rfl) (by kernel_rfl) (by kernel_rfl) (fun _ _ _ h=>h) (by kernel_rfl) ?_
        try simp only [Act.put,sA,sB,sC]
        refine skipG 8 50 rfl rfl (by kernel_rfl) (by kernel_rfl) (by kernel_rfl) (fun _ _ _ h=>h) (by kernel_rfl) ?_
        try simp only [Act.put,sA,sB,sC]
        refine skipG 9 51 rfl rfl (by kernel_rfl) (by kernel_rfl) (by kernel_rfl) (fun _ _ _ h=>h) (by kernel_rfl) ?_
        try simp only [Act.put,sA,sB,sC]
        refine skipG 10 52 rfl rfl (by kernel_rfl) (by kernel_rfl) (by kernel_rfl) (fun _ _ _ h=>h) (by kernel_rfl) ?_
        try simp only [Act.put,sA,sB,sC]
        refine skipG 11 53 rfl rfl (by kernel_rfl) (by kernel_rfl) (by kernel_rfl) (fun _ _ _ h=>h) (by kernel_rfl) ?_
        try simp only [Act.put,sA,sB,sC]
        refine skipG 12 54 rfl rfl (by kernel_rfl) (by kernel_rfl) (by kernel_rfl) (fun _ _ _ h=>h) (by kernel_rfl) ?_
        try simp only [Act.put,sA,sB,sC]
        refine skipG 13 55 rfl rfl (by kernel_rfl) (by kernel_rfl) (by kernel_rfl) (fun _ _ _ h=>h) (by kernel_rfl) ?_
        try simp only [Act.put,sA,sB,sC]
        refine skipG 14 56 rfl rfl (by kernel_rfl) (by kernel_rfl) (by kernel_rfl) (fun _ _ _ h=>h) (by kernel_rfl) ?_
        try simp only [Act.put,sA,sB,sC]
        refine skipG 15 57 rfl rfl (by kernel_rfl) (by kernel_rfl) (by kernel_rfl) (fun _ _ _ h=>h) (by kernel_rfl) ?_
        try simp only [Act.put,sA,sB,sC]
        refine skipG 16 58 rfl rfl (by kernel_rfl) (by kernel_rfl) (by kernel_rfl) (fun _ _ _ h=>h) (by kernel_rfl) ?_
        try simp only [Act.put,sA,sB,sC]
        refine takeG 17 59 (.bool false) rfl rfl (by kernel_rfl) (by kernel_rfl) (by kernel_rfl) (fun _ _ _ h=>h) (by kernel_rfl) (fun wz hz=>?_) ?_
        ·go_simp
        try simp only [Act.put,sA,sB,sC]
        refine doneG (by kernel_rfl) (fun w5 hg5=>?_)
        have HW5:Hid (G w w5∧Var w5 B c1):=⟨HD.out.1.trans hg5,HD.out.2.grow hg5⟩
        have k40:=hg5.cell f40
        clear hg5 HD fb f40
        have CO:=hid (fun (W:World)=>(by have:=own_any v1 m1 N1 (vx v1).toArray (mx m1).toArray rfl rfl W;rw [HE1.out] at this;exact this:Calls Tryz.prog 68 #[.agg (vx v1).toArray,.agg (mx m1).toArray,.int .i64 N1] W fun e w'=>e=.returned (.int .i64 E1)∧G W w'))
        have hB1:Lies w5 B 0 (nc nm1 v1 m1 (.slice a1 N1 cap1)):=by rw [← HC1.out.2.2.2];exact (HW5.out.2).lies
        have l40:=jG HW5.out.2.lies 40 (.slice a1 N1 cap1) (by rw [HC1.out.2.2.2];exact qB ..)
        have HLB:Hid (Lies w5 B 1 (vx v1).toArray∧Lies w5 B 36 (mx m1).toArray):=⟨by have:=lies_val hB1;simpa using this,by have:=qL hB1;simpa using this⟩
        clear hB1
        by_cases he1:E1=0
        ·subst he1
         go_upto_region 17 with (first
          | (with_reducible refine jA (.agg (vx v1).toArray) ?_ ?_ ?_;exact jE _ rfl B 1 rfl _ (by simp [jQ]) HLB.out.1;kernel_rfl)
          | (with_reducible refine jA (.agg (mx m1).toArray) ?_ ?_ ?_;exact jO _ rfl B 36 rfl _ (by simp [ji]) HLB.out.2;kernel_rfl)
          | (go_at_call 68;refine (CO.out _).mono ?_;rintro e w6 ⟨rfl,g6⟩))
         have HW6:Hid (G w w6∧Var w6 B c1):=⟨HW5.out.1.trans g6,HW5.out.2.grow g6⟩
         have m40:=g6.cell k40
         obtain ⟨R2,hR2⟩:∃ R2,faultF ks1 none (L++[nm1])=R2:=⟨_,rfl⟩
         have hws:wsum (L++[nm1])=wsum L+(1+nm1.size):=by rw [wsum_append];simp [wsum]
         have CR0:=HIH.out ks1 HKS.out.1 nm1 v1 m1 c1 w6 (L++[nm1]) (HN.out w6 HW6.out.1) (by have:=HKS.out.2.1;omega) (by rw [List.length_append,HLn.out];simp;omega)
         rw [hR2,HQ1.out,List.length_append,HLn.out] at CR0
         have CR:Calls Tryz.prog 69 #[.agg c1,.string Q1,.int .i64 ((n:Int)+1)] w6 fun e w'=>e=.returned (.tuple #[.string (pS (namesOf R2)),.int .i64 (errOf R2)])∧G w6 w':=by simpa using CR0
         have HR2:Hid (R=R2.or (faultF (ks.drop (k+1)) (some nm1) L)):=by
          show _=_
          rw [HF1.out,je,HPL.out,if_neg (by simp),faultN,HKS.out.2.2,HE1.out,if_neg (by simp),hR2]
          cases R2<;>rfl
         have HNZ:Hid (∀ x,R2=some x→x.2≠0):=fun x hx=>faultF_ne ks1 none (L++[nm1]) x.1 x.2 (by rw [hR2,hx])
         clear hR2 CR0 hws g6
         have n1:IntKind.i64.wrap ((n:Int)+1)=(n:Int)+1:=by rw [IntKind.wrap_i64];omega
         cases R2 with
         | none=>
          have HR3:Hid (R=faultF (ks.drop (k+1)) (some nm1) L):=HR2.out
          rw [show namesOf none=[] from rfl,show errOf none=0 from rfl] at CR
          go_wp2_with (first
           | (with_reducible refine jA (.agg c1) ?_ ?_ ?_;exact jH _ rfl B 0 rfl c1 HC1.out.2.1 HW6.out.2.lies;kernel_rfl)
           | (go_at_call 69;refine CR.mono ?_;rintro e w7 ⟨rfl,g7⟩;have HW7:Hid (G w w7):=HW6.out.1.trans g7;have p40:=g7.cell m40;clear g7 CR))
          go_roundw
          case rel=>exact ⟨k+1,by go_num,by omega,p40,HW7.out,some nm1,HNX.out,HR3.out⟩
          case measure=>simp;omega
         | some x=>
          obtain ⟨xp,xe⟩:=x
          have HR3:Hid (R=some (xp,xe)):=HR2.out
          have hxe:(xe != 0)=true:=by have:=HNZ.out (xp,xe) rfl;simpa using this
          rw [show namesOf (some (xp,xe))=xp from rfl,show errOf (some (xp,xe))=xe from rfl] at CR
          generalize hSX:pS xp=SX at *
          have HSX:=hid hSX
          clear hSX
          go_wp2_with (first
           | (with_reducible refine jA (.agg c1) ?_ ?_ ?_;exact jH _ rfl B 0 rfl c1 HC1.out.2.1 HW6.out.2.lies;kernel_rfl)
           | (go_at_call 69;refine CR.mono ?_;rintro e w7 ⟨rfl,g7⟩;have HW7:Hid (G w w7):=HW6.out.1.trans g7;clear g7 CR))
          go_ret2
          exact ⟨by rw [HR3.out];show _=Ending.returned (.tuple #[.string (pS xp),.int .i64 xe]);rw [HSX.out];rfl,HW7.out⟩
        ·have he1':(E1 != 0)=true:=by simpa using he1
         have HX:Hid (R=some (L++[nm1],E1)):=by show _=_;rw [HF1.out,je,HPL.out,if_neg (by simp),faultN,HKS.out.2.2,HE1.out,if_pos he1]
         clear he1
         go_wp2_with (first
          | (with_reducible refine jA (.agg (vx v1).toArray) ?_ ?_ ?_;exact jE _ rfl B 1 rfl _ (by simp [jQ]) HLB.out.1;kernel_rfl)
          | (with_reducible refine jA (.agg (mx m1).toArray) ?_ ?_ ?_;exact jO _ rfl B 36 rfl _ (by simp [ji]) HLB.out.2;kernel_rfl)
          | (go_at_call 68;refine (CO.out _).mono ?_;rintro e w6 ⟨rfl,g6⟩))
         go_ret2
         exact ⟨by rw [HX.out];show _=Ending.returned (.tuple #[.string (pS (L++[nm1])),.int .i64 E1]);rw [HQ1.out];rfl,HW5.out.1.trans g6⟩
       ·have hk0':0<k:=by omega
        have j2:IntKind.i64.wrap ((k:Int)-1)=(j:Int):=by rw [IntKind.wrap_i64];omega
        have j3:(j:Int)<(N:Int):=by omega
        obtain ⟨bl,hbl⟩:∃ b,leB nm1 pp=b:=⟨_,rfl⟩
        have HBL:Hid (leB nm1 pp=bl):=hbl
        have HBL2:Hid ((!Op.bytesLess pp.toList nm1.toList)=bl):=by show _=_;rw [← leB_geq];exact hbl
        have hbl2:=HBL2.out
        clear hbl hkj
        go_upto_region 11 with (go_at_call 105;refine CN.mono ?_;rintro e w9 ⟨rfl,e9⟩;have e8:=e9.symm;subst e8;clear e9)
        refine jV ?_
        have HD:Hid (G w w2.drew∧Var w2.drew B c1):=⟨HB.out.1.trans (G.drew _),HB.out.2.grow (G.drew _)⟩
        have f40:=(G.drew w2).cell b40
        have fb:=(G.drew w2).cell b0
        have fpp:=hpp
        generalize w2.drew=w3 at *
        refine takeG 0 42 (.int .i64 0) rfl rfl (by kernel_rfl) (by kernel_rfl) (by kernel_rfl) (fun _ _ _ h=>h) (by kernel_rfl) (fun wz hz=>?_) ?_
        ·rfl
        try simp only [Act.put,sA,sB,sC]
        refine takeG 1 43 (.bool true) rfl rfl (by kernel_rfl) (by kernel_rfl) (by kernel_rfl) (fun _ _ _ h=>h) (by kernel_rfl) (fun wz hz=>?_) ?_
        ·go_simp
        try simp only [Act.put,sA,sB,sC]
        refine takeG 2 44 (.bool true) rfl rfl (by kernel_rfl) (by kernel_rfl) (by kernel_rfl) (fun _ _ _ h=>h) (by kernel_rfl) (fun wz hz=>?_) ?_
        ·rfl
        try simp only [Act.put,sA,sB,sC]
        refine takeG 3 45 (.int .i64 k) rfl rfl (by kernel_rfl) (by kernel_rfl) (by kernel_rfl) (fun _ _ _ h=>h) (by kernel_rfl) (fun wz hz=>?_) ?_
        ·rfl
        try simp only [Act.put,sA,sB,sC]
        refine takeG 4 46 (.bool true) rfl rfl (by kernel_rfl) (by kernel_rfl) (by kernel_rfl) (fun _ _ _ h=>h) (by kernel_rfl) (fun wz hz=>?_) ?_
        ·go_simp
        try simp only [Act.put,sA,sB,sC]
        refine takeG 5 47 (.bool true) rfl rfl (by kernel_rfl) (by kernel_rfl) (by kernel_rfl) (fun _ _ _ h=>h) (by kernel_rfl) (fun wz hz=>?_) ?_
        ·go_simp
        try simp only [Act.put,sA,sB,sC]
        refine takeG 6 48 (.bool true) rfl rfl (by kernel_rfl) (by kernel_rfl) (by kernel_rfl) (fun _ _ _ h=>h) (by kernel_rfl) (fun wz hz=>?_) ?_
        ·rfl
        try simp only [Act.put,sA,sB,sC]
        refine takeG 7 49 (.pointer (some ⟨H,40,none⟩)) rfl rfl (by kernel_rfl) (by kernel_rfl) (by kernel_rfl) (fun _ _ _ h=>h) (by kernel_rfl) (fun wz hz=>?_) ?_
        ·go_simp
        try simp only [Act.put,sA,sB,sC]
        refine takeG 8 50 (.slice (some ⟨g2,o2,none⟩) N cap) rfl rfl (by kernel_rfl) (by kernel_rfl) (by kernel_rfl) (fun _ _ _ h=>h) (by kernel_rfl) (fun wz hz=>?_) ?_
        ·have y0:=hz.cell f40;go_simp
        try simp only [Act.put,sA,sB,sC]
        refine takeG 9 51 (.int .i64 k) rfl rfl (by kernel_rfl) (by kernel_rfl) (by kernel_rfl) (fun _ _ _ h=>h) (by kernel_rfl) (fun wz hz=>?_) ?_
        ·rfl
        try simp only [Act.put,sA,sB,sC]
        refine takeG 10 52 (.int .i64 j) rfl rfl (by kernel_rfl) (by kernel_rfl) (by kernel_rfl) (fun _ _ _ h=>h) (by kernel_rfl) (fun wz hz=>?_) ?_
        ·go_simp
        try simp only [Act.put,sA,sB,sC]
        refine takeG 11 53 (.pointer (some ⟨g2,o2+j*41,none⟩)) rfl rfl (by kernel_rfl) (by kernel_rfl) (by kernel_rfl) (fun _ _ _ h=>h) (by kernel_rfl) (fun wz hz=>?_) ?_
        ·go_simp
        try simp only [Act.put,sA,sB,sC]
        refine takeG 12 54 (.pointer (some ⟨g2,o2+j*41,none⟩)) rfl rfl (by kernel_rfl) (by kernel_rfl) (by kernel_rfl) (fun _ _ _ h=>h) (by kernel_rfl) (fun wz hz=>?_) ?_
        ·go_simp
        try simp only [Act.put,sA,sB,sC]
        refine takeG 13 55 (.string pp) rfl rfl (by kernel_rfl) (by kernel_rfl) (by kernel_rfl) (fun _ _ _ h=>h) (by kernel_rfl) (fun wz hz=>?_) ?_
        ·have y0:=hz.cell fpp;go_simp
        try simp only [Act.put,sA,sB,sC]
        refine takeG 14 56 (.pointer (some ⟨B,0,none⟩)) rfl rfl (by kernel_rfl) (by kernel_rfl) (by kernel_rfl) (fun _ _ _ h=>h) (by kernel_rfl) (fun wz hz=>?_) ?_
        ·go_simp
        try simp only [Act.put,sA,sB,sC]
        refine takeG 15 57 (.string nm1) rfl rfl (by kernel_rfl) (by kernel_rfl) (by kernel_rfl) (fun _ _ _ h=>h) (by kernel_rfl) (fun wz hz=>?_) ?_
        ·have y0:=hz.cell fb;go_simp
        try simp only [Act.put,sA,sB,sC]
        refine takeG 16 58 (.bool bl) rfl rfl (by kernel_rfl) (by kernel_rfl) (by kernel_rfl) (fun _ _ _ h=>h) (by kernel_rfl) (fun wz hz=>?_) ?_
        ·go_simp
        try simp only [Act.put,sA,sB,sC]
        refine takeG 17 59 (.bool bl) rfl rfl (by kernel_rfl) (by kernel_rfl) (by kernel_rfl) (fun _ _ _ h=>h) (by kernel_rfl) (fun wz hz=>?_) ?_
        ·go_simp
        try simp only [Act.put,sA,sB,sC]
        refine doneG (by kernel_rfl) (fun w5 hg5=>?_)
        have HW5:Hid (G w w5∧Var w5 B c1):=⟨HD.out.1.trans hg5,HD.out.2.grow hg5⟩
        have k40:=hg5.cell f40
        clear hg5 HD fb f40
        cases bl with
        | false=>
         have HPL:Hid (placeE (some pp) nm1 (L.length+1)=0):=by show _=_;rw [HPE1.out,leP,HBL.out];rfl
         have CO:=hid (fun (W:World)=>(by have:=own_any v1 m1 N1 (vx v1).toArray (mx m1).toArray rfl rfl W;rw [HE1.out] at this;exact this:Calls Tryz.prog 68 #[.agg (vx v1).toArray,.agg (mx m1).toArray,.int .i64 N1] W fun e w'=>e=.returned (.int .i64 E1)∧G W w'))
         have hB1:Lies w5 B 0 (nc nm1 v1 m1 (.slice a1 N1 cap1)):=by rw [← HC1.out.2.2.2];exact (HW5.out.2).lies
         have l40:=jG HW5.out.2.lies 40 (.slice a1 N1 cap1) (by rw [HC1.out.2.2.2];exact qB ..)
         have HLB:Hid (Lies w5 B 1 (vx v1).toArray∧Lies w5 B 36 (mx m1).toArray):=⟨by have:=lies_val hB1;simpa using this,by have:=qL hB1;simpa using this⟩
         clear hB1
         by_cases he1:E1=0
         ·subst he1
          go_upto_region 17 with (first
           | (with_reducible refine jA (.agg (vx v1).toArray) ?_ ?_ ?_;exact jE _ rfl B 1 rfl _ (by simp [jQ]) HLB.out.1;kernel_rfl)
           | (with_reducible refine jA (.agg (mx m1).toArray) ?_ ?_ ?_;exact jO _ rfl B 36 rfl _ (by simp [ji]) HLB.out.2;kernel_rfl)
           | (go_at_call 68;refine (CO.out _).mono ?_;rintro e w6 ⟨rfl,g6⟩))
          have HW6:Hid (G w w6∧Var w6 B c1):=⟨HW5.out.1.trans g6,HW5.out.2.grow g6⟩
          have m40:=g6.cell k40
          obtain ⟨R2,hR2⟩:∃ R2,faultF ks1 none (L++[nm1])=R2:=⟨_,rfl⟩
          have hws:wsum (L++[nm1])=wsum L+(1+nm1.size):=by rw [wsum_append];simp [wsum]
          have CR0:=HIH.out ks1 HKS.out.1 nm1 v1 m1 c1 w6 (L++[nm1]) (HN.out w6 HW6.out.1) (by have:=HKS.out.2.1;omega) (by rw [List.length_append,HLn.out];simp;omega)
          rw [hR2,HQ1.out,List.length_append,HLn.out] at CR0
          have CR:Calls Tryz.prog 69 #[.agg c1,.string Q1,.int .i64 ((n:Int)+1)] w6 fun e w'=>e=.returned (.tuple #[.string (pS (namesOf R2)),.int .i64 (errOf R2)])∧G w6 w':=by simpa using CR0
          have HR2:Hid (R=R2.or (faultF (ks.drop (k+1)) (some nm1) L)):=by
           show _=_
           rw [HF1.out,je,HPL.out,if_neg (by simp),faultN,HKS.out.2.2,HE1.out,if_neg (by simp),hR2]
           cases R2<;>rfl
          have HNZ:Hid (∀ x,R2=some x→x.2≠0):=fun x hx=>faultF_ne ks1 none (L++[nm1]) x.1 x.2 (by rw [hR2,hx])
          clear hR2 CR0 hws g6
          have n1:IntKind.i64.wrap ((n:Int)+1)=(n:Int)+1:=by rw [IntKind.wrap_i64];omega
          cases R2 with
          | none=>
           have HR3:Hid (R=faultF (ks.drop (k+1)) (some nm1) L):=HR2.out
           rw [show namesOf none=[] from rfl,show errOf none=0 from rfl] at CR
           go_wp2_with (first
            | (with_reducible refine jA (.agg c1) ?_ ?_ ?_;exact jH _ rfl B 0 rfl c1 HC1.out.2.1 HW6.out.2.lies;kernel_rfl)
            | (go_at_call 69;refine CR.mono ?_;rintro e w7 ⟨rfl,g7⟩;have HW7:Hid (G w w7):=HW6.out.1.trans g7;have p40:=g7.cell m40;clear g7 CR))
           go_roundw
           case rel=>exact ⟨k+1,by go_num,by omega,p40,HW7.out,some nm1,HNX.out,HR3.out⟩
           case measure=>simp;omega
          | some x=>
           obtain ⟨xp,xe⟩:=x
           have HR3:Hid (R=some (xp,xe)):=HR2.out
           have hxe:(xe != 0)=true:=by have:=HNZ.out (xp,xe) rfl;simpa using this
           rw [show namesOf (some (xp,xe))=xp from rfl,show errOf (some (xp,xe))=xe from rfl] at CR
           generalize hSX:pS xp=SX at *
           have HSX:=hid hSX
           clear hSX
           go_wp2_with (first
            | (with_reducible refine jA (.agg c1) ?_ ?_ ?_;exact jH _ rfl B 0 rfl c1 HC1.out.2.1 HW6.out.2.lies;kernel_rfl)
            | (go_at_call 69;refine CR.mono ?_;rintro e w7 ⟨rfl,g7⟩;have HW7:Hid (G w w7):=HW6.out.1.trans g7;clear g7 CR))
           go_ret2
           exact ⟨by rw [HR3.out];show _=Ending.returned (.tuple #[.string (pS xp),.int .i64 xe]);rw [HSX.out];rfl,HW7.out⟩
         ·have he1':(E1 != 0)=true:=by simpa using he1
          have HX:Hid (R=some (L++[nm1],E1)):=by show _=_;rw [HF1.out,je,HPL.out,if_neg (by simp),faultN,HKS.out.2.2,HE1.out,if_pos he1]
          clear he1
          go_wp2_with (first
           | (with_reducible refine jA (.agg (vx v1).toArray) ?_ ?_ ?_;exact jE _ rfl B 1 rfl _ (by simp [jQ]) HLB.out.1;kernel_rfl)
           | (with_reducible refine jA (.agg (mx m1).toArray) ?_ ?_ ?_;exact jO _ rfl B 36 rfl _ (by simp [ji]) HLB.out.2;kernel_rfl)
           | (go_at_call 68;refine (CO.out _).mono ?_;rintro e w6 ⟨rfl,g6⟩))
          go_ret2
          exact ⟨by rw [HX.out];show _=Ending.returned (.tuple #[.string (pS (L++[nm1])),.int .i64 E1]);rw [HQ1.out];rfl,HW5.out.1.trans g6⟩
        | true=>
         have HX:Hid (R=some (L++[nm1],42)):=by show _=_;rw [HF1.out,je,HPE1.out,leP,HBL.out,if_pos rfl,if_pos (by simp)]
         go_wp2_with fail
         go_ret2
         exact ⟨by rw [HX.out];show _=Ending.returned (.tuple #[.string (pS (L++[nm1])),.int .i64 42]);rw [HQ1.out];rfl,HW5.out.1⟩
    ·have hn0':(0:Int)<(n:Int):=by omega
     have HQN:=hid (hcat (fun e=>hn0 (by rw [← HLn.out,e];rfl)))
     have z1:¬ (9223372036854775807<P.size+1):=by omega
     have z2:¬ (9223372036854775807<P.size+1+nm1.size):=by omega
     clear hn0 hcat
     go_upto_region 8 with fail
     rw [HQN.out]
     have hnmI:nm1.size≤9223372036854775807:=by omega
     have CN:=refCheck_any nm1 w2 hnmI
     obtain ⟨E1,hE1⟩:∃ E,ownE v1 m1 (decide (0<N1))=E:=⟨_,rfl⟩
     have HE1:=hid hE1
     clear hE1
     by_cases hdeep:64<n+1
     ·have hd':(64:Int)<(n:Int)+1:=by omega
      have HX:Hid (R=some (L++[nm1],43)):=by show _=_;rw [HF1.out,je,HLn.out,placeE,if_pos hdeep,if_pos (by simp)]
      have n1:IntKind.i64.wrap ((n:Int)+1)=(n:Int)+1:=by rw [IntKind.wrap_i64];omega
      clear hdeep
      go_wp2_with fail
      go_ret2
      exact ⟨by rw [HX.out];show _=Ending.returned (.tuple #[.string (pS (L++[nm1])),.int .i64 43]);rw [HQ1.out];rfl,HB.out.1⟩
     ·have hd':¬ (64:Int)<(n:Int)+1:=by omega
      have n0:IntKind.i64.wrap ((n:Int)+1)=(n:Int)+1:=by rw [IntKind.wrap_i64];omega
      obtain ⟨b,hb⟩:∃ b,nameB (tl nm1)=b:=⟨_,rfl⟩
      rw [hb] at CN
      have HBN:=hid hb
      clear hb
      have HPE0:Hid (placeE prev nm1 (L.length+1)=if nameB (tl nm1)=false then 30 else if leP nm1 prev=true then 42 else 0):=by show _=_;rw [HLn.out,placeE,if_neg hdeep]
      clear hdeep
      cases b with
      | false=>
       rw [show eno false=30 from rfl] at CN
       have HX:Hid (R=some (L++[nm1],30)):=by show _=_;rw [HF1.out,je,HPE0.out,if_pos HBN.out,if_pos (by simp)]
       go_upto_region 11 with (go_at_call 105;refine CN.mono ?_;rintro e w9 ⟨rfl,e9⟩;have e8:=e9.symm;subst e8;clear e9)
       refine jV ?_
       have HD:Hid (G w w2.drew∧Var w2.drew B c1):=⟨HB.out.1.trans (G.drew _),HB.out.2.grow (G.drew _)⟩
       have f40:=(G.drew w2).cell b40
       have fb:=(G.drew w2).cell b0
       generalize w2.drew=w3 at *
       refine takeG 0 42 (.int .i64 30) rfl rfl (by kernel_rfl) (by kernel_rfl) (by kernel_rfl) (fun _ _ _ h=>h) (by kernel_rfl) (fun wz hz=>?_) ?_
       ·rfl
       try simp only [Act.put,sA,sB,sC]
       refine takeG 1 43 (.bool false) rfl rfl (by kernel_rfl) (by kernel_rfl) (by kernel_rfl) (fun _ _ _ h=>h) (by kernel_rfl) (fun wz hz=>?_) ?_
       ·go_simp
       try simp only [Act.put,sA,sB,sC]
       refine takeG 2 44 (.bool false) rfl rfl (by kernel_rfl) (by kernel_rfl) (by kernel_rfl) (fun _ _ _ h=>h) (by kernel_rfl) (fun wz hz=>?_) ?_
       ·rfl
       try simp only [Act.put,sA,sB,sC]
       refine skipG 3 45 rfl rfl (by kernel_rfl) (by kernel_rfl) (by kernel_rfl) (fun _ _ _ h=>h) (by kernel_rfl) ?_
       try simp only [Act.put,sA,sB,sC]
       refine skipG 4 46 rfl rfl (by kernel_rfl) (by kernel_rfl) (by kernel_rfl) (fun _ _ _ h=>h) (by kernel_rfl) ?_
       try simp only [Act.put,sA,sB,sC]
       refine takeG 5 47 (.bool false) rfl rfl (by kernel_rfl) (by kernel_rfl) (by kernel_rfl) (fun _ _ _ h=>h) (by kernel_rfl) (fun wz hz=>?_) ?_
       ·go_simp
       try simp only [Act.put,sA,sB,sC]
       refine takeG 6 48 (.bool false) rfl rfl (by kernel_rfl) (by kernel_rfl) (by kernel_rfl) (fun _ _ _ h=>h) (by kernel_rfl) (fun wz hz=>?_) ?_
       ·rfl
       try simp only [Act.put,sA,sB,sC]
       refine skipG 7 49 rfl rfl (by kernel_rfl) (by kernel_rfl) (by kernel_rfl) (fun _ _ _ h=>h) (by kernel_rfl) ?_
       try simp only [Act.put,sA,sB,sC]
       refine skipG 8 50 rfl rfl (by kernel_rfl) (by kernel_rfl) (by kernel_rfl) (fun _ _ _ h=>h) (by kernel_rfl) ?_
       try simp only [Act.put,sA,sB,sC]
       refine skipG 9 51 rfl rfl (by kernel_rfl) (by kernel_rfl) (by kernel_rfl) (fun _ _ _ h=>h) (by kernel_rfl) ?_
       try simp only [Act.put,sA,sB,sC]
       refine skipG 10 52 rfl rfl (by kernel_rfl) (by kernel_rfl) (by kernel_rfl) (fun _ _ _ h=>h) (by kernel_rfl) ?_
       try simp only [Act.put,sA,sB,sC]
       refine skipG 11 53 rfl rfl (by kernel_rfl) (by kernel_rfl) (by kernel_rfl) (fun _ _ _ h=>h) (by kernel_rfl) ?_
       try simp only [Act.put,sA,sB,sC]
       refine skipG 12 54 rfl rfl (by kernel_rfl) (by kernel_rfl) (by kernel_rfl) (fun _ _ _ h=>h) (by kernel_rfl) ?_
       try simp only [Act.put,sA,sB,sC]
       refine skipG 13 55 rfl rfl (by kernel_rfl) (by kernel_rfl) (by kernel_rfl) (fun _ _ _ h=>h) (by kernel_rfl) ?_
       try simp only [Act.put,sA,sB,sC]
       refine skipG 14 56 rfl rfl (by kernel_rfl) (by kernel_rfl) (by kernel_rfl) (fun _ _ _ h=>h) (by kernel_rfl) ?_
       try simp only [Act.put,sA,sB,sC]
       refine skipG 15 57 rfl rfl (by kernel_rfl) (by kernel_rfl) (by kernel_rfl) (fun _ _ _ h=>h) (by kernel_rfl) ?_
       try simp only [Act.put,sA,sB,sC]
       refine skipG 16 58 rfl rfl (by kernel_rfl) (by kernel_rfl) (by kernel_rfl) (fun _ _ _ h=>h) (by kernel_rfl) ?_
       try simp only [Act.put,sA,sB,sC]
       refine takeG 17 59 (.bool false) rfl rfl (by kernel_rfl) (by kernel_rfl) (by kernel_rfl) (fun _ _ _ h=>h) (by kernel_rfl) (fun wz hz=>?_) ?_
       ·go_simp
       try simp only [Act.put,sA,sB,sC]
       refine doneG (by kernel_rfl) (fun w5 hg5=>?_)
       have HW5:Hid (G w w5∧Var w5 B c1):=⟨HD.out.1.trans hg5,HD.out.2.grow hg5⟩
       have k40:=hg5.cell f40
       clear hg5 HD fb f40
       go_wp2_with fail
       go_ret2
       exact ⟨by rw [HX.out];show _=Ending.returned (.tuple #[.string (pS (L++[nm1])),.int .i64 30]);rw [HQ1.out];rfl,HW5.out.1⟩
      | true=>
       rw [show eno true=0 from rfl] at CN
       have HPE1:Hid (placeE prev nm1 (L.length+1)=if leP nm1 prev=true then 42 else 0):=by show _=_;rw [HPE0.out,HBN.out];simp
       have hpv2:=hpv.out w2.drew (HB.out.1.trans (G.drew _))
       rcases hpv2 with ⟨hk0,rfl⟩ | ⟨j,pp,hkj,rfl,hpp⟩
       ·have hk0':¬ 0<k:=by omega
        clear hk0
        have HPL:Hid (placeE none nm1 (L.length+1)=0):=by show _=_;rw [HPE1.out];rfl
        go_upto_region 11 with (go_at_call 105;refine CN.mono ?_;rintro e w9 ⟨rfl,e9⟩;have e8:=e9.symm;subst e8;clear e9)
        refine jV ?_
        have HD:Hid (G w w2.drew∧Var w2.drew B c1):=⟨HB.out.1.trans (G.drew _),HB.out.2.grow (G.drew _)⟩
        have f40:=(G.drew w2).cell b40
        have fb:=(G.drew w2).cell b0
        generalize w2.drew=w3 at *
        refine takeG 0 42 (.int .i64 0) rfl rfl (by kernel_rfl) (by kernel_rfl) (by kernel_rfl) (fun _ _ _ h=>h) (by kernel_rfl) (fun wz hz=>?_) ?_
        ·rfl
        try simp only [Act.put,sA,sB,sC]
        refine takeG 1 43 (.bool true) rfl rfl (by kernel_rfl) (by kernel_rfl) (by kernel_rfl) (fun _ _ _ h=>h) (by kernel_rfl) (fun wz hz=>?_) ?_
        ·go_simp
        try simp only [Act.put,sA,sB,sC]
        refine takeG 2 44 (.bool true) rfl rfl (by kernel_rfl) (by kernel_rfl) (by kernel_rfl) (fun _ _ _ h=>h) (by kernel_rfl) (fun wz hz=>?_) ?_
        ·rfl
        try simp only [Act.put,sA,sB,sC]
        refine takeG 3 45 (.int .i64 k) rfl rfl (by kernel_rfl) (by kernel_rfl) (by kernel_rfl) (fun _ _ _ h=>h) (by kernel_rfl) (fun wz hz=>?_) ?_
        ·rfl
        try simp only [Act.put,sA,sB,sC]
        refine takeG 4 46 (.bool false) rfl rfl (by kernel_rfl) (by kernel_rfl) (by kernel_rfl) (fun _ _ _ h=>h) (by kernel_rfl) (fun wz hz=>?_) ?_
        ·go_simp
        try simp only [Act.put,sA,sB,sC]
        refine takeG 5 47 (.bool false) rfl rfl (by kernel_rfl) (by kernel_rfl) (by kernel_rfl) (fun _ _ _ h=>h) (by kernel_rfl) (fun wz hz=>?_) ?_
        ·go_simp
        try simp only [Act.put,sA,sB,sC]
        refine takeG 6 48 (.bool false) rfl rfl (by kernel_rfl) (by kernel_rfl) (by kernel_rfl) (fun _ _ _ h=>h) (by kernel_rfl) (fun wz hz=>?_) ?_
        ·rfl
        try simp only [Act.put,sA,sB,sC]
        refine skipG 7 49 rfl rfl (by kernel_rfl) (by kernel_rfl) (by kernel_rfl) (fun _ _ _ h=>h) (by kernel_rfl) ?_
        try simp only [Act.put,sA,sB,sC]
        refine skipG 8 50 rfl rfl (by kernel_rfl) (by kernel_rfl) (by kernel_rfl) (fun _ _ _ h=>h) (by kernel_rfl) ?_
        try simp only [Act.put,sA,sB,sC]
        refine skipG 9 51 rfl rfl (by kernel_rfl) (by kernel_rfl) (by kernel_rfl) (fun _ _ _ h=>h) (by kernel_rfl) ?_
        try simp only [Act.put,sA,sB,sC]
        refine skipG 10 52 rfl rfl (by kernel_rfl) (by kernel_rfl) (by kernel_rfl) (fun _ _ _ h=>h) (by kernel_rfl) ?_
        try simp only [Act.put,sA,sB,sC]
        refine skipG 11 53 rfl rfl (by kernel_rfl) (by kernel_rfl) (by kernel_rfl) (fun _ _ _ h=>h) (by kernel_rfl) ?_
        try simp only [Act.put,sA,sB,sC]
        refine skipG 12 54 rfl rfl (by kernel_rfl) (by kernel_rfl) (by kernel_rfl) (fun _ _ _ h=>h) (by kernel_rfl) ?_
        try simp only [Act.put,sA,sB,sC]
        refine skipG 13 55 rfl rfl (by kernel_rfl) (by kernel_rfl) (by kernel_rfl) (fun _ _ _ h=>h) (by kernel_rfl) ?_
        try simp only [Act.put,sA,sB,sC]
        refine skipG 14 56 rfl rfl (by kernel_rfl) (by kernel_rfl) (by kernel_rfl) (fun _ _ _ h=>h) (by kernel_rfl) ?_
        try simp only [Act.put,sA,sB,sC]
        refine skipG 15 57 rfl rfl (by kernel_rfl) (by kernel_rfl) (by kernel_rfl) (fun _ _ _ h=>h) (by kernel_rfl) ?_
        try simp only [Act.put,sA,sB,sC]
        refine skipG 16 58 rfl rfl (by kernel_rfl) (by kernel_rfl) (by kernel_rfl) (fun _ _ _ h=>h) (by kernel_rfl) ?_
        try simp only [Act.put,sA,sB,sC]
        refine takeG 17 59 (.bool false) rfl rfl (by kernel_rfl) (by kernel_rfl) (by kernel_rfl) (fun _ _ _ h=>h) (by kernel_rfl) (fun wz hz=>?_) ?_
        ·go_simp
        try simp only [Act.put,sA,sB,sC]
        refine doneG (by kernel_rfl) (fun w5 hg5=>?_)
        have HW5:Hid (G w w5∧Var w5 B c1):=⟨HD.out.1.trans hg5,HD.out.2.grow hg5⟩
        have k40:=hg5.cell f40
        clear hg5 HD fb f40
        have CO:=hid (fun (W:World)=>(by have:=own_any v1 m1 N1 (vx v1).toArray (mx m1).toArray rfl rfl W;rw [HE1.out] at this;exact this:Calls Tryz.prog 68 #[.agg (vx v1).toArray,.agg (mx m1).toArray,.int .i64 N1] W fun e w'=>e=.returned (.int .i64 E1)∧G W w'))
        have hB1:Lies w5 B 0 (nc nm1 v1 m1 (.slice a1 N1 cap1)):=by rw [← HC1.out.2.2.2];exact (HW5.out.2).lies
        have l40:=jG HW5.out.2.lies 40 (.slice a1 N1 cap1) (by rw [HC1.out.2.2.2];exact qB ..)
        have HLB:Hid (Lies w5 B 1 (vx v1).toArray∧Lies w5 B 36 (mx m1).toArray):=⟨by have:=lies_val hB1;simpa using this,by have:=qL hB1;simpa using this⟩
        clear hB1
        by_cases he1:E1=0
        ·subst he1
         go_upto_region 17 with (first
          | (with_reducible refine jA (.agg (vx v1).toArray) ?_ ?_ ?_;exact jE _ rfl B 1 rfl _ (by simp [jQ]) HLB.out.1;kernel_rfl)
          | (with_reducible refine jA (.agg (mx m1).toArray) ?_ ?_ ?_;exact jO _ rfl B 36 rfl _ (by simp [ji]) HLB.out.2;kernel_rfl)
          | (go_at_call 68;refine (CO.out _).mono ?_;rintro e w6 ⟨rfl,g6⟩))
         have HW6:Hid (G w w6∧Var w6 B c1):=⟨HW5.out.1.trans g6,HW5.out.2.grow g6⟩
         have m40:=g6.cell k40
         obtain ⟨R2,hR2⟩:∃ R2,faultF ks1 none (L++[nm1])=R2:=⟨_,rfl⟩
         have hws:wsum (L++[nm1])=wsum L+(1+nm1.size):=by rw [wsum_append];simp [wsum]
         have CR0:=HIH.out ks1 HKS.out.1 nm1 v1 m1 c1 w6 (L++[nm1]) (HN.out w6 HW6.out.1) (by have:=HKS.out.2.1;omega) (by rw [List.length_append,HLn.out];simp;omega)
         rw [hR2,HQ1.out,List.length_append,HLn.out] at CR0
         have CR:Calls Tryz.prog 69 #[.agg c1,.string Q1,.int .i64 ((n:Int)+1)] w6 fun e w'=>e=.returned (.tuple #[.string (pS (namesOf R2)),.int .i64 (errOf R2)])∧G w6 w':=by simpa using CR0
         have HR2:Hid (R=R2.or (faultF (ks.drop (k+1)) (some nm1) L)):=by
          show _=_
          rw [HF1.out,je,HPL.out,if_neg (by simp),faultN,HKS.out.2.2,HE1.out,if_neg (by simp),hR2]
          cases R2<;>rfl
         have HNZ:Hid (∀ x,R2=some x→x.2≠0):=fun x hx=>faultF_ne ks1 none (L++[nm1]) x.1 x.2 (by rw [hR2,hx])
         clear hR2 CR0 hws g6
         have n1:IntKind.i64.wrap ((n:Int)+1)=(n:Int)+1:=by rw [IntKind.wrap_i64];omega
         cases R2 with
         | none=>
          have HR3:Hid (R=faultF (ks.drop (k+1)) (some nm1) L):=HR2.out
          rw [show namesOf none=[] from rfl,show errOf none=0 from rfl] at CR
          go_wp2_with (first
           | (with_reducible refine jA (.agg c1) ?_ ?_ ?_;exact jH _ rfl B 0 rfl c1 HC1.out.2.1 HW6.out.2.lies;kernel_rfl)
           | (go_at_call 69;refine CR.mono ?_;rintro e w7 ⟨rfl,g7⟩;have HW7:Hid (G w w7):=HW6.out.1.trans g7;have p40:=g7.cell m40;clear g7 CR))
          go_roundw
          case rel=>exact ⟨k+1,by go_num,by omega,p40,HW7.out,some nm1,HNX.out,HR3.out⟩
          case measure=>simp;omega
         | some x=>
          obtain ⟨xp,xe⟩:=x
          have HR3:Hid (R=some (xp,xe)):=HR2.out
          have hxe:(xe != 0)=true:=by have:=HNZ.out (xp,xe) rfl;simpa using this
          rw [show namesOf (some (xp,xe))=xp from rfl,show errOf (some (xp,xe))=xe from rfl] at CR
          generalize hSX:pS xp=SX at *
          have HSX:=hid hSX
          clear hSX
          go_wp2_with (first
           | (with_reducible refine jA (.agg c1) ?_ ?_ ?_;exact jH _ rfl B 0 rfl c1 HC1.out.2.1 HW6.out.2.lies;kernel_rfl)
           | (go_at_call 69;refine CR.mono ?_;rintro e w7 ⟨rfl,g7⟩;have HW7:Hid (G w w7):=HW6.out.1.trans g7;clear g7 CR))
          go_ret2
          exact ⟨by rw [HR3.out];show _=Ending.returned (.tuple #[.string (pS xp),.int .i64 xe]);rw [HSX.out];rfl,HW7.out⟩
        ·have he1':(E1 != 0)=true:=by simpa using he1
         have HX:Hid (R=some (L++[nm1],E1)):=by show _=_;rw [HF1.out,je,HPL.out,if_neg (by simp),faultN,HKS.out.2.2,HE1.out,if_pos he1]
         clear he1
         go_wp2_with (first
          | (with_reducible refine jA (.agg (vx v1).toArray) ?_ ?_ ?_;exact jE _ rfl B 1 rfl _ (by simp [jQ]) HLB.out.1;kernel_rfl)
          | (with_reducible refine jA (.agg (mx m1).toArray) ?_ ?_ ?_;exact jO _ rfl B 36 rfl _ (by simp [ji]) HLB.out.2;kernel_rfl)
          | (go_at_call 68;refine (CO.out _).mono ?_;rintro e w6 ⟨rfl,g6⟩))
         go_ret2
         exact ⟨by rw [HX.out];show _=Ending.returned (.tuple #[.string (pS (L++[nm1])),.int .i64 E1]);rw [HQ1.out];rfl,HW5.out.1.trans g6⟩
       ·have hk0':0<k:=by omega
        have j2:IntKind.i64.wrap ((k:Int)-1)=(j:Int):=by rw [IntKind.wrap_i64];omega
        have j3:(j:Int)<(N:Int):=by omega
        obtain ⟨bl,hbl⟩:∃ b,leB nm1 pp=b:=⟨_,rfl⟩
        have HBL:Hid (leB nm1 pp=bl):=hbl
        have HBL2:Hid ((!Op.bytesLess pp.toList nm1.toList)=bl):=by show _=_;rw [← leB_geq];exact hbl
        have hbl2:=HBL2.out
        clear hbl hkj
        go_upto_region 11 with (go_at_call 105;refine CN.mono ?_;rintro e w9 ⟨rfl,e9⟩;have e8:=e9.symm;subst e8;clear e9)
        refine jV ?_
        have HD:Hid (G w w2.drew∧Var w2.drew B c1):=⟨HB.out.1.trans (G.drew _),HB.out.2.grow (G.drew _)⟩
        have f40:=(G.drew w2).cell b40
        have fb:=(G.drew w2).cell b0
        have fpp:=hpp
        generalize w2.drew=w3 at *
        refine takeG 0 42 (.int .i64 0) rfl rfl (by kernel_rfl) (by kernel_rfl) (by kernel_rfl) (fun _ _ _ h=>h) (by kernel_rfl) (fun wz hz=>?_) ?_
        ·rfl
        try simp only [Act.put,sA,sB,sC]
        refine takeG 1 43 (.bool true) rfl rfl (by kernel_rfl) (by kernel_rfl) (by kernel_rfl) (fun _ _ _ h=>h) (by kernel_rfl) (fun wz hz=>?_) ?_
        ·go_simp
        try simp only [Act.put,sA,sB,sC]
        refine takeG 2 44 (.bool true) rfl rfl (by kernel_rfl) (by kernel_rfl) (by kernel_rfl) (fun _ _ _ h=>h) (by kernel_rfl) (fun wz hz=>?_) ?_
        ·rfl
        try simp only [Act.put,sA,sB,sC]
        refine takeG 3 45 (.int .i64 k) rfl rfl (by kernel_rfl) (by kernel_rfl) (by kernel_rfl) (fun _ _ _ h=>h) (by kernel_rfl) (fun wz hz=>?_) ?_
        ·rfl
        try simp only [Act.put,sA,sB,sC]
        refine takeG 4 46 (.bool true) rfl rfl (by kernel_rfl) (by kernel_rfl) (by kernel_rfl) (fun _ _ _ h=>h) (by kernel_rfl) (fun wz hz=>?_) ?_
        ·go_simp
        try simp only [Act.put,sA,sB,sC]
        refine takeG 5 47 (.bool true) rfl rfl (by kernel_rfl) (by kernel_rfl) (by kernel_rfl) (fun _ _ _ h=>h) (by kernel_rfl) (fun wz hz=>?_) ?_
        ·go_simp
        try simp only [Act.put,sA,sB,sC]
        refine takeG 6 48 (.bool true) rfl rfl (by kernel_rfl) (by kernel_rfl) (by kernel_rfl) (fun _ _ _ h=>h) (by kernel_rfl) (fun wz hz=>?_) ?_
        ·rfl
        try simp only [Act.put,sA,sB,sC]
        refine takeG 7 49 (.pointer (some ⟨H,40,none⟩)) rfl rfl (by kernel_rfl) (by kernel_rfl) (by kernel_rfl) (fun _ _ _ h=>h) (by kernel_rfl) (fun wz hz=>?_) ?_
        ·go_simp
        try simp only [Act.put,sA,sB,sC]
        refine takeG 8 50 (.slice (some ⟨g2,o2,none⟩) N cap) rfl rfl (by kernel_rfl) (by kernel_rfl) (by kernel_rfl) (fun _ _ _ h=>h) (by kernel_rfl) (fun wz hz=>?_) ?_
        ·have y0:=hz.cell f40;go_simp
        try simp only [Act.put,sA,sB,sC]
        refine takeG 9 51 (.int .i64 k) rfl rfl (by kernel_rfl) (by kernel_rfl) (by kernel_rfl) (fun _ _ _ h=>h) (by kernel_rfl) (fun wz hz=>?_) ?_
        ·rfl
        try simp only [Act.put,sA,sB,sC]
        refine takeG 10 52 (.int .i64 j) rfl rfl (by kernel_rfl) (by kernel_rfl) (by kernel_rfl) (fun _ _ _ h=>h) (by kernel_rfl) (fun wz hz=>?_) ?_
        ·go_simp
        try simp only [Act.put,sA,sB,sC]
        refine takeG 11 53 (.pointer (some ⟨g2,o2+j*41,none⟩)) rfl rfl (by kernel_rfl) (by kernel_rfl) (by kernel_rfl) (fun _ _ _ h=>h) (by kernel_rfl) (fun wz hz=>?_) ?_
        ·go_simp
        try simp only [Act.put,sA,sB,sC]
        refine takeG 12 54 (.pointer (some ⟨g2,o2+j*41,none⟩)) rfl rfl (by kernel_rfl) (by kernel_rfl) (by kernel_rfl) (fun _ _ _ h=>h) (by kernel_rfl) (fun wz hz=>?_) ?_
        ·go_simp
        try simp only [Act.put,sA,sB,sC]
        refine takeG 13 55 (.string pp) rfl rfl (by kernel_rfl) (by kernel_rfl) (by kernel_rfl) (fun _ _ _ h=>h) (by kernel_rfl) (fun wz hz=>?_) ?_
        ·have y0:=hz.cell fpp;go_simp
        try simp only [Act.put,sA,sB,sC]
        refine takeG 14 56 (.pointer (some ⟨B,0,none⟩)) rfl rfl (by kernel_rfl) (by kernel_rfl) (by kernel_rfl) (fun _ _ _ h=>h) (by kernel_rfl) (fun wz hz=>?_) ?_
        ·go_simp
        try simp only [Act.put,sA,sB,sC]
        refine takeG 15 57 (.string nm1) rfl rfl (by kernel_rfl) (by kernel_rfl) (by kernel_rfl) (fun _ _ _ h=>h) (by kernel_rfl) (fun wz hz=>?_) ?_
        ·have y0:=hz.cell fb;go_simp
        try simp only [Act.put,sA,sB,sC]
        refine takeG 16 58 (.bool bl) rfl rfl (by kernel_rfl) (by kernel_rfl) (by kernel_rfl) (fun _ _ _ h=>h) (by kernel_rfl) (fun wz hz=>?_) ?_
        ·go_simp
        try simp only [Act.put,sA,sB,sC]
        refine takeG 17 59 (.bool bl) rfl rfl (by kernel_rfl) (by kernel_rfl) (by kernel_rfl) (fun _ _ _ h=>h) (by kernel_rfl) (fun wz hz=>?_) ?_
        ·go_simp
        try simp only [Act.put,sA,sB,sC]
        refine doneG (by kernel_rfl) (fun w5 hg5=>?_)
        have HW5:Hid (G w w5∧Var w5 B c1):=⟨HD.out.1.trans hg5,HD.out.2.grow hg5⟩
        have k40:=hg5.cell f40
        clear hg5 HD fb f40
        cases bl with
        | false=>
         have HPL:Hid (placeE (some pp) nm1 (L.length+1)=0):=by show _=_;rw [HPE1.out,leP,HBL.out];rfl
         have CO:=hid (fun (W:World)=>(by have:=own_any v1 m1 N1 (vx v1).toArray (mx m1).toArray rfl rfl W;rw [HE1.out] at this;exact this:Calls Tryz.prog 68 #[.agg (vx v1).toArray,.agg (mx m1).toArray,.int .i64 N1] W fun e w'=>e=.returned (.int .i64 E1)∧G W w'))
         have hB1:Lies w5 B 0 (nc nm1 v1 m1 (.slice a1 N1 cap1)):=by rw [← HC1.out.2.2.2];exact (HW5.out.2).lies
         have l40:=jG HW5.out.2.lies 40 (.slice a1 N1 cap1) (by rw [HC1.out.2.2.2];exact qB ..)
         have HLB:Hid (Lies w5 B 1 (vx v1).toArray∧Lies w5 B 36 (mx m1).toArray):=⟨by have:=lies_val hB1;simpa using this,by have:=qL hB1;simpa using this⟩
         clear hB1
         by_cases he1:E1=0
         ·subst he1
          go_upto_region 17 with (first
           | (with_reducible refine jA (.agg (vx v1).toArray) ?_ ?_ ?_;exact jE _ rfl B 1 rfl _ (by simp [jQ]) HLB.out.1;kernel_rfl)
           | (with_reducible refine jA (.agg (mx m1).toArray) ?_ ?_ ?_;exact jO _ rfl B 36 rfl _ (by simp [ji]) HLB.out.2;kernel_rfl)
           | (go_at_call 68;refine (CO.out _).mono ?_;rintro e w6 ⟨rfl,g6⟩))
          have HW6:Hid (G w w6∧Var w6 B c1):=⟨HW5.out.1.trans g6,HW5.out.2.grow g6⟩
          have m40:=g6.cell k40
          obtain ⟨R2,hR2⟩:∃ R2,faultF ks1 none (L++[nm1])=R2:=⟨_,rfl⟩
          have hws:wsum (L++[nm1])=wsum L+(1+nm1.size):=by rw [wsum_append];simp [wsum]
          have CR0:=HIH.out ks1 HKS.out.1 nm1 v1 m1 c1 w6 (L++[nm1]) (HN.out w6 HW6.out.1) (by have:=HKS.out.2.1;omega) (by rw [List.length_append,HLn.out];simp;omega)
          rw [hR2,HQ1.out,List.length_append,HLn.out] at CR0
          have CR:Calls Tryz.prog 69 #[.agg c1,.string Q1,.int .i64 ((n:Int)+1)] w6 fun e w'=>e=.returned (.tuple #[.string (pS (namesOf R2)),.int .i64 (errOf R2)])∧G w6 w':=by simpa using CR0
          have HR2:Hid (R=R2.or (faultF (ks.drop (k+1)) (some nm1) L)):=by
           show _=_
           rw [HF1.out,je,HPL.out,if_neg (by simp),faultN,HKS.out.2.2,HE1.out,if_neg (by simp),hR2]
           cases R2<;>rfl
          have HNZ:Hid (∀ x,R2=some x→x.2≠0):=fun x hx=>faultF_ne ks1 none (L++[nm1]) x.1 x.2 (by rw [hR2,hx])
          clear hR2 CR0 hws g6
          have n1:IntKind.i64.wrap ((n:Int)+1)=(n:Int)+1:=by rw [IntKind.wrap_i64];omega
          cases R2 with
          | none=>
           have HR3:Hid (R=faultF (ks.drop (k+1)) (some nm1) L):=HR2.out
           rw [show namesOf none=[] from rfl,show errOf none=0 from rfl] at CR
           go_wp2_with (first
            | (with_reducible refine jA (.agg c1) ?_ ?_ ?_;exact jH _ rfl B 0 rfl c1 HC1.out.2.1 HW6.out.2.lies;kernel_rfl)
            | (go_at_call 69;refine CR.mono ?_;rintro e w7 ⟨rfl,g7⟩;have HW7:Hid (G w w7):=HW6.out.1.trans g7;have p40:=g7.cell m40;clear g7 CR))
           go_roundw
           case rel=>exact ⟨k+1,by go_num,by omega,p40,HW7.out,some nm1,HNX.out,HR3.out⟩
           case measure=>simp;omega
          | some x=>
           obtain ⟨xp,xe⟩:=x
           have HR3:Hid (R=some (xp,xe)):=HR2.out
           have hxe:(xe != 0)=true:=by have:=HNZ.out (xp,xe) rfl;simpa using this
           rw [show namesOf (some (xp,xe))=xp from rfl,show errOf (some (xp,xe))=xe from rfl] at CR
           generalize hSX:pS xp=SX at *
           have HSX:=hid hSX
           clear hSX
           go_wp2_with (first
            | (with_reducible refine jA (.agg c1) ?_ ?_ ?_;exact jH _ rfl B 0 rfl c1 HC1.out.2.1 HW6.out.2.lies;kernel_rfl)
            | (go_at_call 69;refine CR.mono ?_;rintro e w7 ⟨rfl,g7⟩;have HW7:Hid (G w w7):=HW6.out.1.trans g7;clear g7 CR))
           go_ret2
           exact ⟨by rw [HR3.out];show _=Ending.returned (.tuple #[.string (pS xp),.int .i64 xe]);rw [HSX.out];rfl,HW7.out⟩
         ·have he1':(E1 != 0)=true:=by simpa using he1
          have HX:Hid (R=some (L++[nm1],E1)):=by show _=_;rw [HF1.out,je,HPL.out,if_neg (by simp),faultN,HKS.out.2.2,HE1.out,if_pos he1]
          clear he1
          go_wp2_with (first
           | (with_reducible refine jA (.agg (vx v1).toArray) ?_ ?_ ?_;exact jE _ rfl B 1 rfl _ (by simp [jQ]) HLB.out.1;kernel_rfl)
           | (with_reducible refine jA (.agg (mx m1).toArray) ?_ ?_ ?_;exact jO _ rfl B 36 rfl _ (by simp [ji]) HLB.out.2;kernel_rfl)
           | (go_at_call 68;refine (CO.out _).mono ?_;rintro e w6 ⟨rfl,g6⟩))
          go_ret2
          exact ⟨by rw [HX.out];show _=Ending.returned (.tuple #[.string (pS (L++[nm1])),.int .i64 E1]);rw [HQ1.out];rfl,HW5.out.1.trans g6⟩
        | true=>
         have HX:Hid (R=some (L++[nm1],42)):=by show _=_;rw [HF1.out,je,HPE1.out,leP,HBL.out,if_pos rfl,if_pos (by simp)]
         go_wp2_with fail
         go_ret2
         exact ⟨by rw [HX.out];show _=Ending.returned (.tuple #[.string (pS (L++[nm1])),.int .i64 42]);rw [HQ1.out];rfl,HW5.out.1⟩
   ·have hltI:¬ (k:Int)<(N:Int):=by omega
    have HX:Hid (R=none):=by
     obtain ⟨prev,_,hfe⟩:=HI.out.2
     show _=_
     rw [hfe,F.drop_all ks k (by rw [HS.out.2.1];omega)]
     rfl
    go_wp2_with fail
    go_ret2
    exact ⟨by rw [HX.out];rfl,HI.out.1⟩
theorem refCheckT_any (c:Array Value) (nm:ByteArray) (v:Vd) (m:Md) (ks:F) (w:World) (hN:HasN w c nm v m ks) (hw:ks.weight≤100000):
  Calls Tryz.prog 27 #[.agg c] w fun e w'=>e=.returned (.tuple #[.string (checkP v m ks),.int .i64 (checkE v m ks)])∧G w w':=by
 have hB:G w (w.alloc (.cells c 30)):=G.alloc _ _
 obtain ⟨E0,hE0⟩:∃ E,ownE v m (decide (0<ks.len))=E:=⟨_,rfl⟩
 have HE0:=hid hE0
 have CR:=hid (fun (W:World) (hW:G w W)=>(ref_any (ks.size+1) ks (Nat.lt_succ_self _) nm v m c W [] (hN.below hW) (by simp [wsum];omega) (by simp)))
 obtain ⟨kv,hc,hS⟩:=hN
 obtain ⟨a,cap,rfl,_⟩:=hS.form
 obtain ⟨N,hNN⟩:∃ N,ks.len=N:=⟨_,rfl⟩
 rw [hNN] at hc hE0
 have CO:=hid (fun (W:World)=>(by have:=own_any v m N (vx v).toArray (mx m).toArray rfl rfl W;rw [hE0] at this;exact this:Calls Tryz.prog 68 #[.agg (vx v).toArray,.agg (mx m).toArray,.int .i64 N] W fun e w'=>e=.returned (.int .i64 E0)∧G W w'))
 have hl:=Var.new w c
 have c40:=jG hl.lies 40 (.slice a N cap) (by rw [hc];exact qB ..)
 have hl2:=hl.lies
 have hsz:c.size=41:=by rw [hc];exact jZ ..
 have HL:Hid (Lies (w.alloc (.cells c 30)) w.heap.size 1 (vx v).toArray∧Lies (w.alloc (.cells c 30)) w.heap.size 36 (mx m).toArray∧Var (w.alloc (.cells c 30)) w.heap.size c∧c.size=41):=by
  have h1:=hl2.part 1 36
  have h2:=hl2.part 36 40
  rw [hc] at h1 h2
  rw [nc_val] at h1
  rw [nc_marks] at h2
  rw [← hc] at h1 h2
  exact ⟨by simpa using h1,by simpa using h2,hl,hsz⟩
 have HG:Hid (G w (w.alloc (.cells c 30))):=hB
 obtain ⟨CP,hCP⟩:∃ x,checkP v m ks=x:=⟨_,rfl⟩
 obtain ⟨CE,hCE⟩:∃ x,checkE v m ks=x:=⟨_,rfl⟩
 rw [hCP,hCE]
 have HC:=hid (⟨hCP,hCE⟩:checkP v m ks=CP∧checkE v m ks=CE)
 clear hl hl2 hB hc hS hE0 hNN hCP hCE hsz
 go_enter Tryz.func27,Tryz.ntmps27
 go_upto_region 1 with fail
 generalize w.alloc (.cells c 30)=w1 at *
 generalize w.heap.size=H at *
 by_cases h0:E0=0
 ·subst h0
  have HF:Hid (faultN v m ks []=faultF ks none []):=by show _=_;rw [faultN,HE0.out,if_neg (by simp)]
  go_upto_region 4 with (first
   | (with_reducible refine jA (.agg (vx v).toArray) ?_ ?_ ?_;exact jE _ rfl H 1 rfl _ (by simp [jQ]) HL.out.1;kernel_rfl)
   | (with_reducible refine jA (.agg (mx m).toArray) ?_ ?_ ?_;exact jO _ rfl H 36 rfl _ (by simp [ji]) HL.out.2.1;kernel_rfl)
   | (go_at_call 68;refine (CO.out _).mono ?_;rintro e w2 ⟨rfl,g2⟩))
  have HW:Hid (G w w2∧Var w2 H c):=⟨HG.out.trans g2,HL.out.2.2.1.grow g2⟩
  have CR2:Calls Tryz.prog 69 #[.agg c,.string ⟨#[]⟩,.int .i64 0] w2 fun e w'=>e=.returned (.tuple #[.string CP,.int .i64 CE])∧G w2 w':=by
   have h:=CR.out w2 HW.out.1
   have e1:pS (namesOf (faultF ks none []))=CP:=by rw [← HC.out.1,checkP,HF.out];rfl
   have e2:errOf (faultF ks none [])=CE:=by rw [← HC.out.2,checkE,HF.out]
   rw [e1,e2] at h
   exact h
  clear CR CO g2
  go_wp2_with (first
   | (with_reducible refine jA (.agg c) ?_ ?_ ?_;exact jH _ rfl H 0 rfl c HL.out.2.2.2 HW.out.2.lies;kernel_rfl)
   | (go_at_call 69;refine CR2.mono ?_;rintro e w3 ⟨rfl,g3⟩))
  go_ret2
  exact ⟨rfl,HW.out.1.trans g3⟩
 ·have h0':(E0 != 0)=true:=by simpa using h0
  have HF:Hid (CP=⟨#[]⟩∧CE=E0):=by
   have hf:faultN v m ks []=some ([],E0):=by rw [faultN,HE0.out,if_pos h0]
   exact ⟨by rw [← HC.out.1,checkP,hf];rfl,by rw [← HC.out.2,checkE,hf];rfl⟩
  clear h0
  go_wp2_with (first
   | (with_reducible refine jA (.agg (vx v).toArray) ?_ ?_ ?_;exact jE _ rfl H 1 rfl _ (by simp [jQ]) HL.out.1;kernel_rfl)
   | (with_reducible refine jA (.agg (mx m).toArray) ?_ ?_ ?_;exact jO _ rfl H 36 rfl _ (by simp [ji]) HL.out.2.1;kernel_rfl)
   | (go_at_call 68;refine (CO.out _).mono ?_;rintro e w2 ⟨rfl,g2⟩))
  go_ret2
  exact ⟨by rw [HF.out.1,HF.out.2];rfl,HG.out.trans g2⟩
end Go.Proofs.YthfcanpkhjgomaaGreat
