import Derived.Test.YtdeanahpiigonaaGreatDoorWRef3
set_option maxRecDepth 100000
set_option maxHeartbeats 3200000
namespace Go.Proofs.YtdeanahpiigonaaGreatDoor.Wi
open Go.RowKit Wire
theorem oN:∀ (t:List Int) (j n k:Nat),rd j t=.ok n k→k≤j+t.length
 | [],j,n,k,h=>by simp [rd] at h
 | c::t,j,n,k,h=>by
  simp only [rd] at h
  split at h
  ·cases h
  ·split at h
   ·injection h with h1 h2
    simp;omega
   ·cases hr:rd (j+1) t with
    | ok n' k'=>
     rw [hr] at h
     simp only [Rd.plus] at h
     injection h with h1 h2
     have:=oN t (j+1) n' k' hr
     simp;omega
    | form i=>rw [hr] at h;simp [Rd.plus] at h
    | short=>rw [hr] at h;simp [Rd.plus] at h
theorem fV (lo M most:Nat) (l:List Int) (s:St) (w:World) (hr:RfS w lo M l s) (hB:Bytes l):
  Calls Tryz.prog 18 #[.pointer (some ⟨M,0,none⟩),.int .u64 most] w fun e w'=>e=.returned (.int .u64 (uintS l s most).1)∧RfS w' lo M l (uintS l s most).2∧w.grownBy w' (some M):=by
 have HR:Hid (RfS w lo M l s):=hr
 obtain ⟨p,fa,fe⟩:=s
 obtain ⟨v,hh,ho,hk,hl,hp,hn⟩:=hr
 obtain ⟨h0,h1,h2,h3,hfz⟩:=qZ hh
 simp only at h1 h2 hp hh
 by_cases hf:fe=0
 ·subst hf
  have C:=xe lo M l p fa w HR.out hB
  have HC:Hid (Calls Tryz.prog 47 #[.pointer (some ⟨M,0,none⟩)] w fun e w'=>zZ w lo M l p fa (rd 0 (l.drop p)) e w'):=C
  clear C hh ho hk h0 h1 h3 hB
  cases hrd:rd 0 (l.drop p) with
  | ok n k=>
   have hkl:p+k≤l.length:=by
    have:=oN _ _ _ _ hrd
    simp at this;omega
   rw [hrd] at HC
   by_cases hnm:n≤most
   ·have e1:uintS l ⟨p,fa,0⟩ most=(n,⟨p+k,fa,0⟩):=by simp [uintS,hrd,hnm]
    rw [e1]
    clear e1 hrd
    go_enter Tryz.func18,Tryz.ntmps18
    go_wp2_with (go_at_call 47;refine HC.out.mono ?_;rintro e w1 ⟨rfl,hr1,hg1⟩;obtain ⟨v1,hh1,ho1,hk1,hl1,hp1,hn1⟩:=hr1;obtain ⟨c0,c1,c2,c3,cz⟩:=qZ hh1)
    have FN:=RfS.at hh1 ho1 hk1 hl1 hn1 (Below.refl _ w1) ((p:Int)+k) (p+k) (by simp) hkl
    go_ret
    exact ⟨rfl,FN.1,jj hg1 FN.2⟩
   ·have e1:uintS l ⟨p,fa,0⟩ most=(0,⟨p,p,12⟩):=by simp [uintS,hrd,hnm]
    rw [e1]
    clear e1 hrd
    go_enter Tryz.func18,Tryz.ntmps18
    go_wp2_with (first | (go_at_call 47;refine HC.out.mono ?_;rintro e w1 ⟨rfl,hr1,hg1⟩;have HR1:Hid (RfS w1 lo M l ⟨p,fa,0⟩):=hr1;obtain ⟨v1,hh1,ho1,hk1,hl1,hp1,hn1⟩:=hr1;obtain ⟨c0,c1,c2,c3,cz⟩:=qZ hh1;clear hh1 ho1 hk1 c3) | (go_at_call 48;refine (qR lo M l _ _ _ _ (by first | exact HR1.out | exact RfS.drewN HR1.out _)).mono ?_;rintro e w2 ⟨rfl,hr2,hg2⟩))
    go_ret
    exact ⟨rfl,hr2,jj hg1 ⟨hg2.os,hg2.tape,hg2.output,hg2.size,hg2.block⟩⟩
  | form i=>
   rw [hrd] at HC
   have e1:uintS l ⟨p,fa,0⟩ most=(0,⟨p,(p+i:Nat),11⟩):=by simp [uintS,hrd]
   rw [e1]
   clear e1 hrd
   go_enter Tryz.func18,Tryz.ntmps18
   go_wp2_with (go_at_call 47;refine HC.out.mono ?_;rintro e w1 ⟨rfl,hr1,hg1⟩)
   go_ret
   exact ⟨rfl,hr1,hg1⟩
  | short=>
   rw [hrd] at HC
   have e1:uintS l ⟨p,fa,0⟩ most=(0,⟨p,l.length,10⟩):=by simp [uintS,hrd]
   rw [e1]
   clear e1 hrd
   go_enter Tryz.func18,Tryz.ntmps18
   go_wp2_with (go_at_call 47;refine HC.out.mono ?_;rintro e w1 ⟨rfl,hr1,hg1⟩)
   go_ret
   exact ⟨rfl,hr1,hg1⟩
 ·have e1:uintS l ⟨p,fa,fe⟩ most=(0,⟨p,fa,fe⟩):=by simp [uintS,hf]
  rw [e1]
  have hfb:(fe !=0)=true:=by simpa using hf
  clear hh ho hk h0 h1 h3 e1
  go_enter Tryz.func18,Tryz.ntmps18
  go_wp2
  go_ret
  exact ⟨rfl,HR.out,⟨rfl,rfl,rfl,Nat.le_refl _,fun _ _ _=>rfl⟩⟩
theorem fW (lo M:Nat) (most:Int) (l:List Int) (s:St) (w:World) (hr:RfS w lo M l s) (hB:Bytes l) (hm63:-9223372036854775808≤most∧most≤9223372036854775807):
  Calls Tryz.prog 75 #[.pointer (some ⟨M,0,none⟩),.int .i64 most] w fun e w'=>e=.returned (.string (mkStr (textS l s most).1))∧RfS w' lo M l (textS l s most).2∧w.grownBy w' (some M):=by
 have HR:Hid (RfS w lo M l s):=hr
 obtain ⟨p,fa,fe⟩:=s
 obtain ⟨v,hh,ho,hk,hl,hp,hn⟩:=hr
 obtain ⟨h0,h1,h2,h3,hfz⟩:=qZ hh
 simp only at h1 h2 hp hh
 by_cases hf:fe=0
 ·subst hf
  have C:=xe lo M l p fa w HR.out hB
  have HC:Hid (Calls Tryz.prog 47 #[.pointer (some ⟨M,0,none⟩)] w fun e w'=>zZ w lo M l p fa (rd 0 (l.drop p)) e w'):=C
  clear C hh ho hk h0 h1 h3
  cases hrd:rd 0 (l.drop p) with
  | ok n k=>
   have hkl:p+k≤l.length:=by
    have:=oN _ _ _ _ hrd
    simp at this;omega
   rw [hrd] at HC
   by_cases hmn:most<(n:Int)
   ·have e1:textS l ⟨p,fa,0⟩ most=([],⟨p,p,12⟩):=by simp [textS,hrd,hmn]
    rw [e1,qm]
    clear e1 hrd
    by_cases hneg:most<0
    ·go_enter Tryz.func75,Tryz.ntmps75
     go_wp2_with (first | (go_at_call 47;refine HC.out.mono ?_;rintro e w1 ⟨rfl,hr1,hg1⟩;have HR1:Hid (RfS w1 lo M l ⟨p,fa,0⟩):=hr1;obtain ⟨v1,hh1,ho1,hk1,hl1,hp1,hn1⟩:=hr1;obtain ⟨ao,cap,hv1,hcap,_⟩:=xg ho1;subst hv1;obtain ⟨c0,c1,c2,c3,cz⟩:=qZ hh1;clear hh1 ho1 hk1 c3) | (go_at_call 48;refine (qR lo M l _ _ _ _ (by first | exact HR1.out | exact RfS.drewN HR1.out _)).mono ?_;rintro e w2 ⟨rfl,hr2,hg2⟩))
     go_ret
     exact ⟨rfl,hr2,jj hg1 ⟨hg2.os,hg2.tape,hg2.output,hg2.size,hg2.block⟩⟩
    ·obtain ⟨mo,rfl⟩:∃ mo:Nat,most=(mo:Int):=⟨most.toNat,by omega⟩
     have q1:IntKind.u64.wrap (mo:Int)=(mo:Int):=by rw [IntKind.wrap_u64];omega
     have q2:mo<n:=by omega
     go_enter Tryz.func75,Tryz.ntmps75
     go_wp2_with (first | (go_at_call 47;refine HC.out.mono ?_;rintro e w1 ⟨rfl,hr1,hg1⟩;have HR1:Hid (RfS w1 lo M l ⟨p,fa,0⟩):=hr1;obtain ⟨v1,hh1,ho1,hk1,hl1,hp1,hn1⟩:=hr1;obtain ⟨ao,cap,hv1,hcap,_⟩:=xg ho1;subst hv1;obtain ⟨c0,c1,c2,c3,cz⟩:=qZ hh1;clear hh1 ho1 hk1 c3) | (go_at_call 48;refine (qR lo M l _ _ _ _ (by first | exact HR1.out | exact RfS.drewN HR1.out _)).mono ?_;rintro e w2 ⟨rfl,hr2,hg2⟩))
     go_ret
     exact ⟨rfl,hr2,jj hg1 ⟨hg2.os,hg2.tape,hg2.output,hg2.size,hg2.block⟩⟩
   ·obtain ⟨mo,rfl⟩:∃ mo:Nat,most=(mo:Int):=⟨most.toNat,by omega⟩
    have q0:¬ ((mo:Int)<0):=by omega
    have q1:IntKind.u64.wrap (mo:Int)=(mo:Int):=by rw [IntKind.wrap_u64];omega
    have q2:n≤mo:=by omega
    by_cases hlen:l.length<p+k+n
    ·have e1:textS l ⟨p,fa,0⟩ mo=([],⟨p,l.length,10⟩):=by simp [textS,hrd,hlen];omega
     rw [e1,qm]
     clear e1 hrd
     have q3:IntKind.u64.wrap ((l.length:Int)-p-k)=(l.length:Int)-p-k:=by rw [IntKind.wrap_u64];omega
     have q4:(l.length:Int)-p-k<n:=by omega
     go_enter Tryz.func75,Tryz.ntmps75
     go_wp2_with (first | (go_at_call 47;refine HC.out.mono ?_;rintro e w1 ⟨rfl,hr1,hg1⟩;have HR1:Hid (RfS w1 lo M l ⟨p,fa,0⟩):=hr1;obtain ⟨v1,hh1,ho1,hk1,hl1,hp1,hn1⟩:=hr1;obtain ⟨ao,cap,hv1,hcap,_⟩:=xg ho1;subst hv1;obtain ⟨c0,c1,c2,c3,cz⟩:=qZ hh1;clear hh1 ho1 hk1 c3) | (go_at_call 48;refine (qR lo M l _ _ _ _ (by first | exact HR1.out | exact RfS.drewN HR1.out _)).mono ?_;rintro e w2 ⟨rfl,hr2,hg2⟩))
     go_quiet (fail)
     go_wp2_with (go_at_call 48;refine (qR lo M l _ _ _ _ (by first | exact HR1.out | exact RfS.drewN HR1.out _)).mono ?_;rintro e w2 ⟨rfl,hr2,hg2⟩)
     go_ret
     exact ⟨rfl,hr2,jj hg1 ⟨hg2.os,hg2.tape,hg2.output,hg2.size,hg2.block⟩⟩
    ·have e1:textS l ⟨p,fa,0⟩ mo=((l.drop (p+k)).take n,⟨p+k+n,fa,0⟩):=by simp [textS,hrd,hlen];omega
     rw [e1]
     clear e1 hrd
     have q3:IntKind.u64.wrap ((l.length:Int)-p-k)=(l.length:Int)-p-k:=by rw [IntKind.wrap_u64];omega
     have q4:¬ ((l.length:Int)-p-k<n):=by omega
     have q5:IntKind.i64.wrap (n:Int)=(n:Int):=by rw [IntKind.wrap_i64];omega
     go_enter Tryz.func75,Tryz.ntmps75
     go_wp2_with (go_at_call 47;refine HC.out.mono ?_;rintro e w1 ⟨rfl,hr1,hg1⟩;have HR1:Hid (RfS w1 lo M l ⟨p,fa,0⟩):=hr1;obtain ⟨v1,hh1,ho1,hk1,hl1,hp1,hn1⟩:=hr1;obtain ⟨ao,cap,hv1,hcap,_⟩:=xg ho1;subst hv1;obtain ⟨c0,c1,c2,c3,cz⟩:=qZ hh1;have HH1:Hid (w1.heap[M]?=some (.cells #[.slice ao l.length cap,.int .i64 p,.int .i64 0,.int .i64 fa] 67 (0,0))):=hh1;have HO1:Hid (Owns w1 lo (.slice ao l.length cap) l):=ho1;have HK1:Hid (∀ k,(Value.slice ao l.length cap).ownBlock=some k→k<M):=hk1;clear hh1 ho1 hk1 c3)
     go_quiet (fail)
     go_wp2_with fail
     have FN:=RfS.at HH1.out HO1.out HK1.out hl1 hn1 (show Below w1.heap.size w1 (w1.drewN nq) from ⟨rfl,rfl,rfl,Nat.le_refl _,fun _ _=>rfl⟩) ((p:Int)+k+n) (p+k+n) (by simp) (by omega)
     obtain ⟨w3,ew⟩:∃ w3,(w1.drewN nq).setCell ⟨M,1,none⟩ (.int .i64 ((p:Int)+k+n))=w3:=⟨_,rfl⟩
     rw [ew] at FN
     rw [ew]
     obtain ⟨F1,F2⟩:=FN
     have HF1:Hid (RfS w3 lo M l ⟨p+k+n,fa,0⟩):=F1
     have HF2:Hid (w1.grownBy w3 (some M)):=F2
     have d0:w3.cell? ⟨M,0,none⟩=some (.slice ao l.length cap):=by rw [← ew];exact (World.cell?_setCell_other _ _ _ _ (by simp)).trans c0
     have d1:w3.cell? ⟨M,1,none⟩=some (.int .i64 ((p:Int)+k+n)):=by rw [← ew];exact World.cell?_setCell_same _ _ _ c1
     have HX:Hid (Has w3 (.slice ao l.length cap) l):=Owns.has (Owns.block HO1.out fun b hb=>F2.block b (HO1.out.lt b hb).2 (fun e=>by have:=HK1.out b hb;simp at e;omega))
     have HX3:Hid (∀ wz,Has wz (.slice ao l.length cap) l→(cap=p+k→Has wz (.slice ao n 0) ((l.drop (p+k)).take n))∧(¬ cap=p+k→Has wz (.slice (Option.map (fun x=>x.add (p+k)) ao) n (cap-(p+k))) ((l.drop (p+k)).take n))):=fun wz h=>h.cut (p+k) n (by omega) hcap
     clear F1 F2 ew c0 c1 c2 cz q3 q4 q5 hmn q0 q1 q2
     have t0:(0:Int)≤(p:Int)+k:=by omega
     have t1:(p:Int)+k≤(p:Int)+k+n:=by omega
     have t2:(p:Int)+k+n≤(cap:Int):=by omega
     have t3:((p:Int)+k).toNat=p+k:=by omega
     have t4:((p:Int)+k+n).toNat=p+k+n:=by omega
     have t6:(0:Int)≤(p:Int)+k+n:=by omega
     by_cases hcp:cap=p+k
     ·have hcp2:=hcp
      have t5:(p:Int)+k+n≤(p:Int)+k:=by omega
      have cv:(convert 25 9 (.slice ao n 0)).run Tryz.prog w3.drew=.ok (.string (mkStr ((l.drop (p+k)).take n))) w3.drew:=xf ((HX3.out _ (Has.block HX.out fun _ _=>rfl)).1 hcp) ((hB.drop _).take _)
      clear hcp2
      go_region_held3 (fun w'=>w'.cell? ⟨M,0,none⟩=some (.slice ao l.length cap)∧w'.cell? ⟨M,1,none⟩=some (.int .i64 ((p:Int)+k+n))∧(convert 25 9 (.slice ao n 0)).run Tryz.prog w'=.ok (.string (mkStr ((l.drop (p+k)).take n))) w') (first | go_keep | (refine ⟨?_,?_,?_⟩<;>first | exact d0 | exact d1 | exact cv)) (fail)
      go_wp2
      go_ret
      exact ⟨rfl,HF1.out.kept fun _ _ _=>rfl,jj hg1 (ym HF2.out)⟩
     ·have hcp2:=hcp
      have cv:(convert 25 9 (.slice (Option.map (fun x=>x.add (p+k)) ao) n (cap-(p+k)))).run Tryz.prog w3.drew=.ok (.string (mkStr ((l.drop (p+k)).take n))) w3.drew:=xf ((HX3.out _ (Has.block HX.out fun _ _=>rfl)).2 hcp) ((hB.drop _).take _)
      clear hcp2
      go_region_held3 (fun w'=>w'.cell? ⟨M,0,none⟩=some (.slice ao l.length cap)∧w'.cell? ⟨M,1,none⟩=some (.int .i64 ((p:Int)+k+n))∧(convert 25 9 (.slice (Option.map (fun x=>x.add (p+k)) ao) n (cap-(p+k)))).run Tryz.prog w'=.ok (.string (mkStr ((l.drop (p+k)).take n))) w') (first | go_keep | (refine ⟨?_,?_,?_⟩<;>first | exact d0 | exact d1 | exact cv)) (fail)
      go_wp2
      go_ret
      exact ⟨rfl,HF1.out.kept fun _ _ _=>rfl,jj hg1 (ym HF2.out)⟩
  | form i=>
   rw [hrd] at HC
   have e1:textS l ⟨p,fa,0⟩ most=([],⟨p,(p+i:Nat),11⟩):=by simp [textS,hrd]
   rw [e1,qm]
   clear e1 hrd
   go_enter Tryz.func75,Tryz.ntmps75
   go_wp2_with (go_at_call 47;refine HC.out.mono ?_;rintro e w1 ⟨rfl,hr1,hg1⟩)
   go_ret
   exact ⟨rfl,hr1,hg1⟩
  | short=>
   rw [hrd] at HC
   have e1:textS l ⟨p,fa,0⟩ most=([],⟨p,l.length,10⟩):=by simp [textS,hrd]
   rw [e1,qm]
   clear e1 hrd
   go_enter Tryz.func75,Tryz.ntmps75
   go_wp2_with (go_at_call 47;refine HC.out.mono ?_;rintro e w1 ⟨rfl,hr1,hg1⟩)
   go_ret
   exact ⟨rfl,hr1,hg1⟩
 ·have e1:textS l ⟨p,fa,fe⟩ most=([],⟨p,fa,fe⟩):=by simp [textS,hf]
  rw [e1,qm]
  have hfb:(fe !=0)=true:=by simpa using hf
  clear hh ho hk h0 h1 h3 e1
  go_enter Tryz.func75,Tryz.ntmps75
  go_wp2
  go_ret
  exact ⟨rfl,HR.out,⟨rfl,rfl,rfl,Nat.le_refl _,fun _ _ _=>rfl⟩⟩
end Go.Proofs.YtdeanahpiigonaaGreatDoor.Wi
