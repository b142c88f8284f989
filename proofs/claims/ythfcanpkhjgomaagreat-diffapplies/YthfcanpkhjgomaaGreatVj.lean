import Derived.Test.YthfcanpkhjgomaaGreatQOr
import Derived.Test.YthfcanpkhjgomaaGreatVg
set_option maxRecDepth 100000
set_option maxHeartbeats 4000000
namespace Go.Proofs.YthfcanpkhjgomaaGreat.Ch
open Go.RowKit Bk
theorem comparePaths_any (g1 o1 g2 o2:Nat) (c1 c2:Cd) (w:World) (h1:Lies w g1 o1 (cc c1)) (h2:Lies w g2 o2 (cc c2)) (b1:c1.path.size≤1048576) (b2:c2.path.size≤1048576):
  Calls Tryz.prog 65 #[.pointer (some ⟨g1,o1,none⟩),.pointer (some ⟨g2,o2,none⟩)] w fun e w'=>e=.returned (.int .i64 (cmpL (tl c1.path) (tl c2.path)))∧Drew w w':=by
 have q1:=h1.path
 have q2:=h2.path
 have CC:=fun W=>compare_any c1.path c2.path W (by omega) (by omega)
 clear h1 h2
 go_enter Tryz.func65,Tryz.ntmps65
 go_wp2_with fail
 go_quiet ((go_at_call 102;exact Calls.quiet_of (CC _)))
 go_wp2
 go_ret
 exact ⟨rfl,_,rfl⟩
def ahead (prev:Option Cd) (c:Cd):Bool:=match prev with | none=>true | some p=>decide (cmpL (tl p.path) (tl c.path)<0)
def riseB (prev:Option Cd):List Cd→Bool
 | []=>true
 | c::L=>decide (splitE (tl c.path) 64=0)&&!decide (c.old=c.new)&&ahead prev c&&riseB (some c) L
theorem riseB_cons (prev:Option Cd) (c:Cd) (L:List Cd):riseB prev (c::L)=(decide (splitE (tl c.path) 64=0)&&!decide (c.old=c.new)&&ahead prev c&&riseB (some c) L):=rfl
def prevOf (L:List Cd) (k:Nat):Option Cd:=if k=0 then none else L[k-1]?
theorem rises_any (ao:Option Addr) (cp:Nat) (L:List Cd) (w:World) (h:HasA w (.slice ao L.length cp) L) (hn:L.length≤1000000) (hp:∀ c∈L,c.path.size≤1048576):
  Calls Tryz.prog 38 #[.slice ao L.length cp] w fun e w'=>e=.returned (.bool (riseB none L))∧Below w.heap.size w w':=by
 obtain ⟨n,hn'⟩:∃ n,L.length=n:=⟨_,rfl⟩
 have HA:=hid h
 have HN:=hid hn'
 have HP:=hid hp
 rw [hn'] at hn HA ⊢
 clear h hn' hp
 go_enter Tryz.func38,Tryz.ntmps38
 go_wp2
 go_loopg [9] n (fun gh i wr=>∃ k:Nat,k≤n∧gh=n-k∧i=.int .i64 (k:Int)∧Hid (Below w.heap.size w wr)∧Hid (riseB none L=riseB (prevOf L k) (L.drop k)))
 case atStart=>exact ⟨0,Nat.zero_le _,rfl,rfl,Below.refl _ _,by show riseB none L=riseB (prevOf L 0) (L.drop 0);rw [List.drop_zero];rfl⟩
 case round=>
  obtain ⟨k,hk,rfl,rfl,HS,HR⟩:=hrel
  by_cases hlt:k<n
  ·have i1:(k:Int)<(n:Int):=by omega
   have i0:(0:Int)≤(k:Int):=by omega
   obtain ⟨r,hx⟩:∃ r,L[k]?=some r:=⟨L[k]'(by rw [HN.out];exact hlt),by simp⟩
   obtain ⟨ga,oa,rfl,la⟩:=(HA.out.below HS.out).at hx
   have hd:L.drop k=r::L.drop (k+1):=by
    rw [List.drop_eq_getElem_cons (by rw [HN.out];exact hlt)]
    rw [List.getElem?_eq_getElem (by rw [HN.out];exact hlt)] at hx
    injection hx with hx
    rw [hx]
   have hs:=HP.out r (List.mem_of_getElem? hx)
   have hpn:prevOf L (k+1)=some r:=by simp [prevOf,hx]
   have HRK:Hid (riseB none L=(decide (splitE (tl r.path) 64=0)&&!decide (r.old=r.new)&&ahead (prevOf L k) r&&riseB (prevOf L (k+1)) (L.drop (k+1)))):=by
    show riseB none L=_
    rw [HR.out,hd,riseB_cons,hpn]
   obtain ⟨B1,hB1⟩:∃ B1,wr.heap.size=B1:=⟨_,rfl⟩
   have n1:=new_varT wr 66 z55 (cc r)
   have g1:=n1.1
   rw [hB1] at n1
   obtain ⟨w1,hw1⟩:∃ w1,(wr.alloc (.cells z55 66)).setRow B1 (cc r)=w1:=⟨_,rfl⟩
   rw [hw1] at n1
   rw [hB1,hw1] at g1
   have g1':Below wr.heap.size wr w1:=by rw [hB1];exact g1
   have lv:Lies w1 B1 0 (cc r):=fun j u hj=>by simp only [World.cell?,n1.2.1,Nat.zero_add];exact hj
   have c0:w1.cell? ⟨B1,0,none⟩=some (.string r.path):=lv.path
   have HLV:=hid lv
   have HLa:Hid (Lies wr ga (oa+k*71) (cc r)):=la
   have HS1:Hid (Below w.heap.size w w1):=Below.up HS.out g1'
   have HA1:Hid ((wr.alloc (.cells z55 66)).heap[B1]?=some (.cells z55 66 (0,0))):=by rw [← hB1];exact World.alloc_heap_new wr _
   have HSP:=hid (split_any r.path 64 w1 hs)
   obtain ⟨X,hX⟩:∃ X,cc r=X:=⟨_,rfl⟩
   have HX:Hid (X.size=71∧X.all (·.oneCell')=true):=⟨by rw [← hX];exact jl r,by rw [← hX];exact cc_one r⟩
   rw [hX] at HLa hw1
   have HW1:=hid hw1
   have HXX:=hid hX
   obtain ⟨se,hse⟩:∃ se,splitE (tl r.path) 64=se:=⟨_,rfl⟩
   have HSE:=hid hse
   rw [hse] at HSP
   clear la lv n1 g1 g1' hw1 hX hse hd hpn HR
   go_upto_region 4 with (first
    | ((with_reducible refine jA (.agg X) ?_ ?_ ?_);exact exec_load 66 _ rfl ga (oa+k*71) rfl X _ HLa.out under55 rfl (by rw [size55,HX.out.1]);kernel_rfl)
    | ((with_reducible refine jJ (.pointer (some ⟨B1,0,none⟩)) (wr.alloc (.cells z55 66)) ?_ ?_ ?_);exact exec_allocT 66 z55 rfl zero55 _ _ hB1;kernel_rfl)
    | ((with_reducible refine jP w1 ?_ ?_ ?_);exact (by rw [← HW1.out];exact exec_storeT 66 _ _ rfl B1 X z55 rfl rfl _ HA1.out (by rw [size55,HX.out.1]) (by rw [z55_size,HX.out.1]) HX.out.2);kernel_rfl))
   go_upto_region 5 with (go_at_call 81;refine HSP.out.mono ?_;rintro e w2 ⟨⟨sv,SL,rfl,_,_⟩,hb2⟩)
   have HS2:Hid (Below w.heap.size w w2):=Below.up HS1.out hb2
   have HL2:Hid (Lies w2 B1 0 (cc r)):=HLV.out.below hb2
   clear HSP hb2 c0 HS1 HLV HA1 HW1
   by_cases he:se=0
   ·subst he
    have HO:Hid (Lies w2 B1 1 (vx r.old).toArray):=by have:=HL2.out.old;rwa [Nat.zero_add] at this
    have HNw:Hid (Lies w2 B1 36 (vx r.new).toArray):=by have:=HL2.out.new;rwa [Nat.zero_add] at this
    obtain ⟨YO,hYO⟩:∃ Y,(vx r.old).toArray=Y:=⟨_,rfl⟩
    obtain ⟨YN,hYN⟩:∃ Y,(vx r.new).toArray=Y:=⟨_,rfl⟩
    have HYO:Hid ((vx r.old).toArray=YO∧YO.size=35):=⟨hYO,by rw [← hYO];simp [jQ]⟩
    have HYN:Hid ((vx r.new).toArray=YN∧YN.size=35):=⟨hYN,by rw [← hYN];simp [jQ]⟩
    rw [hYO] at HO
    rw [hYN] at HNw
    clear hYO hYN
    by_cases hon:r.old=r.new
    ·have HBO:Hid (decide (r.old=r.new)=true):=by show decide (r.old=r.new)=true;simp [hon]
     have HE:Hid (riseB none L=false):=by
      show riseB none L=false
      rw [HRK.out];simp [hon]
     go_wp2_with (first
     | ((with_reducible refine jA (.agg YO) ?_ ?_ ?_);exact jq _ rfl B1 1 rfl YO HYO.out.2 HO.out;kernel_rfl)
     | ((with_reducible refine jA (.agg YN) ?_ ?_ ?_);exact jq _ rfl B1 36 rfl YN HYN.out.2 HNw.out;kernel_rfl)
     | ((with_reducible refine jA (.bool true) ?_ ?_ ?_);exact exec_eq53' _ _ rfl YO YN rfl rfl r.old r.new HYO.out.1.symm HYN.out.1.symm true HBO.out _;kernel_rfl))
     go_ret
     exact ⟨by rw [HE.out];rfl,HS2.out⟩
    ·have HBO:Hid (decide (r.old=r.new)=false):=by show decide (r.old=r.new)=false;simp [hon]
     go_upto_region 7 with (first
     | ((with_reducible refine jA (.agg YO) ?_ ?_ ?_);exact jq _ rfl B1 1 rfl YO HYO.out.2 HO.out;kernel_rfl)
     | ((with_reducible refine jA (.agg YN) ?_ ?_ ?_);exact jq _ rfl B1 36 rfl YN HYN.out.2 HNw.out;kernel_rfl)
     | ((with_reducible refine jA (.bool false) ?_ ?_ ?_);exact exec_eq53' _ _ rfl YO YN rfl rfl r.old r.new HYO.out.1.symm HYN.out.1.symm false HBO.out _;kernel_rfl))
     rcases Nat.eq_zero_or_pos k with hk0 | hk0
     ·subst hk0
      have HE:Hid (riseB none L=riseB (prevOf L (0+1)) (L.drop (0+1))):=by
       show riseB none L=_
       rw [HRK.out,HSE.out];simp [hon,prevOf,ahead]
      go_wp2
      go_roundg (n-(0+1))
      case measure=>omega
      case rel=>exact ⟨0+1,by omega,rfl,by go_num,HS2,HE⟩
     ·obtain ⟨j,rfl⟩:∃ j,k=j+1:=⟨k-1,by omega⟩
      obtain ⟨p,hpx⟩:∃ p,L[j]?=some p:=⟨L[j]'(by rw [HN.out];omega),by simp⟩
      have hps:=HP.out p (List.mem_of_getElem? hpx)
      obtain ⟨ga',oa',e',lp⟩:=(HA.out.below HS2.out).at hpx
      injection e' with e'
      injection e' with e1' e2' _
      subst e1' e2'
      have j1:(j:Int)<(n:Int):=by omega
      have j2:(0:Int)<((j+1:Nat):Int):=by omega
      have j3:((j+1:Nat):Int)-1=(j:Int):=by omega
      have CP:=hid (comparePaths_any ga (oa+j*71) B1 0 p r w2 lp HL2.out hps hs)
      obtain ⟨cm,hcm⟩:∃ cm,cmpL (tl p.path) (tl r.path)=cm:=⟨_,rfl⟩
      rw [hcm] at CP
      have HE:Hid (riseB none L=(decide (cm<0)&&riseB (prevOf L (j+1+1)) (L.drop (j+1+1)))):=by
       show riseB none L=_
       rw [HRK.out,HSE.out,← hcm];simp [hon,prevOf,ahead,hpx]
      clear lp hpx hcm HRK
      by_cases hcm0:cm<0
      ·have hge:¬ (0:Int)≤cm:=by omega
       have HE2:Hid (riseB none L=riseB (prevOf L (j+1+1)) (L.drop (j+1+1))):=by
        show riseB none L=_
        rw [HE.out];simp [hcm0]
       go_wp2_with (go_at_call 65;refine CP.out.mono ?_;rintro e w3 ⟨rfl,hd3⟩)
       have HS3:Hid (Below w.heap.size w w3):=Below.drews HS2.out hd3
       go_roundg (n-(j+1+1))
       case measure=>omega
       case rel=>exact ⟨j+1+1,by omega,rfl,by go_num,HS3,HE2⟩
      ·have hge:(0:Int)≤cm:=by omega
       have HE2:Hid (riseB none L=false):=by
        show riseB none L=_
        rw [HE.out];simp [hcm0]
       go_wp2_with (go_at_call 65;refine CP.out.mono ?_;rintro e w3 ⟨rfl,hd3⟩)
       go_ret
       exact ⟨by rw [HE2.out];rfl,Below.drews HS2.out hd3⟩
   ·have HE:Hid (riseB none L=false):=by
     show riseB none L=false
     rw [HRK.out,HSE.out];simp [he]
    have he':(se != 0)=true:=by simpa using he
    go_wp2
    go_ret
    exact ⟨by rw [HE.out];rfl,HS2.out⟩
  ·obtain rfl:k=n:=by omega
   have i1:¬ ((k:Int)<(k:Int)):=by omega
   have HE:Hid (riseB none L=true):=by
    show riseB none L=true
    rw [HR.out,List.drop_of_length_le (by rw [HN.out];omega)]
    rfl
   go_wp2
   go_ret
   exact ⟨by rw [HE.out];rfl,HS.out⟩
end Go.Proofs.YthfcanpkhjgomaaGreat.Ch
namespace Go.Proofs.YthfcanpkhjgomaaGreat
open Go.RowKit Ch
theorem dpM_size {t u:T3} {c:Cd} (hr:t.2.2.rises) (h:dpM t c=some u):u.2.2.rises∧u.2.2.size≤t.2.2.size:=by
 unfold dpM at h
 repeat' split at h
 all_goals first
  | (cases h;done)
  | (obtain rfl:=Option.some.inj h;first | exact ⟨hr,Nat.le_refl _⟩ | exact ⟨dropT_rises hr,dropT_size hr⟩)
theorem dpL_size:∀ {l:List Cd} {t u:T3},t.2.2.rises→dpL t l=some u→u.2.2.rises∧u.2.2.size≤t.2.2.size
 | [],t,u,hr,h=>by cases h;exact ⟨hr,Nat.le_refl _⟩
 | c::l,t,u,hr,h=>by
  rw [dpL] at h
  cases e:dpM t c with
  | none=>rw [e] at h;cases h
  | some x=>
   rw [e,Option.bind_some] at h
   have h1:=dpM_size hr e
   have h2:=dpL_size h1.1 h
   exact ⟨h2.1,Nat.le_trans h2.2 h1.2⟩
def apM (t:T3) (L:List Cd):Option T3:=(dpL t L.reverse).bind fun u=>ldM u L
def apE (t:T3) (L:List Cd):Int:=if riseB none L=false then 130 else if startsB t L=false then 131 else match apM t L with
 | none=>132
 | some _=>0
def ApTo (t:T3) (L:List Cd) (w:World) (e:Ending) (w':World):Prop:=∃ u,e=.returned (.tuple #[u,.int .i64 (apE t L)])∧G w w'∧(apE t L≠0→u=.pointer none)∧(apE t L=0→∃ r p',apM t L=some r∧u=.pointer (some ⟨p',0,none⟩)∧T1 w' p' r)
theorem apply_any (p:Nat) (t:T3) (ao:Option Addr) (cp:Nat) (L:List Cd) (w:World) (ht:T1 w p t) (hr:t.2.2.rises) (h:HasA w (.slice ao L.length cp) L) (hn:L.length≤50000) (hb:t.2.2.size≤50000) (hp:∀ c∈L,c.path.size≤1048576):
  Calls Tryz.prog 11 #[.pointer (some ⟨p,0,none⟩),.slice ao L.length cp] w (ApTo t L w):=by
 have CR:=hid (rises_any ao cp L w h (by omega) hp)
 have HT:=hid (⟨ht,hr,h,hn,hb,hp⟩:_∧_∧_∧_∧_∧_)
 obtain ⟨N,hN⟩:∃ N,L.length=N:=⟨_,rfl⟩
 have HN:=hid hN
 obtain ⟨rb,hrb⟩:∃ rb,riseB none L=rb:=⟨_,rfl⟩
 have HRB:=hid hrb
 rw [hrb] at CR
 obtain ⟨sb,hsb⟩:∃ sb,startsB t L=sb:=⟨_,rfl⟩
 have HSB:=hid hsb
 have CS:Hid (∀ W,G w W→Calls Tryz.prog 39 #[.pointer (some ⟨p,0,none⟩),.slice ao L.length cp] W fun e w'=>e=.returned (.bool sb)∧G W w'):=fun W hW=>by
  rw [← HSB.out]
  exact starts_any p t ao cp L W (HT.out.1.grow hW) HT.out.2.1 (HT.out.2.2.1.below hW) (by have:=HT.out.2.2.2.1;omega) HT.out.2.2.2.2.2
 have CC:Hid (∀ W,G w W→Calls Tryz.prog 40 #[.pointer (some ⟨p,0,none⟩),.slice ao L.length cp] W (OptTo (dpL t L.reverse) W)):=fun W hW=>
  cleared_any p t ao cp L W (HT.out.1.grow hW) HT.out.2.1 (HT.out.2.2.1.below hW) HT.out.2.2.2.1 (by have:=HT.out.2.2.2.2.1;omega) HT.out.2.2.2.2.2
 have CL:Hid (∀ W u pu,G w W→dpL t L.reverse=some u→T1 W pu u→Calls Tryz.prog 41 #[.pointer (some ⟨pu,0,none⟩),.slice ao L.length cp] W (OptTo (ldM u L) W)):=fun W u pu hW hu hT=>by
  have hs:=dpL_size HT.out.2.1 hu
  exact laid_any pu u ao cp L W hT hs.1 (HT.out.2.2.1.below hW) HT.out.2.2.2.1 (by have:=HT.out.2.2.2.2.1;omega) HT.out.2.2.2.2.2
 rw [hN] at CR CS CC CL ⊢
 clear ht hr h hn hb hp hrb hsb hN
 cases rb with
 | false=>
  have hE:apE t L=130:=by unfold apE;rw [if_pos HRB.out]
  unfold ApTo
  rw [hE]
  clear hE
  go_enter Tryz.func11,Tryz.ntmps11
  go_wp2_with (go_at_call 38;refine CR.out.mono ?_;rintro e w1 ⟨rfl,g1⟩;have H1:=hid (show G w w1 from g1);clear g1)
  go_ret2
  exact ⟨_,rfl,H1.out,fun _=>rfl,fun h=>absurd h (by decide)⟩
 | true=>
 cases sb with
 | false=>
  have hE:apE t L=131:=by unfold apE;rw [if_neg (by rw [HRB.out];simp),if_pos HSB.out]
  unfold ApTo
  rw [hE]
  clear hE
  go_enter Tryz.func11,Tryz.ntmps11
  go_wp2_with (first
   | (go_at_call 38;refine CR.out.mono ?_;rintro e w1 ⟨rfl,g1⟩;have H1:=hid (show G w w1 from g1);clear g1)
   | (go_at_call 39;refine (CS.out w1 H1.out).mono ?_;rintro e w2 ⟨rfl,g2⟩;have H2:=hid (H1.out.trans g2);clear g2))
  go_ret2
  exact ⟨_,rfl,H2.out,fun _=>rfl,fun h=>absurd h (by decide)⟩
 | true=>
 have hE0:apE t L=match apM t L with | none=>132 | some _=>0:=by unfold apE;rw [if_neg (by rw [HRB.out];simp),if_neg (by rw [HSB.out];simp)]
 cases hc:dpL t L.reverse with
 | none=>
  have hE:apE t L=132:=by rw [hE0];unfold apM;rw [hc];rfl
  unfold ApTo
  rw [hE]
  rw [hc] at CC
  clear hE hE0 hc CL
  go_enter Tryz.func11,Tryz.ntmps11
  go_wp2_with (first
   | (go_at_call 38;refine CR.out.mono ?_;rintro e w1 ⟨rfl,g1⟩;have H1:=hid (show G w w1 from g1);clear g1)
   | (go_at_call 39;refine (CS.out w1 H1.out).mono ?_;rintro e w2 ⟨rfl,g2⟩;have H2:=hid (H1.out.trans g2);clear g2)
   | (go_at_call 40;refine (CC.out w2 H2.out).mono ?_;rintro e w3 ⟨u,E,rfl,g3,q3⟩;have q4:(E==0)=false:=(by simpa using q3);have q5:(E != 0)=true:=(by simpa using q3);have H3:=hid (H2.out.trans g3);clear g3 q3))
  go_ret2
  exact ⟨_,rfl,H3.out,fun _=>rfl,fun h=>absurd h (by decide)⟩
 | some x=>
 have HC:=hid hc
 rw [hc] at CC
 cases hl:ldM x L with
 | none=>
  have hE:apE t L=132:=by rw [hE0];unfold apM;rw [hc,Option.bind_some,hl]
  unfold ApTo
  rw [hE]
  have HL:=hid hl
  clear hE hE0 hc hl
  go_enter Tryz.func11,Tryz.ntmps11
  go_wp2_with (first
   | (go_at_call 38;refine CR.out.mono ?_;rintro e w1 ⟨rfl,g1⟩;have H1:=hid (show G w w1 from g1);clear g1)
   | (go_at_call 39;refine (CS.out w1 H1.out).mono ?_;rintro e w2 ⟨rfl,g2⟩;have H2:=hid (H1.out.trans g2);clear g2)
   | (go_at_call 40;refine (CC.out w2 H2.out).mono ?_;rintro e w3 ⟨u,E,rfl,g3,q3,pu,rfl,q4⟩;subst q3;have H3:=hid (H2.out.trans g3);have C4:=hid (CL.out w3 x pu H3.out HC.out q4);rw [HL.out] at C4;clear g3 q4)
   | (go_at_call 41;refine C4.out.mono ?_;rintro e w4 ⟨u4,E4,rfl,g4,q4⟩;have q5:(E4 != 0)=true:=(by simpa using q4);have H4:=hid (H3.out.trans g4);clear g4 q4))
  go_ret2
  exact ⟨_,rfl,H4.out,fun _=>rfl,fun h=>absurd h (by decide)⟩
 | some y=>
  have hM:apM t L=some y:=by unfold apM;rw [hc,Option.bind_some,hl]
  have hE:apE t L=0:=by rw [hE0,hM]
  unfold ApTo
  rw [hE,hM]
  have HL:=hid hl
  clear hE hE0 hM hc hl
  go_enter Tryz.func11,Tryz.ntmps11
  go_wp2_with (first
   | (go_at_call 38;refine CR.out.mono ?_;rintro e w1 ⟨rfl,g1⟩;have H1:=hid (show G w w1 from g1);clear g1)
   | (go_at_call 39;refine (CS.out w1 H1.out).mono ?_;rintro e w2 ⟨rfl,g2⟩;have H2:=hid (H1.out.trans g2);clear g2)
   | (go_at_call 40;refine (CC.out w2 H2.out).mono ?_;rintro e w3 ⟨u,E,rfl,g3,q3,pu,rfl,q4⟩;subst q3;have H3:=hid (H2.out.trans g3);have C4:=hid (CL.out w3 x pu H3.out HC.out q4);rw [HL.out] at C4;clear g3 q4)
   | (go_at_call 41;refine C4.out.mono ?_;rintro e w4 ⟨u4,E4,rfl,g4,q5,p4,rfl,q6⟩;subst q5;have H4:=hid (⟨H3.out.trans g4,q6⟩:_∧_);clear g4 q6))
  go_ret2
  exact ⟨_,rfl,H4.out.1,fun h=>absurd rfl h,fun _=>⟨y,p4,rfl,rfl,H4.out.2⟩⟩
theorem vz_zero:DO.vz=Vd.zero:=rfl
theorem sub_names {t:T3} {s:ByteArray} (h:splitE (tl s) 64=0):subS t s=dn t (cutN s):=by unfold subS;rw [if_pos h]
theorem way_names {t:T3} {s:ByteArray} (h:splitE (tl s) 64=0):wayE t s=wayN t (cutN s):=by
 unfold wayE wayN
 rw [if_neg (by rw [h];simp)]
 by_cases hc:cutN s=[]
 ·rw [if_pos hc,if_pos hc]
 ·rw [if_neg hc,if_neg hc]
  cases dn t (cutN s).dropLast<;>rfl
theorem dpM_names {t:T3} {c:Cd} (h:splitE (tl c.path) 64=0):dpM t c=stepC (toN c) t:=by
 unfold dpM stepC dropE
 rw [sub_names h,way_names h]
 simp only [toN,vz_zero]
 obtain ⟨o,hd⟩:∃ o,dn t (cutN c.path)=o:=⟨_,rfl⟩
 simp only [hd]
 by_cases h1:vcV c.new=Vd.zero<;>by_cases h3:wayN t (cutN c.path)=0<;>by_cases h4:cutN c.path=[]<;>cases o<;>simp [h1,h3,h4]
 all_goals first
  | (split<;>simp_all;done)
  | (intro _;split<;>simp_all;done)
theorem dpL_names:∀ {L:List Cd} {t:T3},(∀ c∈L,splitE (tl c.path) 64=0)→dpL t L.reverse=clrR (L.map toN) t
 | [],t,_=>rfl
 | c::L,t,h=>by
  rw [List.reverse_cons,dpL_app,dpL_names fun d hd=>h d (List.mem_cons_of_mem _ hd),List.map_cons,clrR]
  cases clrR (L.map toN) t with
  | none=>rfl
  | some u=>
   rw [Option.bind_some,Option.bind_some,dpL,dpM_names (h c (by simp))]
   cases stepC (toN c) u<;>rfl
theorem lyE_names {t:T3} {c:Cd} (h:splitE (tl c.path) 64=0) (hz:vcV c.new≠Vd.zero):(if lyE t c≠0 then none else some (lyT t c))=stepL (toN c) t:=by
 have hlen:¬ 64<(cutN c.path).length+F.depth .nil:=by have:=names_few h;simp [F.depth];omega
 unfold stepL lyE lyT putE setE kidsAt
 rw [way_names h]
 simp only [toN,vz_zero]
 by_cases ho:vcV c.old=Vd.zero<;>by_cases h2:wayN t (cutN c.path)=0<;>by_cases h1:checkE (vcV c.new) Md.zero .nil=0<;>cases hd:dn t (cutN c.path)<;>simp [hz,ho,h1,h2,hlen]
 all_goals (split<;>simp_all)
theorem ldM_names:∀ {L:List Cd} {t:T3},(∀ c∈L,splitE (tl c.path) 64=0)→ldM t L=layL (L.map toN) t
 | [],t,_=>rfl
 | c::L,t,h=>by
  have hc:=h c (by simp)
  have ih:=fun u=>ldM_names (L:=L) (t:=u) fun d hd=>h d (List.mem_cons_of_mem _ hd)
  rw [ldM,List.map_cons,layL]
  by_cases hz:vcV c.new=Vd.zero
  ·rw [if_pos hz]
   have:stepL (toN c) t=some t:=if_pos hz
   rw [this,Option.bind_some]
   exact ih t
  ·rw [if_neg hz,← lyE_names hc hz]
   by_cases he:lyE t c=0
   ·rw [if_neg (by simpa using he),if_neg (by simpa using he),Option.bind_some]
    exact ih _
   ·rw [if_pos he,if_pos he];rfl
def ltP (c d:Cd):Prop:=cmpL (tl c.path) (tl d.path)<0
theorem cmpL_lt {a b c:By} (h:cmpL a b<0) (k:cmpL b c<0):cmpL a c<0:=by
 have h1:=cmpL_trans a b c (by omega) (by omega)
 by_cases e:cmpL a c=0
 ·obtain rfl:=(cmpL_zero a c).1 e
  have:=cmpL_neg a b
  omega
 ·omega
theorem rise_pair:∀ {L:List Cd} {p:Option Cd},riseB p L=true→(∀ c∈L,splitE (tl c.path) 64=0∧c.old≠c.new)∧L.Pairwise ltP∧∀ q,p=some q→∀ c∈L,ltP q c
 | [],_,_=>⟨fun c h=>(List.not_mem_nil h).elim,.nil,fun _ _ c h=>(List.not_mem_nil h).elim⟩
 | c::L,p,h=>by
  rw [riseB_cons] at h
  simp only [Bool.and_eq_true,decide_eq_true_eq,Bool.not_eq_true',decide_eq_false_iff_not] at h
  obtain ⟨⟨⟨h1,h2⟩,h3⟩,h4⟩:=h
  obtain ⟨k1,k2,k3⟩:=rise_pair h4
  refine ⟨fun d hd=>?_,List.pairwise_cons.2 ⟨fun d hd=>k3 c rfl d hd,k2⟩,fun q hq d hd=>?_⟩
  ·rcases List.mem_cons.1 hd with rfl | hd
   ·exact ⟨h1,h2⟩
   ·exact k1 d hd
  ·subst hq
   have hqc:ltP q c:=by simpa [Ch.ahead,ltP] using h3
   rcases List.mem_cons.1 hd with rfl | hd
   ·exact hqc
   ·exact cmpL_lt hqc (k3 c rfl d hd)
theorem rise_of:∀ {L:List Cd} {p:Option Cd},(∀ c∈L,splitE (tl c.path) 64=0∧c.old≠c.new)→L.Pairwise ltP→(∀ q,p=some q→∀ c∈L,ltP q c)→riseB p L=true
 | [],_,_,_,_=>rfl
 | c::L,p,h,hp,hq=>by
  have hc:=h c (by simp)
  obtain ⟨hp1,hp2⟩:=List.pairwise_cons.1 hp
  rw [riseB_cons,rise_of (p:=some c) (fun d hd=>h d (List.mem_cons_of_mem _ hd)) hp2 (fun q e=>by cases e;exact hp1)]
  have ha:Ch.ahead p c=true:=by
   cases p with
   | none=>rfl
   | some q=>simpa [Ch.ahead,ltP] using hq q rfl c (by simp)
  simp [hc.1,hc.2,ha]
theorem cmpP_nil:∀ b:List By,cmpP [] b≤0
 | []=>by decide
 | _::_=>by simp [cmpP]
theorem pre_cmp {A B:List By} (h:A <+: B):cmpP A B≤0:=by
 obtain ⟨C,rfl⟩:=h
 have:=DO.cmpP_pre A [] C
 rw [List.append_nil] at this
 rw [this]
 exact cmpP_nil C
theorem ltP_no {c d:Cd} (h:ltP c d):¬ cutN d.path <+: cutN c.path:=fun q=>by
 have h1:pieces (tl d.path) <+: pieces (tl c.path):=by
  have:=q.map tl
  unfold cutN at this
  rw [List.map_map,List.map_map] at this
  have e:(tl ∘ ofB)=id:=by funext x;exact qF x
  rwa [e,List.map_id,List.map_id] at this
 have h2:=pre_cmp h1
 rw [cmpP_pieces] at h2
 have h3:=cmpL_neg (tl d.path) (tl c.path)
 unfold ltP at h
 omega
theorem rise_po {L:List Cd} (h:L.Pairwise ltP):Po (L.map toN):=by
 unfold Po
 rw [List.pairwise_map]
 exact h.imp fun h=>ltP_no h
end Go.Proofs.YthfcanpkhjgomaaGreat
namespace Go.Proofs.YthfcanpkhjgomaaGreat.DO
open Go.Proofs.YthfcanpkhjgomaaGreat
theorem cmpP_eq:∀ {a b:List By},cmpP a b=0→a=b
 | [],[],_=>rfl
 | [],_::_,h=>by simp [cmpP] at h
 | _::_,[],h=>by simp [cmpP] at h
 | x::xs,y::ys,h=>by
  rw [cmpP] at h
  by_cases h1:belowL x y=true
  ·rw [if_pos h1] at h;cases h
  ·rw [if_neg h1] at h
   by_cases h2:belowL y x=true
   ·rw [if_pos h2] at h;cases h
   ·rw [if_neg h2] at h
    rw [belowL_eq x y (by simpa using h1) (by simpa using h2),cmpP_eq h]
theorem cmpP_trans:∀ {a b c:List By},cmpP a b=-1→cmpP b c=-1→cmpP a c=-1
 | [],[],_,h,_=>by simp [cmpP] at h
 | [],_::_,[],_,h=>by simp [cmpP] at h
 | [],_::_,_::_,_,_=>rfl
 | _::_,[],_,h,_=>by simp [cmpP] at h
 | _::_,_::_,[],_,h=>by simp [cmpP] at h
 | x::xs,y::ys,z::zs,h,k=>by
  rw [cmpP] at h k ⊢
  by_cases h1:belowL x y=true
  ·by_cases k1:belowL y z=true
   ·rw [if_pos (below_trans h1 k1)]
   ·rw [if_neg k1] at k
    by_cases k2:belowL z y=true
    ·rw [if_pos k2] at k;cases k
    ·obtain rfl:=belowL_eq y z (by simpa using k1) (by simpa using k2)
     rw [if_pos h1]
  ·rw [if_neg h1] at h
   by_cases h2:belowL y x=true
   ·rw [if_pos h2] at h;cases h
   ·rw [if_neg h2] at h
    obtain rfl:=belowL_eq x y (by simpa using h1) (by simpa using h2)
    by_cases k1:belowL x z=true
    ·rw [if_pos k1]
    ·rw [if_neg k1] at k ⊢
     by_cases k2:belowL z x=true
     ·rw [if_pos k2] at k;cases k
     ·rw [if_neg k2] at k ⊢
      exact cmpP_trans h k
theorem cmpP_three (a b:List By):cmpP a b=-1∨cmpP a b=0∨cmpP a b=1:=by
 induction a generalizing b with
 | nil=>cases b<;>simp [cmpP]
 | cons x xs ih=>
  cases b with
  | nil=>simp [cmpP]
  | cons y ys=>
   rw [cmpP]
   split
   ·exact .inl rfl
   ·split
    ·exact .inr (.inr rfl)
    ·exact ih ys
def Srt (A:List Ent):Prop:=A.Pairwise fun a b=>cmpP a.p b.p=-1
def SrtD (A:List Dif):Prop:=A.Pairwise fun a b=>cmpP a.p b.p=-1
def At_ (A:List Ent) (p:List By) (o:Vd):Prop:=(∃ a∈A,a.p=p∧a.v=o)∨((∀ a∈A,a.p≠p)∧o=vz)
theorem At_.uniq {A:List Ent} (h:Srt A) {p:List By} {o o':Vd} (h1:At_ A p o) (h2:At_ A p o'):o=o':=by
 rcases h1 with ⟨a,ha,rfl,rfl⟩ | ⟨h1,rfl⟩
 ·rcases h2 with ⟨b,hb,e,rfl⟩ | ⟨h2,rfl⟩
  ·have:∀ {A:List Ent} {a b:Ent},Srt A→a∈A→b∈A→a.p=b.p→a.v=b.v:=by
    intro A
    induction A with
    | nil=>intro a b _ h;cases h
    | cons x A ih=>
     intro a b hs ha hb e
     obtain ⟨s1,s2⟩:=List.pairwise_cons.1 hs
     rcases List.mem_cons.1 ha with rfl | ha2
     ·rcases List.mem_cons.1 hb with rfl | hb2
      ·rfl
      ·have:=s1 b hb2;rw [e,cmpP_self] at this;cases this
     ·rcases List.mem_cons.1 hb with rfl | hb2
      ·have:=s1 a ha2;rw [e,cmpP_self] at this;cases this
      ·exact ih s2 ha2 hb2 e
   exact this h ha hb e.symm
  ·exact absurd rfl (h2 a ha)
 ·rcases h2 with ⟨b,hb,e,_⟩ | ⟨_,rfl⟩
  ·exact absurd e (h1 b hb)
  ·rfl
theorem At_.cons_ne {x:Ent} {A:List Ent} {p:List By} {o:Vd} (hn:x.p≠p):At_ (x::A) p o↔At_ A p o:=by
 unfold At_
 simp only [List.mem_cons,exists_eq_or_imp,forall_eq_or_imp]
 constructor
 ·rintro ((⟨e,_⟩ | h) | ⟨h1,h2⟩)
  ·exact absurd e hn
  ·exact .inl h
  ·exact .inr ⟨h1.2,h2⟩
 ·rintro (h | ⟨h1,h2⟩)
  ·exact .inl (.inr h)
  ·exact .inr ⟨⟨hn,h1⟩,h2⟩
theorem At_.here {x:Ent} {A:List Ent}:At_ (x::A) x.p x.v:=.inl ⟨x,by simp,rfl,rfl⟩
theorem At_.gone {A:List Ent} {p:List By} (h:∀ a∈A,cmpP p a.p=-1):At_ A p vz:=.inr ⟨fun a ha e=>(by have:=h a ha;rw [e,cmpP_self] at this;cases this),rfl⟩
def MgOk (A B:List Ent) (D:List Dif):Prop:=SrtD D∧(∀ d∈D,At_ A d.p d.o∧At_ B d.p d.n∧d.o≠d.n)∧(∀ p o n,At_ A p o→At_ B p n→o≠n→∃ d∈D,d.p=p)∧∀ d∈D,(∃ a∈A,a.p=d.p)∨∃ b∈B,b.p=d.p
theorem vals_tail {x:Ent} {A:List Ent} (h:∀ a∈x::A,a.v≠vz):∀ a∈A,a.v≠vz:=fun a ha=>h a (List.mem_cons_of_mem _ ha)
theorem lt_of_mem {p:List By} {A B:List Ent} {D:List Dif} (h:MgOk A B D) (ha:∀ a∈A,cmpP p a.p=-1) (hb:∀ b∈B,cmpP p b.p=-1):∀ d∈D,cmpP p d.p=-1:=fun d hd=>by
 rcases h.2.2.2 d hd with ⟨a,h1,e⟩ | ⟨b,h1,e⟩
 ·rw [← e];exact ha a h1
 ·rw [← e];exact hb b h1
theorem ne_of_lt {p q:List By} (h:cmpP p q=-1):p≠q:=fun e=>by rw [e,cmpP_self] at h;cases h
theorem mg_left_ok {x:Ent} {A B:List Ent} {D:List Dif} (hx:x.v≠vz) (hA:∀ a∈A,cmpP x.p a.p=-1) (hB:∀ b∈B,cmpP x.p b.p=-1) (h:MgOk A B D):MgOk (x::A) B (⟨x.p,x.v,vz⟩::D):=by
 have hl:=lt_of_mem h hA hB
 refine ⟨List.pairwise_cons.2 ⟨hl,h.1⟩,fun d hd=>?_,fun p o n h1 h2 h3=>?_,fun d hd=>?_⟩
 ·rcases List.mem_cons.1 hd with rfl | hd
  ·exact ⟨.here,.gone hB,hx⟩
  ·obtain ⟨k1,k2,k3⟩:=h.2.1 d hd
   exact ⟨(At_.cons_ne (ne_of_lt (hl d hd))).2 k1,k2,k3⟩
 ·by_cases e:x.p=p
  ·exact ⟨_,List.mem_cons_self,e⟩
  ·obtain ⟨d,hd,e2⟩:=h.2.2.1 p o n ((At_.cons_ne e).1 h1) h2 h3
   exact ⟨d,List.mem_cons_of_mem _ hd,e2⟩
 ·rcases List.mem_cons.1 hd with rfl | hd
  ·exact .inl ⟨x,by simp,rfl⟩
  ·exact (h.2.2.2 d hd).imp (fun ⟨a,h1,h2⟩=>⟨a,List.mem_cons_of_mem _ h1,h2⟩) id
theorem mg_right_ok {y:Ent} {A B:List Ent} {D:List Dif} (hy:y.v≠vz) (hA:∀ a∈A,cmpP y.p a.p=-1) (hB:∀ b∈B,cmpP y.p b.p=-1) (h:MgOk A B D):MgOk A (y::B) (⟨y.p,vz,y.v⟩::D):=by
 have hl:=lt_of_mem h hA hB
 refine ⟨List.pairwise_cons.2 ⟨hl,h.1⟩,fun d hd=>?_,fun p o n h1 h2 h3=>?_,fun d hd=>?_⟩
 ·rcases List.mem_cons.1 hd with rfl | hd
  ·exact ⟨.gone hA,.here,fun e=>hy e.symm⟩
  ·obtain ⟨k1,k2,k3⟩:=h.2.1 d hd
   exact ⟨k1,(At_.cons_ne (ne_of_lt (hl d hd))).2 k2,k3⟩
 ·by_cases e:y.p=p
  ·exact ⟨_,List.mem_cons_self,e⟩
  ·obtain ⟨d,hd,e2⟩:=h.2.2.1 p o n h1 ((At_.cons_ne e).1 h2) h3
   exact ⟨d,List.mem_cons_of_mem _ hd,e2⟩
 ·rcases List.mem_cons.1 hd with rfl | hd
  ·exact .inr ⟨y,by simp,rfl⟩
  ·exact (h.2.2.2 d hd).imp id (fun ⟨a,h1,h2⟩=>⟨a,List.mem_cons_of_mem _ h1,h2⟩)
theorem mg_both_ok {x y:Ent} {A B:List Ent} {D:List Dif} (e:x.p=y.p) (hA:∀ a∈A,cmpP x.p a.p=-1) (hB:∀ b∈B,cmpP x.p b.p=-1) (h:MgOk A B D):MgOk (x::A) (y::B) (df x.p x.v y.v++D):=by
 have hl:=lt_of_mem h hA hB
 have hy:At_ (y::B) x.p y.v:=by rw [e];exact .here
 unfold df
 by_cases hv:x.v=y.v
 ·rw [if_pos hv,List.nil_append]
  refine ⟨h.1,fun d hd=>?_,fun p o n h1 h2 h3=>?_,fun d hd=>?_⟩
  ·obtain ⟨k1,k2,k3⟩:=h.2.1 d hd
   exact ⟨(At_.cons_ne (ne_of_lt (hl d hd))).2 k1,(At_.cons_ne (by rw [← e];exact ne_of_lt (hl d hd))).2 k2,k3⟩
  ·by_cases e2:x.p=p
   ·exfalso
    subst e2
    have q1:o=x.v:=by
     rcases h1 with ⟨a,ha,e3,rfl⟩ | ⟨h1,_⟩
     ·rcases List.mem_cons.1 ha with rfl | ha
      ·rfl
      ·exact absurd e3.symm (ne_of_lt (hA a ha))
     ·exact absurd rfl (h1 x (by simp))
    have q2:n=y.v:=by
     rcases h2 with ⟨a,ha,e3,rfl⟩ | ⟨h2,_⟩
     ·rcases List.mem_cons.1 ha with rfl | ha
      ·rfl
      ·exact absurd e3.symm (ne_of_lt (hB a ha))
     ·exact absurd e.symm (h2 y (by simp))
    exact h3 (by rw [q1,q2,hv])
   ·obtain ⟨d,hd,e3⟩:=h.2.2.1 p o n ((At_.cons_ne e2).1 h1) ((At_.cons_ne (by rw [← e];exact e2)).1 h2) h3
    exact ⟨d,hd,e3⟩
  ·exact (h.2.2.2 d hd).imp (fun ⟨a,h1,h2⟩=>⟨a,List.mem_cons_of_mem _ h1,h2⟩) (fun ⟨a,h1,h2⟩=>⟨a,List.mem_cons_of_mem _ h1,h2⟩)
 ·rw [if_neg hv,List.singleton_append]
  refine ⟨List.pairwise_cons.2 ⟨hl,h.1⟩,fun d hd=>?_,fun p o n h1 h2 h3=>?_,fun d hd=>?_⟩
  ·rcases List.mem_cons.1 hd with rfl | hd
   ·exact ⟨.here,hy,hv⟩
   ·obtain ⟨k1,k2,k3⟩:=h.2.1 d hd
    exact ⟨(At_.cons_ne (ne_of_lt (hl d hd))).2 k1,(At_.cons_ne (by rw [← e];exact ne_of_lt (hl d hd))).2 k2,k3⟩
  ·by_cases e2:x.p=p
   ·exact ⟨_,List.mem_cons_self,e2⟩
   ·obtain ⟨d,hd,e3⟩:=h.2.2.1 p o n ((At_.cons_ne e2).1 h1) ((At_.cons_ne (by rw [← e];exact e2)).1 h2) h3
    exact ⟨d,List.mem_cons_of_mem _ hd,e3⟩
  ·rcases List.mem_cons.1 hd with rfl | hd
   ·exact .inl ⟨x,by simp,rfl⟩
   ·exact (h.2.2.2 d hd).imp (fun ⟨a,h1,h2⟩=>⟨a,List.mem_cons_of_mem _ h1,h2⟩) (fun ⟨a,h1,h2⟩=>⟨a,List.mem_cons_of_mem _ h1,h2⟩)
theorem mg_ok:∀ (f:Nat) (A B:List Ent),A.length+B.length<f→Srt A→Srt B→(∀ a∈A,a.v≠vz)→(∀ b∈B,b.v≠vz)→MgOk A B (mgE f A B)
 | 0,A,B,h,_,_,_,_=>by omega
 | f+1,[],[],_,_,_,_,_=>⟨.nil,fun d h=>(List.not_mem_nil h).elim,fun p o n h1 h2 h3=>by
   rcases h1 with ⟨a,h,_⟩ | ⟨_,rfl⟩
   ·exact (List.not_mem_nil h).elim
   ·rcases h2 with ⟨a,h,_⟩ | ⟨_,rfl⟩
    ·exact (List.not_mem_nil h).elim
    ·exact absurd rfl h3,fun d h=>(List.not_mem_nil h).elim⟩
 | f+1,x::A,[],h,sa,sb,va,vb=>by
  rw [mgE]
  exact mg_left_ok (va x (by simp)) (List.pairwise_cons.1 sa).1 (fun b hb=>(List.not_mem_nil hb).elim) (mg_ok f A [] (by simp at h ⊢;omega) (List.pairwise_cons.1 sa).2 sb (vals_tail va) vb)
 | f+1,[],y::B,h,sa,sb,va,vb=>by
  rw [mgE]
  exact mg_right_ok (vb y (by simp)) (fun b hb=>(List.not_mem_nil hb).elim) (List.pairwise_cons.1 sb).1 (mg_ok f [] B (by simp at h ⊢;omega) sa (List.pairwise_cons.1 sb).2 va (vals_tail vb))
 | f+1,x::A,y::B,h,sa,sb,va,vb=>by
  rw [mgE]
  have a1:=(List.pairwise_cons.1 sa).1
  have b1:=(List.pairwise_cons.1 sb).1
  rcases cmpP_three x.p y.p with e | e | e
  ·rw [if_pos (by omega)]
   exact mg_left_ok (va x (by simp)) a1 (fun b hb=>by
    rcases List.mem_cons.1 hb with rfl | hb
    ·exact e
    ·exact cmpP_trans e (b1 b hb)) (mg_ok f A (y::B) (by simp at h ⊢;omega) (List.pairwise_cons.1 sa).2 sb (vals_tail va) vb)
  ·have e2:=cmpP_eq e
   rw [if_neg (by omega),if_neg (by omega)]
   exact mg_both_ok e2 a1 (fun b hb=>by rw [e2];exact b1 b hb) (mg_ok f A B (by simp at h ⊢;omega) (List.pairwise_cons.1 sa).2 (List.pairwise_cons.1 sb).2 (vals_tail va) (vals_tail vb))
  ·have e3:cmpP y.p x.p=-1:=by have:=cmpP_neg x.p y.p;omega
   rw [if_neg (by omega),if_pos (by omega)]
   exact mg_right_ok (vb y (by simp)) (fun b hb=>by
    rcases List.mem_cons.1 hb with rfl | hb
    ·exact e3
    ·exact cmpP_trans e3 (a1 b hb)) b1 (mg_ok f (x::A) B (by simp at h ⊢;omega) sa (List.pairwise_cons.1 sb).2 va (vals_tail vb))
end Go.Proofs.YthfcanpkhjgomaaGreat.DO
