import Derived.Test.YtdeanahpiigonaaGreatDoorSRefBlock
set_option maxRecDepth 100000
set_option maxHeartbeats 4000000
namespace Go.Proofs.YtdeanahpiigonaaGreatDoor.Su
open Go.RowKit
theorem nl {W:World} {g:Nat} {T:TypeId} {fr:Nat × Nat} (c:Array Value) (p:List Nat) (hc:c=(p.map vb).toArray) (hg:W.heap[g]?=some (.cells c T fr)):Has W (.slice (some ⟨g,0,none⟩) p.length p.length) p:=by
 refine .inr ⟨⟨g,0,none⟩,p.length,rfl,Nat.le_refl _,fun i hi=>?_⟩
 rw [aV,Nat.zero_add,cell_of_row _ g i _ _ _ hg,hc]
 simp [List.getD,hi]
theorem iL (n i:Nat) (hi:i<8):(Sha.tail8 n).take i++[8*n/2 ^ (56-8*i)%256]=(Sha.tail8 n).take (i+1):=by
 obtain ⟨N,hN⟩:∃ N,N=8*n:=⟨_,rfl⟩
 unfold Sha.tail8
 rw [← hN]
 match i,hi with
 | 0,_ | 1,_ | 2,_ | 3,_ | 4,_ | 5,_ | 6,_ | 7,_=>simp [Sha.four];try omega
theorem xX (l:List Nat):Sha.pad l=l++(128::List.replicate ((119-l.length%64)%64) 0)++Sha.tail8 l.length:=by
 unfold Sha.pad Sha.tail8;simp
def padM (n:Nat) (v:Value):Nat:=match v with | .slice _ m _=>n+200-m | _=>0
theorem iM (v:Value) (l:List Nat) (w:World) (hv:Has w v l) (hl:l.length≤100000):
  Calls Tryz.prog 61 #[v] w fun e w'=>∃ u,e=.returned u∧Owns w' w.heap.size u (Sha.pad l)∧Below w.heap.size w w':=by
 obtain ⟨ao,cap,rfl,_⟩:=hv.form
 have HV:Hid (Has w (.slice ao l.length cap) l):=hv
 obtain ⟨n,hn⟩:∃ n,n=l.length:=⟨_,rfl⟩
 have HN:Hid (n=l.length):=hn
 rw [← hn]
 rw [← hn] at hl
 clear hv hn
 go_enter Tryz.func61,Tryz.ntmps61
 go_wp2_with (first
  | (at_builtin;refine jd rfl (.tmp 6) (.tmp 7) rfl w.heap.size _ _ [] l rfl rfl (Owns.nil _ _) (by rw [HN.out];exact HV.out) (by have:=HN.out;simp;omega) (Nat.le_refl _) ?_;intro v1 w1 ho1 hb1;rw [List.nil_append] at ho1;have H1:Hid (Owns w1 w.heap.size v1 l∧Below w.heap.size w w1):=⟨ho1,hb1⟩;clear ho1 hb1)
  | (at_builtin;refine jd rfl (.tmp 9) (.tmp 10) rfl w.heap.size _ _ l [128] rfl rfl (H1.out.1.block fun q hq=>heap_alloc_old _ _ (H1.out.1.lt q hq).2) (nl _ [128] rfl (heap_alloc_new _ _)) (by have:=HN.out;simp;omega) (by have:=H1.out.2.size;simp;omega) ?_;intro v2 w2 ho2 hb2;have H2:Hid (Owns w2 w.heap.size v2 (l++[128])∧Below w.heap.size w w2):=⟨ho2,H1.out.2.trans (((Below.refl w.heap.size w1).alloc H1.out.2.size _).trans hb2)⟩;clear ho2 hb2))
 go_loopw [3] (fun ov wr=>∃ (j:Nat),j≤(119-n%64)%64∧Hid (Owns wr w.heap.size ov (l++(128::List.replicate j 0)))∧Hid (Below w.heap.size w wr)) (fun ov _=>padM n ov)
 case atStart=>exact ⟨0,by omega,H2.out.1,H2.out.2⟩
 case round=>
  clear H2 H1
  obtain ⟨j,hj,HO,HW⟩:=hrel
  have hol:(l++(128::List.replicate j 0)).length=n+1+j:=by rw [List.length_append,← HN.out];simp;omega
  obtain ⟨oo,oc,e0,_⟩:=HO.out.has.form
  subst e0
  obtain ⟨m,hm⟩:∃ m,m=n+1+j:=⟨_,rfl⟩
  rw [hol,← hm] at HO ⊢
  have HOL:Hid ((l++(128::List.replicate j 0)).length=m):=by show _=_;rw [hol,hm]
  by_cases hlt:j<(119-n%64)%64
  ·have h1:((m:Int)%64 !=56)=true:=by simp;omega
   have h2:¬ ((m:Int)%64=56):=by omega
   have HN2:Hid (l++(128::List.replicate j 0)++[0]=l++(128::List.replicate (j+1) 0)):=by show _=_;rw [List.replicate_succ'];simp
   clear hol
   go_wp2_with (at_builtin;refine jd rfl (.tmp 16) (.tmp 17) rfl w.heap.size _ _ _ [0] rfl rfl (HO.out.block fun q hq=>heap_alloc_old _ _ (HO.out.lt q hq).2) (nl _ [0] rfl (heap_alloc_new _ _)) (by have:=HOL.out;simp only [List.length_singleton];omega) (by have:=HW.out.size;simp;omega) ?_;intro v2 w2 ho2 hb2;have H2:Hid (Owns w2 w.heap.size v2 (l++(128::List.replicate (j+1) 0))∧Below w.heap.size w w2):=⟨by rw [← HN2.out];exact ho2,HW.out.trans (((Below.refl w.heap.size wr).alloc HW.out.size _).trans hb2)⟩;clear ho2 hb2)
   have hol2:(l++(128::List.replicate (j+1) 0)).length=m+1:=by rw [← HN2.out,List.length_append,HOL.out];rfl
   obtain ⟨oo2,oc2,e2,_⟩:=H2.out.1.has.form
   subst e2
   go_roundw
   case rel=>exact ⟨j+1,by omega,H2.out.1,H2.out.2⟩
   case measure=>simp only [padM];omega
  ·have hj2:j=(119-n%64)%64:=by omega
   have h1:((m:Int)%64 !=56)=false:=by simp;omega
   have h2:(m:Int)%64=56:=by omega
   obtain ⟨P,hP⟩:∃ P,P=l++(128::List.replicate j 0):=⟨_,rfl⟩
   have HP:Hid (Sha.pad l=P++Sha.tail8 n):=by show _=_;rw [xX,hP,← HN.out,hj2]
   rw [← hP] at HO HOL
   have h8:IntKind.u64.wrap (8*(n:Int))=8*(n:Int):=by rw [IntKind.wrap_u64];omega
   have hmle:m≤100200:=by omega
   clear hP hol hj2 hlt hm hj
   go_wp2_with fail
   clear h1 h2
   go_loopw [3,5] (fun ov i wr=>∃ (k:Nat) (T:List Nat),k≤8∧i=.int .i64 k∧Hid (T=P++(Sha.tail8 n).take k)∧Hid (Owns wr w.heap.size ov T)∧Hid (Below w.heap.size w wr)) (fun _ i _=>8-(intOf i).toNat)
   case atStart=>exact ⟨0,P,by omega,rfl,by show _=_;simp,HO.out,HW.out⟩
   case round=>
    clear HO HW
    obtain ⟨k,T,hk,rfl,HT,HO,HW⟩:=hrel
    obtain ⟨oo2,oc2,e0,_⟩:=HO.out.has.form
    subst e0
    by_cases hlt:k<8
    ·have hkI:(k:Int)<8:=by omega
     obtain ⟨q,hq⟩:∃ q,q=8*n/2 ^ (56-8*k):=⟨_,rfl⟩
     have HTN:Hid (T++[q%256]=P++(Sha.tail8 n).take (k+1)):=by show _=_;rw [HT.out,hq,List.append_assoc,iL n k hlt]
     have HTL:Hid (T.length≤200000):=by
      show _≤_
      rw [HT.out,List.length_append,HOL.out];simp [Sha.yl];omega
     have hqI:(8*(n:Int))/2 ^ (56-8*k)=(q:Int):=by rw [hq,Int.natCast_ediv,Int.natCast_pow];rfl
     clear hq HT
     have hvb:(#[Value.int .u8 ((q:Int)%256)]:Array Value)=([q%256].map vb).toArray:=by simp [vb]
     have HVB:Hid ((#[Value.int .u8 ((q:Int)%256)]:Array Value)=([q%256].map vb).toArray):=hvb
     clear hvb
     go_wp2_with (at_builtin;refine jd rfl (.tmp 27) (.tmp 35) rfl w.heap.size _ _ _ [q%256] rfl rfl (HO.out.block fun q hq=>heap_alloc_old _ _ (HO.out.lt q hq).2) (nl _ [q%256] HVB.out (heap_alloc_new _ _)) (by have:=HTL.out;simp only [List.length_singleton];omega) (by have:=HW.out.size;simp;omega) ?_;intro v2 w2 ho2 hb2;have H2:Hid (Owns w2 w.heap.size v2 (T++[q%256])∧Below w.heap.size w w2):=⟨ho2,HW.out.trans (((Below.refl w.heap.size wr).alloc HW.out.size _).trans hb2)⟩;clear ho2 hb2)
     obtain ⟨oo3,oc3,e3,_⟩:=H2.out.1.has.form
     subst e3
     go_roundw
     case rel=>exact ⟨k+1,T++[q%256],by omega,by go_num,HTN.out,H2.out.1,H2.out.2⟩
     case measure=>simp [intOf];omega
    ·have hkI:¬ (k:Int)<8:=by omega
     obtain rfl:k=8:=by omega
     have RR:Hid (Owns wr w.heap.size (.slice oo2 T.length oc2) (Sha.pad l)∧Below w.heap.size w wr):=⟨by rw [HP.out,show Sha.tail8 n=(Sha.tail8 n).take 8 from rfl,← HT.out];exact HO.out,HW.out⟩
     clear HO HW HT HP
     go_wp2
     go_ret
     exact ⟨_,rfl,RR.out⟩
theorem dg (W:World) (l:List Nat) (c:Array Value) (T:TypeId) (hc:c=(l.map vq).toArray):HasQ (W.alloc (.cells c T)) (.slice (some ⟨W.heap.size,0,none⟩) l.length l.length) l:=by
 refine .inr ⟨_,_,rfl,Nat.le_refl _,fun i hi=>?_⟩
 rw [cell_of_row _ _ i _ _ _ (heap_alloc_new W _),hc]
 simp [List.getD,hi]
theorem iN (w:World):Calls Tryz.prog 59 #[] w fun e w'=>∃ u,e=.returned u∧HasQ w' u (jZ Sha.first)∧Below w.heap.size w w':=by
 go_enter Tryz.func59,Tryz.ntmps59
 go_wp2
 go_ret
 exact ⟨_,rfl,dg w (jZ Sha.first) _ 68 rfl,(Below.refl _ w).alloc (Nat.le_refl _) _⟩
theorem nn (w:World):Calls Tryz.prog 60 #[] w fun e w'=>∃ u,e=.returned u∧HasQ w' u Sha.ks∧Below w.heap.size w w':=by
 go_enter Tryz.func60,Tryz.ntmps60
 go_wp2
 go_ret
 exact ⟨_,rfl,dg w Sha.ks _ 68 rfl,(Below.refl _ w).alloc (Nat.le_refl _) _⟩
theorem iP (a:Addr) (i j:Nat):(a.add i).add j=a.add (i+j):=by
 unfold Addr.add
 by_cases h1:i=0
 ·subst h1;simp
 ·by_cases h2:j=0
  ·subst h2;simp [h1]
  ·simp [h1,h2,Nat.add_assoc]
theorem cut43 (a:Addr) (len cap lo hi:Nat) (h:lo<hi) (hh:hi≤len) (hc:len≤cap) (wz:World):(Instr.sliceAt 25 (.slice (some a) len cap) (some (.int .i64 (lo:Int))) (some (.int .i64 (hi:Int))) none).run Tryz.prog wz=.ok (.slice (some (a.add lo)) (hi-lo) (cap-lo)) wz:=by
 have h1:(Tryz.prog.info? 5).map (·.size)=some 1:=by kernel_rfl
 cases hq:Tryz.prog.info? 5 with
 | none=>simp [hq] at h1
 | some i=>
  have hs:i.size=1:=by simpa [hq] using h1
  rw [run_sliceAt_slice _ 25 _ _ _ _ Tryz.underlying25]
  rw [run_slice_lh _ 25 (some a) len cap Tryz.underlying25 .i64 .i64 lo hi (by omega) (by omega) (by omega)]
  simp [sizeOf,typeInfo,show Tryz.prog.elem 25=5 by kernel_rfl,hq,hs,sliced,Result.andThen]
  intro h0;omega
theorem Has.part {w:World} {a:Addr} {cap:Nat} {l:List Nat} (h:Has w (.slice (some a) l.length cap) l) (lo m:Nat) (p:List Nat) (hp:p=(l.drop lo).take m) (hl:lo+m≤l.length):Has w (.slice (some (a.add lo)) m (cap-lo)) p:=by
 rcases h with ⟨h,_⟩ | ⟨a',c',e,hc,hcell⟩
 ·cases h
 ·simp only [Value.slice.injEq,Option.some.injEq,true_and] at e
  obtain ⟨rfl,rfl⟩:=e
  have hpl:p.length=m:=by rw [hp];simp;omega
  refine .inr ⟨a.add lo,cap-lo,by rw [hpl],by rw [hpl];omega,fun i hi=>?_⟩
  rw [hpl] at hi
  rw [iP,hcell (lo+i) (by omega),hp]
  simp only [List.getD,List.getElem?_take,List.getElem?_drop]
  rw [if_pos hi]
theorem a0O (u v:Sha.V):vok (Sha.plus u v):=
 ⟨Nat.mod_lt _ (by decide),Nat.mod_lt _ (by decide),Nat.mod_lt _ (by decide),Nat.mod_lt _ (by decide),Nat.mod_lt _ (by decide),Nat.mod_lt _ (by decide),Nat.mod_lt _ (by decide),Nat.mod_lt _ (by decide)⟩
theorem a2f (V:Sha.V) (b:List Nat):vok (Sha.mix V b):=by
 unfold Sha.mix
 exact a0O _ _
theorem c8 {f:Sha.V→List Nat→Sha.V} (hf:∀ V b,vok (f V b)):∀ (k:Nat) (l:List Nat) (V:Sha.V),vok V→vok (Sha.blocks f k l V)
 | 0,_,_,h=>h
 | k+1,_,_,_=>c8 hf k _ _ (hf _ _)
theorem dh (f:Sha.V→List Nat→Sha.V) (k:Nat) (l:List Nat) (V:Sha.V):Sha.blocks f (k+1) l V=f (Sha.blocks f k l V) ((l.drop (64*k)).take 64):=by
 rw [Sha.c9];rfl
theorem pu:vok Sha.first:=by unfold vok Sha.first;decide
theorem a0P (l:List Nat):(Sha.pad l).length=64*((Sha.pad l).length/64):=by
 rw [xX]
 simp only [List.length_append,List.length_cons,List.length_replicate,Sha.yl]
 omega
theorem np {l:List Nat} (h:Bytes l):Bytes (Sha.pad l):=by
 intro x hx
 unfold Sha.pad Sha.four at hx
 simp only [List.mem_append,List.mem_cons,List.mem_replicate,List.not_mem_nil,or_false] at hx
 rcases hx with hx | hx | hx | hx | hx
 ·exact h x hx
 all_goals omega
theorem py (V:Sha.V) (k:Nat) (hk:k<32):(Sha.out V).getD k 0=(jZ V).getD (k/4) 0/2 ^ (24-8*(k%4))%256:=by
 obtain ⟨a,b,c,d,e,f,g,h⟩:=V
 match k,hk with
 | 0,_ | 1,_ | 2,_ | 4,_ | 5,_ | 6,_ | 8,_ | 9,_ | 10,_ | 12,_ | 13,_ | 14,_ | 16,_ | 17,_ | 18,_ | 20,_ | 21,_ | 22,_ | 24,_ | 25,_ | 26,_ | 28,_ | 29,_ | 30,_=>rfl
 | 3,_=>exact (congrArg (·%256) (Nat.div_one a)).symm
 | 7,_=>exact (congrArg (·%256) (Nat.div_one b)).symm
 | 11,_=>exact (congrArg (·%256) (Nat.div_one c)).symm
 | 15,_=>exact (congrArg (·%256) (Nat.div_one d)).symm
 | 19,_=>exact (congrArg (·%256) (Nat.div_one e)).symm
 | 23,_=>exact (congrArg (·%256) (Nat.div_one f)).symm
 | 27,_=>exact (congrArg (·%256) (Nat.div_one g)).symm
 | 31,_=>exact (congrArg (·%256) (Nat.div_one h)).symm
 | n+32,hk=>exact absurd hk (by omega)
theorem nr {l:List Nat} {k:Nat} (h:k<l.length):l.take k++[l.getD k 0]=l.take (k+1):=by
 rw [List.take_succ_eq_append_getElem h];simp [List.getD,gl h]
theorem iO (v:Value) (l:List Nat) (w:World) (hv:Has w v l) (hB:Bytes l) (hl:l.length≤100000):
  Calls Tryz.prog 24 #[v] w fun e w'=>e=.returned (.agg ((Sha.sha l).map vb).toArray)∧Below w.heap.size w w':=by
 obtain ⟨P,hP⟩:∃ P,P=Sha.pad l:=⟨_,rfl⟩
 obtain ⟨n,hn⟩:∃ n,n=P.length/64:=⟨_,rfl⟩
 have hPl:P.length=64*n:=by rw [hn,hP];exact a0P l
 obtain ⟨mx,hmx⟩:∃ mx,mx=Sha.mix:=⟨_,rfl⟩
 have HS:Hid (Sha.sha l=Sha.out (Sha.blocks mx n P Sha.first)):=by show _=_;rw [hmx,hn,hP];unfold Sha.sha Sha.shaF;rfl
 have HMO:Hid (∀ k,vok (Sha.blocks mx k P Sha.first)):=fun k=>c8 (by rw [hmx];exact a2f) k P _ pu
 have C43:Hid (∀ wz vh vk vb' V b,HasQ wz vh (jZ V)→vok V→HasQ wz vk Sha.ks→Has wz vb' b→Bytes b→b.length=64→Calls Tryz.prog 62 #[vh,vk,vb'] wz fun e w'=>∃ g c,e=.returned (.slice (some ⟨g,0,none⟩) 8 c)∧(HasQ w' (.slice (some ⟨g,0,none⟩) 8 c) (jZ (mx V b))∧Below wz.heap.size wz w')):=fun wz vh vk vb' V b q1 q2 q3 q4 q5 q6=>
  (nk vh vk vb' V b wz q1 q2 q3 q4 q5 q6).mono fun e w' ⟨u,r1,r2,r3⟩=>by
   rw [← hmx] at r2
   obtain ⟨g,c,e2,_⟩:=r2.has.at (by simp [jZ])
   rw [show (jZ (mx V b)).length=8 from rfl] at e2
   exact ⟨g,c,by rw [r1,e2],by rw [← e2];exact r2.has,r3⟩
 have hPs:P.length≤110000:=by rw [hP,xX];simp only [List.length_append,List.length_cons,List.length_replicate,Sha.yl];omega
 have hPp:0<P.length:=by rw [hP,xX];simp only [List.length_append,List.length_cons,List.length_replicate,Sha.yl];omega
 have HPB:Hid (Bytes P):=by show Bytes P;rw [hP];exact np hB
 obtain ⟨pn,hpn⟩:∃ pn,pn=P.length:=⟨_,rfl⟩
 have HPN:Hid (pn=P.length∧pn=64*n):=⟨hpn,by omega⟩
 have C40:Hid (∀ wz,Calls Tryz.prog 59 #[] wz fun e w'=>∃ gs cs,e=.returned (.slice (some ⟨gs,0,none⟩) 8 cs)∧(HasQ w' (.slice (some ⟨gs,0,none⟩) 8 cs) (jZ Sha.first)∧Below wz.heap.size wz w')):=fun wz=>
  (iN wz).mono fun e w' ⟨u,q1,q2,q3⟩=>by
   obtain ⟨g,c,e2,_⟩:=q2.at (by simp [jZ])
   rw [show (jZ Sha.first).length=8 from rfl] at e2
   exact ⟨g,c,by rw [q1,e2],by rw [← e2];exact q2,q3⟩
 have C41:Hid (∀ wz,Calls Tryz.prog 60 #[] wz fun e w'=>∃ gs cs,e=.returned (.slice (some ⟨gs,0,none⟩) 64 cs)∧(HasQ w' (.slice (some ⟨gs,0,none⟩) 64 cs) Sha.ks∧Below wz.heap.size wz w')):=fun wz=>
  (nn wz).mono fun e w' ⟨u,q1,q2,q3⟩=>by
   obtain ⟨g,c,e2,_⟩:=q2.at (by decide)
   rw [show Sha.ks.length=64 from rfl] at e2
   exact ⟨g,c,by rw [q1,e2],by rw [← e2];exact q2,q3⟩
 have C42:Hid (∀ wz,Below w.heap.size w wz→Calls Tryz.prog 61 #[v] wz fun e w'=>∃ a pc,e=.returned (.slice (some a) pn pc)∧(Has w' (.slice (some a) pn pc) P∧pn≤pc∧Below wz.heap.size wz w')):=fun wz hz=>
  (iM v l wz (hv.below hz) hl).mono fun e w' ⟨u,q1,q2,q3⟩=>by
   rw [← hP] at q2
   have q4:=q2.has
   rcases q4 with ⟨_,h0⟩ | ⟨a,c,e2,hc,hcell⟩
   ·rw [h0] at hPp;cases hPp
   ·rw [← hpn] at e2 hc
    exact ⟨a,c,by rw [q1,e2],by rw [← e2];exact q2.has,hc,q3⟩
 rw [← hpn] at hPs
 clear hv hB hl hP hn hmx hPl hPp hpn
 go_enter Tryz.func24,Tryz.ntmps24
 go_upto_region 1 with fail
 rw [z41]
 refine qY (fun W=>W.heap[w.heap.size]?=some (.cells (jY 32 []) 22 (0,0))∧Below w.heap.size w W) ⟨heap_alloc_new _ _,(Below.refl _ w).alloc (Nat.le_refl _) _⟩ fun w0 HH0=>?_
 have H0:Hid (w0.heap[w.heap.size]?=some (.cells (jY 32 []) 22 (0,0))∧Below w.heap.size w w0):=HH0
 clear HH0
 go_upto_region 3 with (first
  | (go_at_call 59;refine (C40.out _).mono ?_;rintro e w1 ⟨g1,c1,rfl,h1⟩;have H1:Hid (HasQ w1 (.slice (some ⟨g1,0,none⟩) 8 c1) (jZ Sha.first)∧Below w0.heap.size w0 w1):=h1;clear h1)
  | (go_at_call 60;refine (C41.out _).mono ?_;rintro e w2 ⟨g2,c2,rfl,h2⟩;have H2:Hid (HasQ w2 (.slice (some ⟨g2,0,none⟩) 64 c2) Sha.ks∧HasQ w2 (.slice (some ⟨g1,0,none⟩) 8 c1) (jZ Sha.first)∧Below w0.heap.size w0 w2):=⟨h2.1,H1.out.1.below h2.2,H1.out.2.trans (h2.2.mono H1.out.2.size)⟩;clear h2)
  | (go_at_call 61;refine (C42.out _ (Below.up H0.out.2 H2.out.2.2)).mono ?_;rintro e w3 ⟨a,pc,rfl,h3⟩;have H3:Hid (Has w3 (.slice (some a) pn pc) P∧HasQ w3 (.slice (some ⟨g2,0,none⟩) 64 c2) Sha.ks∧HasQ w3 (.slice (some ⟨g1,0,none⟩) 8 c1) (jZ Sha.first)∧w3.heap[w.heap.size]?=some (.cells (jY 32 []) 22 (0,0))∧Below w.heap.size w w3):=⟨h3.1,H2.out.1.below h3.2.2,H2.out.2.1.below h3.2.2,by rw [h3.2.2.block _ (by have:=(ga H0.out.1).1;have:=H2.out.2.2.size;omega),H2.out.2.2.block _ (ga H0.out.1).1];exact H0.out.1,Below.up (Below.up H0.out.2 H2.out.2.2) h3.2.2⟩;have hpc:=h3.2.1;clear h3))
 clear H0 H1 H2 C40 C41 C42
 go_wp2_with fail
 go_loopw [3,6] (fun hv i wr=>∃ (k gv cv:Nat),k≤n∧i=.int .i64 ((64*k:Nat):Int)∧hv=.slice (some ⟨gv,0,none⟩) 8 cv∧Hid (HasQ wr (.slice (some ⟨gv,0,none⟩) 8 cv) (jZ (Sha.blocks mx k P Sha.first)))∧Hid (Below w3.heap.size w3 wr)) (fun _ i _=>pn+64-(intOf i).toNat)
 case atStart=>exact ⟨0,g1,c1,by omega,rfl,rfl,H3.out.2.2.1,Below.refl _ _⟩
 case round=>
  obtain ⟨k,gv,cv,hk,rfl,rfl,HV,HW⟩:=hrel
  by_cases hlt:k<n
  ·have hp64:=HPN.out.2
   obtain ⟨lo,hlo⟩:∃ lo,lo=64*k:=⟨_,rfl⟩
   obtain ⟨A,hA⟩:∃ A,A=a.add lo:=⟨_,rfl⟩
   have hsl:=cut43 a pn pc lo (lo+64) (by omega) (by omega) hpc
   rw [← hA,show lo+64-lo=64 by omega,show ((lo+64:Nat):Int)=(lo:Int)+64 by omega] at hsl
   have hw1:IntKind.i64.wrap ((lo:Int)+64)=(lo:Int)+64:=by rw [IntKind.wrap_i64];omega
   have hltI:(lo:Int)<(pn:Int):=by omega
   have HLO:Hid (lo+64=64*(k+1)∧k+1≤n):=⟨by omega,by omega⟩
   have C:Hid (Calls Tryz.prog 62 #[.slice (some ⟨gv,0,none⟩) 8 cv,.slice (some ⟨g2,0,none⟩) 64 c2,.slice (some A) 64 (pc-lo)] wr fun e w'=>∃ g c,e=.returned (.slice (some ⟨g,0,none⟩) 8 c)∧(HasQ w' (.slice (some ⟨g,0,none⟩) 8 c) (jZ (Sha.blocks mx (k+1) P Sha.first))∧Below w3.heap.size w3 w')):=by
    rw [dh]
    refine (C43.out wr _ _ (.slice (some A) 64 (pc-lo)) _ ((P.drop (64*k)).take 64) HV.out (HMO.out k) (H3.out.2.1.below HW.out) ?_ (fun x hx=>HPB.out x (List.mem_of_mem_drop (List.mem_of_mem_take hx))) (by have:=HPN.out;rw [List.length_take,List.length_drop];omega)).mono fun e w' ⟨g,c,q1,q2,q3⟩=>⟨g,c,q1,q2,Below.up HW.out q3⟩
    rw [hA]
    have h3:=H3.out.1
    have hpn:=HPN.out.1
    rw [hpn] at h3
    exact Has.part (h3.below HW.out) lo 64 _ (by rw [hlo]) (by omega)
   rw [← hlo]
   clear hlo hA hp64 hlt hk HV
   go_wp2_with (go_at_call 62;refine C.out.mono ?_;rintro e w4 ⟨g4,c4,rfl,h4⟩;have H4:Hid (HasQ w4 (.slice (some ⟨g4,0,none⟩) 8 c4) (jZ (Sha.blocks mx (k+1) P Sha.first))∧Below w3.heap.size w3 w4):=h4;clear h4)
   go_roundw
   case rel=>exact ⟨k+1,g4,c4,HLO.out.2,by rw [← HLO.out.1];go_num,rfl,H4.out.1,H4.out.2⟩
   case measure=>simp [intOf];omega
  ·obtain rfl:k=n:=by omega
   have hp64:=HPN.out.2
   have hltI:¬ (((64*k:Nat):Int)<(pn:Int)):=by omega
   obtain ⟨lo,hlo⟩:∃ lo,lo=64*k:=⟨_,rfl⟩
   rw [← hlo] at hltI ⊢
   obtain ⟨V,hV⟩:∃ V,V=Sha.blocks mx k P Sha.first:=⟨_,rfl⟩
   obtain ⟨O,hO⟩:∃ O,O=Sha.sha l:=⟨_,rfl⟩
   have HOO:Hid (O=Sha.out V∧O.length=32∧O=Sha.sha l∧vok V):=⟨by rw [hO,HS.out,hV],by rw [hO];exact zR l,hO,by rw [hV];exact HMO.out k⟩
   rw [← hV] at HV
   have hsz:w.heap.size<wr.heap.size:=by have:=(ga H3.out.2.2.2.1).1;have:=HW.out.size;omega
   have H5:Hid (wr.heap[w.heap.size]?=some (.cells (jY 32 []) 22 (0,0))∧Below w.heap.size w wr∧HasQ wr (.slice (some ⟨gv,0,none⟩) 8 cv) (jZ V)):=⟨by rw [HW.out.block _ (ga H3.out.2.2.2.1).1];exact H3.out.2.2.2.1,Below.up H3.out.2.2.2.2 HW.out,HV.out⟩
   clear hV hO hlo hp64 hlt hk HV HW H3 HS HMO C43 HPB
   go_upto_region 8 with fail
   rw [z41]
   refine qY (fun W=>W.heap[wr.heap.size]?=some (.cells (jY 32 (O.take 0)) 22 (0,0))∧W.heap[w.heap.size]?=some (.cells (jY 32 []) 22 (0,0))∧Below w.heap.size w W∧HasQ W (.slice (some ⟨gv,0,none⟩) 8 cv) (jZ V)) ⟨heap_alloc_new _ _,by rw [heap_alloc_old _ _ hsz];exact H5.out.1,H5.out.2.1.alloc H5.out.2.1.size _,H5.out.2.2.below ((Below.refl _ wr).alloc (Nat.le_refl _) _)⟩ fun w6 HH6=>?_
   obtain ⟨g7,hg7⟩:∃ g7,g7=wr.heap.size:=⟨_,rfl⟩
   rw [← hg7] at HH6 hsz ⊢
   have H6:Hid (w6.heap[g7]?=some (.cells (jY 32 (O.take 0)) 22 (0,0))∧w6.heap[w.heap.size]?=some (.cells (jY 32 []) 22 (0,0))∧Below w.heap.size w w6∧HasQ w6 (.slice (some ⟨gv,0,none⟩) 8 cv) (jZ V)):=HH6
   have hgv:gv≠g7:=by
    have h:=zX H5.out.2.2 0 (by omega)
    have:=block_lt_of_cell h
    rw [hg7]
    show gv≠wr.heap.size
    have:gv<wr.heap.size:=this
    omega
   clear HH6 hg7 H5
   go_wp2_with fail
   go_loopw [8] (fun i wr=>∃ (k:Nat),k≤32∧i=.int .i64 k∧Hid (wr.heap[g7]?=some (.cells (jY 32 (O.take k)) 22 (0,0))∧wr.heap[w.heap.size]?=some (.cells (jY 32 []) 22 (0,0))∧Below w.heap.size w wr∧HasQ wr (.slice (some ⟨gv,0,none⟩) 8 cv) (jZ V))) (fun i _=>32-(intOf i).toNat)
   case atStart=>exact ⟨0,by omega,rfl,H6.out⟩
   case round=>
    clear H6
    obtain ⟨k,hk,rfl,HR⟩:=hrel
    by_cases hlt:k<32
    ·have hkI:(k:Int)<32:=by omega
     obtain ⟨x,hx⟩:∃ x,x=(jZ V).getD (k/4) 0:=⟨_,rfl⟩
     have hxl:x<4294967296:=by rw [hx];exact cx HOO.out.2.2.2 _
     obtain ⟨q,hq⟩:∃ q,q=x/2 ^ (24-8*(k%4)):=⟨_,rfl⟩
     have hqI:(x:Int)/2 ^ (24-8*(k%4))=(q:Int):=by rw [hq,Int.natCast_ediv,Int.natCast_pow];rfl
     have HO1:Hid (O.take k++[q%256]=O.take (k+1)):=by
      show _=_
      rw [hq,hx,← py V k hlt,← HOO.out.1]
      exact nr (by rw [HOO.out.2.1];exact hlt)
     have hcx:wr.cell? ⟨gv,k/4,none⟩=some (.int .u64 (x:Int)):=by rw [zX HR.out.2.2.2 (k/4) (by omega),hx];rfl
     clear hx hq
     have hlk:(O.take k).length=k:=by rw [List.length_take,HOO.out.2.1];omega
     have hst:∃ z,wr.cell? ⟨g7,k,none⟩=some z:=⟨_,(cell_of_row _ _ k _ _ _ HR.out.1).trans (Array.getElem?_eq_getElem (by rw [kH (by omega)];exact hlt))⟩
     obtain ⟨z,hcz⟩:=hst
     have hfz:wr.frozen? ⟨g7,k,none⟩=false:=frozen_of_row _ _ k _ _ HR.out.1
     have HN:Hid ((wr.setCell ⟨g7,k,none⟩ (.int .u8 ((q:Int)%256))).heap[g7]?=some (.cells (jY 32 (O.take (k+1))) 22 (0,0))∧(wr.setCell ⟨g7,k,none⟩ (.int .u8 ((q:Int)%256))).heap[w.heap.size]?=some (.cells (jY 32 []) 22 (0,0))∧Below w.heap.size w (wr.setCell ⟨g7,k,none⟩ (.int .u8 ((q:Int)%256)))∧HasQ (wr.setCell ⟨g7,k,none⟩ (.int .u8 ((q:Int)%256))) (.slice (some ⟨gv,0,none⟩) 8 cv) (jZ V)):=by
      have hoth:∀ j,j≠g7→(wr.setCell ⟨g7,k,none⟩ (.int .u8 ((q:Int)%256))).heap[j]?=wr.heap[j]?:=fun j hj=>heap_setCell_other _ _ _ _ hj
      refine ⟨?_,?_,?_,?_⟩
      ·rw [heap_setCell_same _ _ _ _ _ _ HR.out.1]
       have h:=zV (n:=32) (l:=O.take k) (q%256) (by omega)
       rw [hlk] at h
       rw [← HO1.out,← h]
       simp [vb]
      ·rw [hoth _ (by omega)];exact HR.out.2.1
      ·exact HR.out.2.2.1.trans ⟨rfl,rfl,rfl,by simp [World.setCell],fun j hj=>hoth j (by omega)⟩
      ·rcases HR.out.2.2.2 with ⟨h,_⟩ | ⟨g',c',e',hc',hcell⟩
       ·cases h
       ·have e2:gv=g':=by simp only [Value.slice.injEq,Option.some.injEq,Addr.mk.injEq,and_true] at e';exact e'.1
        exact .inr ⟨g',c',e',hc',fun i hi=>by rw [World.cell?_of_block (hoth _ (by show g'≠g7;omega))];exact hcell i hi⟩
     clear hlk HO1
     go_wp2_with fail
     go_roundw
     case rel=>exact ⟨k+1,by omega,by go_num,HN.out⟩
     case measure=>simp [intOf];omega
    ·have hkI:¬ (k:Int)<32:=by omega
     obtain rfl:k=32:=by omega
     obtain ⟨c,hc⟩:∃ c,c=(O.map vb).toArray:=⟨_,rfl⟩
     have hrow:=HR.out.1
     rw [List.take_of_length_le (by rw [HOO.out.2.1];omega),bx HOO.out.2.1,← hc] at hrow
     have hcs:c.size=32:=by rw [hc];simp [HOO.out.2.1]
     have HF:Hid (wr.heap[g7]?=some (.cells c 22 (0,0))∧wr.heap[w.heap.size]?=some (.cells (jY 32 []) 22 (0,0))∧(Tryz.prog.info? 22).map (·.size)=some c.size∧c.all (·.oneCell')=true∧(jY 32 []).size=c.size):=
      ⟨hrow,HR.out.2.1,by rw [hcs];kernel_rfl,by rw [hc];exact aE _,by rw [kH (by simp),hcs]⟩
     have HRS:Hid ((wr.setRow w.heap.size c).heap[w.heap.size]?=some (.cells c 22 (0,0))∧Below w.heap.size w (wr.setRow w.heap.size c)):=⟨setRow_heap _ _ _ _ _ _ HR.out.2.1,below_setRow HR.out.2.2.1 (Nat.le_refl _) c⟩
     have HCE:Hid (c=((Sha.sha l).map vb).toArray):=by show _=_;rw [hc,HOO.out.2.2.1]
     clear hrow HR hc hcs HOO
     go_wp2_with (first | refine wpList_load_row rfl 22 (.tmp 7) rfl g7 rfl 22 c (0,0) (.array 32 5) HF.out.1 Tryz.underlying22 rfl HF.out.2.2.1 ?_ | refine wpList_store_row rfl 22 (.tmp 2) (.tmp 45) rfl w.heap.size c rfl rfl 22 (jY 32 []) HF.out.2.1 HF.out.2.2.1 HF.out.2.2.2.2 HF.out.2.2.2.1 ?_)
     refine bodyPost_ret (results_cell_row (P:=Tryz.prog) rfl _ _ w.heap.size 22 c (0,0) (.array 32 5) rfl HRS.out.1 Tryz.underlying22 rfl HF.out.2.2.1) rfl ⟨by rw [HCE.out],HRS.out.2⟩
end Go.Proofs.YtdeanahpiigonaaGreatDoor.Su
