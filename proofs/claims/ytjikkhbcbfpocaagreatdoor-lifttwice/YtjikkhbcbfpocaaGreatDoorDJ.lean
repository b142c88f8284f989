import Derived.Test.YtjikkhbcbfpocaaGreatDoorDH
set_option maxRecDepth 100000
set_option maxHeartbeats 16000000
namespace Go.Proofs.YtjikkhbcbfpocaaGreatDoor
open Go.RowKit Go.Shelf
attribute [local go_sem] Oper.semAt_some
theorem Spot.deep {w:World} {D:Nat→Prop}:∀ {ns:List ByteArray} {b:Nat},Spot w D ns b→w.cell? ⟨b,2,none⟩=some (.int .i64 (ns.length:Int))
 | [],_,⟨_,h⟩=>by simp [World.cell?,h]
 | _::_,_,⟨_,_,h,_⟩=>by simp [World.cell?,h]
theorem Spot.lt {w:World} {D:Nat→Prop}:∀ {ns:List ByteArray} {b:Nat},Spot w D ns b→b<w.heap.size
 | [],_,⟨_,h⟩=>(gS h)
 | _::_,_,⟨_,_,h,_⟩=>(gS h)
theorem oY (nm:ByteArray) (v:Vd) (m:Md) (kv:Value) (x:Int):(nc nm v m kv).setIfInBounds 1 (.int .i64 x)=nc nm { v with kind:=x } m kv:=by
 simp only [nc,vx,List.setIfInBounds_toArray,List.cons_append,List.set_cons_succ,List.set_cons_zero]
theorem iJ (nm:ByteArray) (v:Vd) (m:Md) (kv:Value) (x:Int):(nc nm v m kv).setIfInBounds 2 (.int .i64 x)=nc nm { v with mode:=x } m kv:=by
 simp only [nc,vx,List.setIfInBounds_toArray,List.cons_append,List.set_cons_succ,List.set_cons_zero]
theorem sZ (nm:ByteArray) (v:Vd) (m m':Md) (kv:Value):(over (nc nm v m kv).toList 36 (mx m')).toArray=nc nm v m' kv:=by
 simp only [nc,over,List.take_succ_cons,qh,List.drop_succ_cons]
 rw [List.take_append_of_le_length (by simp [je]),List.take_of_length_le (by simp [je]),List.drop_append,List.drop_of_length_le (by simp [je]),je]
 simp [mx]
theorem yu (l:List Int) (least:Int) (most:Nat) (r:Rv):(conR l least most r).1.2.length=32:=xI _
theorem dZ {c:Rp} {r:Rv} {M S:Nat→Prop} {w0 w:World} {B:Nat} (least:Int) (most:Nat) (nm:ByteArray) (v:Vd) (m:Md) (kv:Value) (hA:Pq c r M w0 S w) (hm:most<9223372036854775808) (hSb:∀ b,S b→b<w.heap.size) (hB:S B) (hv:w.heap[B]?=some (.cells (nc nm v m kv) 30 (0,0))):
  Calls Tryz.prog 104 #[.pointer (some ⟨c.X,0,none⟩),.pointer (some ⟨B,1,none⟩),.int .i64 least,.int .i64 (most:Int)] w fun x w'=>x=.returned (.tuple #[])∧Pq c (conR c.l least most r).2 M w0 S w'∧w.heap.size≤w'.heap.size∧(∀ b,S b→b≠B→w'.heap[b]?=w.heap[b]?)∧w'.heap[B]?=some (.cells (nc nm ⟨v.kind,v.mode,(conR c.l least most r).1.1,(conR c.l least most r).1.2,yu _ _ _ _⟩ m kv) 30 (0,0)):=eK least most nm v m kv hA hm hSb hB hv
theorem oZ:z30=nc ⟨#[]⟩ (vK 0) Md.zero (.slice none 0 0):=rfl
theorem NdP.fin {c:Rp} {r:Rv} {d:Nd} {M M3 M4 T:Nat→Prop} {w W3 W4 W6:World} {B B2:Nat} {C:Array Value} {kv:Value} (s3:∀ b,M3 b→M b∨w.heap.size≤b) (f3:Frs M w W3)
  (k1:Rs c r M4 W4) (k2:Subn M3 W3 M4) (k3:Frs M3 W3 W4) (k4:xA W4 T kv d.ks) (k5:PT W3 W4 M4 T) (hC:C=nc d.nm d.v d.m kv) (hF:Fr (fun b=>b=B∨b=B2) W4 W6) (hB:w.heap.size≤B) (hB2:w.heap.size≤B2) (hBM:¬ M4 B) (hB2M:¬ M4 B2) (hBl:B<W3.heap.size) (hB2l:B2<W3.heap.size):NdP c r d M w C W6:=by
 have hT:∀ b,T b→W6.heap[b]?=W4.heap[b]?:=fun b hb=>by
  obtain ⟨q1,q2,cs,q3⟩:=k5 b hb
  exact hF.same b (gS q3) (by omega)
 have hs3:=f3.size
 have hs4:=k3.size
 have f4:Frs M w W4:=f3.trans s3 k3
 refine ⟨M4,T,k1.keep hF.size fun b hb=>hF.same b (k1.bnd b hb).2 (by rintro (rfl | rfl);exact hBM hb;exact hB2M hb),(Subn.of s3).trans f3 k2,⟨f4.fr.trans (M1:=fun b=>b=B∨b=B2) (by rintro b (rfl | rfl);exact .inr hB;exact .inr hB2) hF,fun b cs hm hb=>?_⟩,⟨kv,hC,k4.keep fun b hb=>⟨hT b hb,hb⟩⟩,fun b hb=>?_⟩
 ·have hlt:=(gS hb)
  exact (hF.same b (by omega) (by omega)).trans (f4.sp b cs hm hb)
 ·obtain ⟨q1,q2,cs,q3⟩:=k5 b hb
  exact ⟨by omega,q2,cs,(hT b hb).trans q3⟩
theorem NdP.plain {c:Rp} {r:Rv} {d:Nd} {M S:Nat→Prop} {w W W6:World} {B:Nat} {C:Array Value} (hA:Pq c r M w S W) (hS:S B) (hC:C=nc d.nm d.v d.m (.slice none 0 0)) (hk:d.ks=.nil) (hF:Fr (fun b=>b=B) W W6) (hBl:B<W.heap.size):NdP c r d M w C W6:=by
 obtain ⟨M3,k1,k2,k3,k4,k5⟩:=hA
 exact NdP.fin (B:=B) (B2:=B) (M3:=M3) (T:=fun _=>False) k2 k5 k1 (Subn.of fun _ q=>.inl q) (Frs.of_G (G.refl _)) ⟨none,0,by rw [hk];rfl,by rw [hk];exact Nat.zero_le _,.inl hk⟩ (fun b q=>q.elim) hC (hF.mono fun b q=>.inl q) (k4 B hS) (k4 B hS) (k3 B hS) (k3 B hS) hBl hBl
theorem Pq.q3 {c:Rp} {r:Rv} {M S:Nat→Prop} {w0 w:World} (h:Pq c r M w0 S w):∃ fp,w.cell? ⟨c.X,3,none⟩=some fp∧((r.flt=none∧fp=.pointer none)∨(r.flt.isSome=true∧∃ b,fp=.pointer (some ⟨b,0,none⟩))):=by
 obtain ⟨M',h1,_⟩:=h
 exact h1.q3
theorem iK {c:Rp} {n:Nat} (h1:1<c.lo) (hIH:1≤n→sX c n) (last:ByteArray) (r:Rv) (M:Nat→Prop) (w:World) (hS:Rs c r M w) (hE:ErrT w) (hd:kW none+(n+1)=66) (hc:capR c r) (hl:0≤r.left) (hl2:r.left≤1048576):
  Calls Tryz.prog 67 #[.pointer (some ⟨c.X,0,none⟩),.pointer none,.string last] w fun e w'=>∃ C,e=.returned (.agg C)∧NdP c (qF c.l c.ver (n+1) none last r).2 (qF c.l c.ver (n+1) none last r).1 M w C w':=by
  have hIH:=fun q=>hIH q
  obtain ⟨B,hB⟩:∃ B,w.heap.size=B:=⟨_,rfl⟩
  unfold qF qV
  have HSM:=hid (Sm.head c.l none last r)
  unfold qV at HSM
  obtain ⟨k,hk⟩:∃ k,(kD c.l (kW none) r).1=k:=⟨_,rfl⟩
  have HKI:=hid hk
  obtain ⟨rk,hrk⟩:∃ rk,(kD c.l (kW none) r).2=rk:=⟨_,rfl⟩
  have HKD:Hid (kD c.l 0 r=(k,rk)):=by show kD c.l (kW none) r=_;rw [← hk,← hrk]
  rw [hk,hrk]
  obtain ⟨nm,hnm⟩:∃ nm,(iE c.l none last rk).1=nm:=⟨_,rfl⟩
  obtain ⟨r2,hr2⟩:∃ r2,(iE c.l none last rk).2=r2:=⟨_,rfl⟩
  have HND:Hid (r2=rk∧nm=⟨#[]⟩):=⟨hr2.symm,hnm.symm⟩
  rw [hnm,hr2]
  rw [hrk,hr2,← hrk] at HSM
  show Calls _ _ _ _ fun e w'=>∃ C,e=.returned (.agg C)∧NdP c (zJ c.l c.ver (fun here=>qF c.l c.ver n (some here)) k nm [] r2).2 (zJ c.l c.ver (fun here=>qF c.l c.ver n (some here)) k nm [] r2).1 M w C w'
  clear hk hrk hnm hr2
  have hd:0+(n+1)=66:=hd
  obtain ⟨fp0,sv0,xs0,hRo⟩:=id hS
  have HXM:=hid hRo.mX
  clear hRo
  have hA2:=((Pq.start hS).alloc (.cells z30 30)).alloc (.cells #[.pointer none,.string ⟨#[]⟩,.int .i64 0] 167)
  have hs1:(w.alloc (.cells z30 30)).heap.size=B+1:=by rw [World.size_alloc,hB]
  have hs2:((w.alloc (.cells z30 30)).alloc (.cells #[.pointer none,.string ⟨#[]⟩,.int .i64 0] 167)).heap.size=B+2:=by rw [World.size_alloc,hs1]
  have g0:((w.alloc (.cells z30 30)).alloc (.cells #[.pointer none,.string ⟨#[]⟩,.int .i64 0] 167)).heap[B]?=some (.cells z30 30 (0,0)):=by
   rw [Below.heap_alloc _ _ _ (by omega),← hB];exact World.alloc_heap_new w _
  have g1:((w.alloc (.cells z30 30)).alloc (.cells #[.pointer none,.string ⟨#[]⟩,.int .i64 0] 167)).heap[B+1]?=some (.cells #[.pointer none,.string ⟨#[]⟩,.int .i64 0] 167 (0,0)):=by rw [← hs1];exact World.alloc_heap_new _ _
  rw [hs1,hB] at hA2
  go_enter Tryz.func67,Tryz.ntmps67
  go_upto_region 4 with ((with_reducible refine jF (.pointer (some ⟨B,0,none⟩)) (w.alloc (.cells z30 30)) ?_ ?_);exact jG 30 z30 rfl xZ _ _ hB)
  have HA:=hid (⟨hA2,g0,g1⟩:_∧_∧_)
  clear hA2 g0 g1
  generalize (w.alloc (.cells z30 30)).alloc (.cells #[.pointer none,.string ⟨#[]⟩,.int .i64 0] 167)=w3 at *
  have hA4:=HA.o.1.alloc (.cells z30 30)
  rw [hs2] at hA4
  have g0:=(Below.heap_alloc w3 (.cells z30 30) B (by omega)).trans HA.o.2.1
  have g1:=(Below.heap_alloc w3 (.cells z30 30) (B+1) (by omega)).trans HA.o.2.2
  have g2:(w3.alloc (.cells z30 30)).heap[B+2]?=some (.cells z30 30 (0,0)):=by rw [← hs2];exact World.alloc_heap_new _ _
  go_upto_region 5 with ((with_reducible refine jF (.pointer (some ⟨B+2,0,none⟩)) (w3.alloc (.cells z30 30)) ?_ ?_);exact jG 30 z30 rfl xZ _ _ hs2)
  have z1:(w3.alloc (.cells z30 30)).cell? ⟨B+1,2,none⟩=some (.int .i64 0):=by simp [World.cell?,g1]
  have HA4:=hid (⟨hA4,g0,g1,g2⟩:_∧_∧_∧_)
  clear hA4 g0 g1 g2 HA hs2 hs1
  generalize w3.alloc (.cells z30 30)=w4 at *
  have CK:=HA4.o.1.call (f:=100) (args:=#[.pointer (some ⟨c.X,0,none⟩),.int .i64 (0:Nat)]) (fun b q=>by have h9:=(gS HA4.o.2.2.2);rcases q with ((q | q) | q) | q;exact q.elim;all_goals omega) fun M' hR=>dX 0 hR (by omega) ⟨by omega,by omega⟩
  have hkk:kD c.l 0 r=(k,rk):=HKD.o
  rw [hkk] at CK
  simp only at CK
  clear hkk
  go_upto_region 6 with (go_at_call 100;refine CK.mono ?_;rintro e w5 ⟨rfl,h2,h3,h4⟩;have e0:=(h4 B (.inl (.inl (.inr rfl)))).trans HA4.o.2.1;have e1:=(h4 (B+1) (.inl (.inr rfl))).trans HA4.o.2.2.1;have e2:=(h4 (B+2) (.inr rfl)).trans HA4.o.2.2.2;have y1:w5.cell? ⟨B+2,1,none⟩=some (.int .i64 0):=by { simp only [World.cell?,e2];rfl };have y2:w5.frozen? ⟨B+2,1,none⟩=false:=by { simp [World.frozen?,e2] };have HA5:=hid (⟨h2,e0,e1,e2⟩:_∧_∧_∧_);clear h2 h3 h4 e0 e1 e2 CK)
  have hA6:=HA5.o.1.put (Fr.setCell (w:=w5) (o:=1) (x:=.int .i64 k) (.inr rfl:((False∨B+2=B)∨B+2=B+1)∨B+2=B+2))
  have g0:=(Below.heap_setCell w5 ⟨B+2,1,none⟩ (.int .i64 k) B (by show B≠B+2;omega)).trans HA5.o.2.1
  have g1:=(Below.heap_setCell w5 ⟨B+2,1,none⟩ (.int .i64 k) (B+1) (by show B+1≠B+2;omega)).trans HA5.o.2.2.1
  have g2:=Wi.jM (o:=1) (.int .i64 k) HA5.o.2.2.2
  rw [oZ,oY] at g2
  clear y1 y2 z1 HA4
  generalize w5.setCell ⟨B+2,1,none⟩ (.int .i64 k)=w6 at *
  have HP:Hid (Pq c r2 M w (fun b=>((False∨b=B)∨b=B+1)∨b=B+2) w6∧w6.heap[B]?=some (.cells z30 30 (0,0))∧w6.heap[B+1]?=some (.cells #[.pointer none,.string ⟨#[]⟩,.int .i64 0] 167 (0,0))∧w6.heap[B+2]?=some (.cells (nc nm (vK k) Md.zero (.slice none 0 0)) 30 (0,0))):=by
   obtain ⟨hr2,hnm⟩:=HND.o
   rw [hr2,hnm]
   exact ⟨hA6,g0,g1,g2⟩
  clear hA6 g0 g1 g2 HA5
  go_upto_region 9 with fail
  generalize w6=W at *
  obtain ⟨fp,q3,hq⟩:=(HP.o.1).q3
  rcases hq with ⟨hf,rfl⟩ | ⟨hf,bq,rfl⟩
  ·skip
   obtain ⟨n1,n2,n3,n4,n5,n6,n7,n8⟩:=yi (HSM.o.none hf)
   have hlf:r2.left=r.left-1:=by rw [HSM.o.left,n8]
   have hcp:capR c r2:=(hc.lt (iF c.l _ r)).lt HSM.o.lt
   have hl0:0≤r2.left:=by omega
   have hbod:zJ c.l c.ver (fun here=>qF c.l c.ver n (some here)) k nm [] r2=(if k=1 then (⟨nm,⟨1,(modR c.l c.ver r2).1,0,jw,by simp [jw]⟩,Md.zero,(bK c.l (qF c.l c.ver n (some [])) [] (modR c.l c.ver r2).2).1⟩,(bK c.l (qF c.l c.ver n (some [])) [] (modR c.l c.ver r2).2).2)
    else if k=2 then (⟨nm,⟨2,(modR c.l c.ver (conR c.l 0 1099511627775 r2).2).1,(conR c.l 0 1099511627775 r2).1.1,(conR c.l 0 1099511627775 r2).1.2,yu c.l 0 1099511627775 r2⟩,(yV c.l c.ver (modR c.l c.ver (conR c.l 0 1099511627775 r2).2).2).1,.nil⟩,(yV c.l c.ver (modR c.l c.ver (conR c.l 0 1099511627775 r2).2).2).2)
    else if k=3 then (⟨nm,⟨3,0,(conR c.l 1 4095 r2).1.1,(conR c.l 1 4095 r2).1.2,yu c.l 1 4095 r2⟩,Md.zero,.nil⟩,(conR c.l 1 4095 r2).2)
    else (⟨nm,vK k,Md.zero,.nil⟩,r2):Nd × Rv):=by
    unfold zJ
    rw [if_neg (by rw [hf];decide)]
   have HBO:=hid hbod
   have u1:W.cell? ⟨B+2,1,none⟩=some (.int .i64 k):=by
    simp only [World.cell?,HP.o.2.2.2]
    exact cf ..
   rw [HKI.o] at n7
   have HC:=hid (⟨hcp,hl0,hlf,n1,n2,n7⟩:_∧_∧_∧_∧_∧_)
   clear n1 n2 n3 n4 n5 n6 n7 n8 hlf hcp hl0 hbod hf
   by_cases k1:k=1
   ·subst k1
    have HBO2:=hid (HBO.o.trans (if_pos rfl))
    clear HBO
    have CM:=HP.o.1.call (f:=102) (args:=#[.pointer (some ⟨c.X,0,none⟩)]) (fun b q=>by have h9:=(gS HP.o.2.2.2);rcases q with ((q | q) | q) | q;exact q.elim;all_goals omega) fun M' hR=>aS hR
    have hsm:=Sm.mod c.l c.ver r2
    generalize modR c.l c.ver r2=NM at *
    obtain ⟨md,r3⟩:=NM
    simp only at CM hsm HBO2
    go_upto_region 14 with (go_at_call 102;refine CM.mono ?_;rintro e W3 ⟨rfl,h2,h3,h4⟩;have e0:=(h4 B (.inl (.inl (.inr rfl)))).trans HP.o.2.1;have e1:=(h4 (B+1) (.inl (.inr rfl))).trans HP.o.2.2.1;have e2:=(h4 (B+2) (.inr rfl)).trans HP.o.2.2.2;have y1:W3.cell? ⟨B+2,2,none⟩=some (.int .i64 0):=by { simp only [World.cell?,e2];exact zF .. };have y2:W3.frozen? ⟨B+2,2,none⟩=false:=by { simp [World.frozen?,e2] };have HQ:=hid (⟨h2,e0,e1,e2⟩:_∧_∧_∧_);clear h2 h3 h4 e0 e1 e2 CM)
    have hA4:=HQ.o.1.put (Fr.setCell (w:=W3) (o:=2) (x:=.int .i64 md) (.inr rfl:((False∨B+2=B)∨B+2=B+1)∨B+2=B+2))
    have g0:(W3.setCell ⟨B+2,2,none⟩ (.int .i64 md)).heap[B]?=some (.cells z30 30 (0,0)):=(Below.heap_setCell _ _ _ _ (by show B≠B+2;omega)).trans HQ.o.2.1
    have g1:=(Below.heap_setCell W3 ⟨B+2,2,none⟩ (.int .i64 md) (B+1) (by show B+1≠B+2;omega)).trans HQ.o.2.2.1
    have g2:=Wi.jM (o:=2) (.int .i64 md) HQ.o.2.2.2
    rw [iJ] at g2
    clear y1 y2 u1
    generalize W3.setCell ⟨B+2,2,none⟩ (.int .i64 md)=W4 at *
    obtain ⟨M4,m1,m2,m3,m4,m5⟩:=hA4
    have hE4:ErrT W4:=hE.frs h1 hS m5
    have hl4:r3.left=r2.left:=hsm.left
    have CK:=xD (n:=n) (here:=[]) (hb:=B+1) (hIH (by have:=HC.o.2.2.2.2.1;omega)) m1 hE4 h1 (⟨by have:=(hS.bnd _ HXM.o).1;have:=(hS.bnd _ HXM.o).2;omega,g1⟩) (by show 0+1+n=66;omega) (by have:=HC.o.2.2.2.2.1;omega) (fun x q=>by cases q) (by rw [hl4];exact HC.o.2.1) (by rw [hl4];have:=HC.o.2.2.1;omega) (HC.o.1.lt hsm.lt)
    generalize bK c.l (qF c.l c.ver n (some [])) [] r3=KK at *
    obtain ⟨ks,r4⟩:=KK
    simp only at CK HBO2
    have HM:=hid (⟨m2,m3,m4,m5,g0,g2⟩:_∧_∧_∧_∧_∧_)
    clear m1 m2 m3 m4 m5 g0 g1 g2 hE4 HQ hsm hl4
    go_upto_region 21 with (go_at_call 103;refine CK.mono ?_;rintro e W5 ⟨kv,rfl,h5⟩;obtain ⟨M5,T5,t1,t2,t3,t4,t5⟩:=h5;obtain ⟨ka,kc,hkv,_⟩:=id t4;subst hkv;have b0:W5.heap[B]?=some (.cells z30 30 (0,0)):=(t3.fr.same B (gS HM.o.2.2.2.2.1) (HM.o.2.1 B (.inl (.inl (.inr rfl))))).trans HM.o.2.2.2.2.1;have b2:=(t3.fr.same (B+2) (gS HM.o.2.2.2.2.2) (HM.o.2.1 (B+2) (.inr rfl))).trans HM.o.2.2.2.2.2;have y1:W5.cell? ⟨B+2,40,none⟩=some (.slice none 0 0):=by { simp only [World.cell?,b2];exact yJ .. };have y2:W5.frozen? ⟨B+2,40,none⟩=false:=by { simp [World.frozen?,b2] };have HQ:=hid (⟨t1,t2,t3,t4,t5,b0,b2⟩:_∧_∧_∧_∧_∧_∧_);clear t1 t2 t3 t4 t5 b0 b2 CK)
    have g0:(W5.setCell ⟨B+2,40,none⟩ (.slice ka ks.len kc)).heap[B]?=some (.cells z30 30 (0,0)):=(Below.heap_setCell _ _ _ _ (by show B≠B+2;omega)).trans HQ.o.2.2.2.2.2.1
    have g2:=Wi.jM (o:=40) (.slice ka ks.len kc) HQ.o.2.2.2.2.2.2
    rw [cg] at g2
    have gF:Fr (fun b=>b=B∨b=B+2) W5 (W5.setCell ⟨B+2,40,none⟩ (.slice ka ks.len kc)):=Fr.setCell (.inr rfl)
    have HZ:=hid (⟨gF,g0,g2⟩:_∧_∧_)
    clear gF g0 g2 y1 y2
    generalize W5.setCell ⟨B+2,40,none⟩ (.slice ka ks.len kc)=W6 at *
    go_wp2_with (first
     | ((with_reducible refine jA (.agg (nc nm ⟨1,md,0,jw,by simp [jw]⟩ Md.zero (.slice ka ks.len kc))) ?_ ?_);exact jK _ rfl (B+2) 0 rfl _ (jO ..) (jD HZ.o.2.2))
     | ((with_reducible refine jC (W6.setRow B (nc nm ⟨1,md,0,jw,by simp [jw]⟩ Md.zero (.slice ka ks.len kc))) ?_ ?_);exact jU _ _ rfl B _ z30 rfl rfl _ HZ.o.2.1 (jO ..) jN (qz _ _ _ _ rfl)))
    refine bodyPost_ret (results_cell_row (P:=Tryz.prog) (p:=6) (ty:=30) rfl _ _ B 30 (nc nm ⟨1,md,0,jw,by simp [jw]⟩ Md.zero (.slice ka ks.len kc)) (0,0) _ rfl (setRow_heap _ _ _ _ _ _ HZ.o.2.1) qe rfl (by rw [kL,jO])) rfl ⟨_,rfl,?_⟩
    rw [HBO2.o]
    obtain ⟨t1,t2,t3,t4,t5,t6,t7⟩:=HQ.o
    obtain ⟨m2,m3,m4,m5,g0,g2⟩:=HM.o
    exact NdP.fin (B:=B) (B2:=B+2) m2 m5 t1 t2 t3 t4 t5 rfl (HZ.o.1.trans (fun _ q=>.inl q) (Fr.setRow (.inl rfl))) (m4 B (.inl (.inl (.inr rfl)))) (m4 (B+2) (.inr rfl)) (t2.not g0 (by decide) (m3 B (.inl (.inl (.inr rfl))))) (t2.not g2 (by decide) (m3 (B+2) (.inr rfl))) (gS g0) (gS g2)
   ·exfalso
    have:=HC.o.2.2.2.2.2
    unfold kOk at this
    simp [k1,kW] at this
  ·skip
   have hbod:zJ c.l c.ver (fun here=>qF c.l c.ver n (some here)) k nm [] r2=(⟨nm,vK k,Md.zero,.nil⟩,r2):=by
    unfold zJ
    rw [if_pos hf]
   have HBO:=hid hbod
   have HZ:=hid (⟨HP.o.1,HP.o.2.1,HP.o.2.2.2⟩:_∧_∧_)
   clear hbod hf
   go_wp2_with (first
    | ((with_reducible refine jA (.agg (nc nm (vK k) Md.zero (.slice none 0 0))) ?_ ?_);exact jK _ rfl (B+2) 0 rfl _ (jO ..) (jD HZ.o.2.2))
    | ((with_reducible refine jC (W.setRow B (nc nm (vK k) Md.zero (.slice none 0 0))) ?_ ?_);exact jU _ _ rfl B _ z30 rfl rfl _ HZ.o.2.1 (jO ..) jN (qz _ _ _ _ rfl)))
   refine bodyPost_ret (results_cell_row (P:=Tryz.prog) (p:=6) (ty:=30) rfl _ _ B 30 (nc nm (vK k) Md.zero (.slice none 0 0)) (0,0) _ rfl (setRow_heap _ _ _ _ _ _ HZ.o.2.1) qe rfl (by rw [kL,jO])) rfl ⟨_,rfl,?_⟩
   rw [HBO.o]
   exact NdP.plain HZ.o.1 (.inl (.inl (.inr rfl)):((False∨B=B)∨B=B+1)∨B=B+2) rfl rfl (Fr.setRow rfl) (gS HZ.o.2.1)
theorem nC {c:Rp} {n:Nat} (h1:1<c.lo) (hIH:1≤n→sX c n) (us:List ByteArray) (ub:Nat) (last:ByteArray) (r:Rv) (M:Nat→Prop) (w:World) (hS:Rs c r M w) (hE:ErrT w) (hsp:Spot w (fun b=>c.lo≤b) us ub) (hus:∀ x∈us,x.size≤255) (hd:us.length+1+(n+1)=66) (hc:capR c r) (hl:0≤r.left) (hl2:r.left≤1048576):
  Calls Tryz.prog 67 #[.pointer (some ⟨c.X,0,none⟩),.pointer (some ⟨ub,0,none⟩),.string last] w fun e w'=>∃ C,e=.returned (.agg C)∧NdP c (qF c.l c.ver (n+1) (some us) last r).2 (qF c.l c.ver (n+1) (some us) last r).1 M w C w':=by
  have hIH:=fun q=>hIH q
  obtain ⟨B,hB⟩:∃ B,w.heap.size=B:=⟨_,rfl⟩
  unfold qF qV
  have HSM:=hid (Sm.head c.l (some us) last r)
  unfold qV at HSM
  obtain ⟨k,hk⟩:∃ k,(kD c.l (kW (some us)) r).1=k:=⟨_,rfl⟩
  have HKI:=hid hk
  obtain ⟨rk,hrk⟩:∃ rk,(kD c.l (kW (some us)) r).2=rk:=⟨_,rfl⟩
  have HKD:Hid (kD c.l (us.length+1) r=(k,rk)):=by show kD c.l (kW (some us)) r=_;rw [← hk,← hrk]
  rw [hk,hrk]
  obtain ⟨nm,hnm0⟩:∃ nm,(iE c.l (some us) last rk).1=nm:=⟨_,rfl⟩
  obtain ⟨r2,hr2⟩:∃ r2,(iE c.l (some us) last rk).2=r2:=⟨_,rfl⟩
  have HND:Hid (dH c.l last rk=(nm,r2)):=by show iE c.l (some us) last rk=_;rw [← hnm0,← hr2]
  have hnm:nm.size≤255:=by rw [← hnm0];exact lY c.l rk.s 255
  rw [hnm0,hr2]
  rw [hrk,hr2,← hrk] at HSM
  show Calls _ _ _ _ fun e w'=>∃ C,e=.returned (.agg C)∧NdP c (zJ c.l c.ver (fun here=>qF c.l c.ver n (some here)) k nm (nm::us) r2).2 (zJ c.l c.ver (fun here=>qF c.l c.ver n (some here)) k nm (nm::us) r2).1 M w C w'
  clear hk hrk hnm0 hr2
  have hd:us.length+1+(n+1)=66:=hd
  obtain ⟨fp0,sv0,xs0,hRo⟩:=id hS
  have HXM:=hid hRo.mX
  clear hRo
  have hA2:=((Pq.start hS).alloc (.cells z30 30)).alloc (.cells #[.pointer (some ⟨ub,0,none⟩),.string ⟨#[]⟩,.int .i64 0] 167)
  have hs1:(w.alloc (.cells z30 30)).heap.size=B+1:=by rw [World.size_alloc,hB]
  have hs2:((w.alloc (.cells z30 30)).alloc (.cells #[.pointer (some ⟨ub,0,none⟩),.string ⟨#[]⟩,.int .i64 0] 167)).heap.size=B+2:=by rw [World.size_alloc,hs1]
  have g0:((w.alloc (.cells z30 30)).alloc (.cells #[.pointer (some ⟨ub,0,none⟩),.string ⟨#[]⟩,.int .i64 0] 167)).heap[B]?=some (.cells z30 30 (0,0)):=by
   rw [Below.heap_alloc _ _ _ (by omega),← hB];exact World.alloc_heap_new w _
  have g1:((w.alloc (.cells z30 30)).alloc (.cells #[.pointer (some ⟨ub,0,none⟩),.string ⟨#[]⟩,.int .i64 0] 167)).heap[B+1]?=some (.cells #[.pointer (some ⟨ub,0,none⟩),.string ⟨#[]⟩,.int .i64 0] 167 (0,0)):=by rw [← hs1];exact World.alloc_heap_new _ _
  rw [hs1,hB] at hA2
  have hub:=(((G.alloc w (.cells z30 30)).trans (G.alloc _ (.cells #[.pointer (some ⟨ub,0,none⟩),.string ⟨#[]⟩,.int .i64 0] 167))).cell hsp.deep)
  have z1:((w.alloc (.cells z30 30)).alloc (.cells #[.pointer (some ⟨ub,0,none⟩),.string ⟨#[]⟩,.int .i64 0] 167)).cell? ⟨B+1,2,none⟩=some (.int .i64 0):=by simp [World.cell?,g1]
  have z2:((w.alloc (.cells z30 30)).alloc (.cells #[.pointer (some ⟨ub,0,none⟩),.string ⟨#[]⟩,.int .i64 0] 167)).frozen? ⟨B+1,2,none⟩=false:=by simp [World.frozen?,g1]
  have hus64:(us.length:Int)≤64:=by omega
  go_enter Tryz.func67,Tryz.ntmps67
  go_upto_region 3 with ((with_reducible refine jF (.pointer (some ⟨B,0,none⟩)) (w.alloc (.cells z30 30)) ?_ ?_);exact jG 30 z30 rfl xZ _ _ hB)
  have HA0:=hid (⟨hA2,g0,g1⟩:_∧_∧_)
  clear hA2 g0 g1
  generalize (w.alloc (.cells z30 30)).alloc (.cells #[.pointer (some ⟨ub,0,none⟩),.string ⟨#[]⟩,.int .i64 0] 167)=w2 at *
  go_upto_region 4 with fail
  have hA3:=HA0.o.1.put (Fr.setCell (w:=w2) (o:=2) (x:=.int .i64 ((us.length:Int)+1)) (.inr rfl:(False∨B+1=B)∨B+1=B+1))
  have g0:(w2.setCell ⟨B+1,2,none⟩ (.int .i64 ((us.length:Int)+1))).heap[B]?=some (.cells z30 30 (0,0)):=(Below.heap_setCell _ _ _ _ (by show B≠B+1;omega)).trans HA0.o.2.1
  have g1:(w2.setCell ⟨B+1,2,none⟩ (.int .i64 ((us.length:Int)+1))).heap[B+1]?=some (.cells #[.pointer (some ⟨ub,0,none⟩),.string ⟨#[]⟩,.int .i64 ((us.length:Int)+1)] 167 (0,0)):=by rw [Wi.jM _ HA0.o.2.2];rfl
  have hs3:(w2.setCell ⟨B+1,2,none⟩ (.int .i64 ((us.length:Int)+1))).heap.size=B+2:=by rw [World.size_setCell];exact hs2
  have HA:=hid (⟨hA3,g0,g1⟩:_∧_∧_)
  clear hA3 g0 g1 HA0 hs2 z1 z2 hub
  generalize w2.setCell ⟨B+1,2,none⟩ (.int .i64 ((us.length:Int)+1))=w3 at *
  have hs2:=hs3
  clear hs3
  have hA4:=HA.o.1.alloc (.cells z30 30)
  rw [hs2] at hA4
  have g0:=(Below.heap_alloc w3 (.cells z30 30) B (by omega)).trans HA.o.2.1
  have g1:=(Below.heap_alloc w3 (.cells z30 30) (B+1) (by omega)).trans HA.o.2.2
  have g2:(w3.alloc (.cells z30 30)).heap[B+2]?=some (.cells z30 30 (0,0)):=by rw [← hs2];exact World.alloc_heap_new _ _
  go_upto_region 5 with ((with_reducible refine jF (.pointer (some ⟨B+2,0,none⟩)) (w3.alloc (.cells z30 30)) ?_ ?_);exact jG 30 z30 rfl xZ _ _ hs2)
  have z1:(w3.alloc (.cells z30 30)).cell? ⟨B+1,2,none⟩=some (.int .i64 ((us.length:Int)+1)):=by simp [World.cell?,g1]
  have HA4:=hid (⟨hA4,g0,g1,g2⟩:_∧_∧_∧_)
  clear hA4 g0 g1 g2 HA hs2 hs1
  generalize w3.alloc (.cells z30 30)=w4 at *
  have CK:=HA4.o.1.call (f:=100) (args:=#[.pointer (some ⟨c.X,0,none⟩),.int .i64 ((us.length+1):Nat)]) (fun b q=>by have h9:=(gS HA4.o.2.2.2);rcases q with ((q | q) | q) | q;exact q.elim;all_goals omega) fun M' hR=>dX (us.length+1) hR (by omega) ⟨by omega,by omega⟩
  have hkk:kD c.l (us.length+1) r=(k,rk):=HKD.o
  rw [hkk] at CK
  simp only at CK
  clear hkk
  go_upto_region 6 with (go_at_call 100;refine CK.mono ?_;rintro e w5 ⟨rfl,h2,h3,h4⟩;have e0:=(h4 B (.inl (.inl (.inr rfl)))).trans HA4.o.2.1;have e1:=(h4 (B+1) (.inl (.inr rfl))).trans HA4.o.2.2.1;have e2:=(h4 (B+2) (.inr rfl)).trans HA4.o.2.2.2;have y1:w5.cell? ⟨B+2,1,none⟩=some (.int .i64 0):=by { simp only [World.cell?,e2];rfl };have y2:w5.frozen? ⟨B+2,1,none⟩=false:=by { simp [World.frozen?,e2] };have HA5:=hid (⟨h2,e0,e1,e2⟩:_∧_∧_∧_);clear h2 h3 h4 e0 e1 e2 CK)
  have hA6:=HA5.o.1.put (Fr.setCell (w:=w5) (o:=1) (x:=.int .i64 k) (.inr rfl:((False∨B+2=B)∨B+2=B+1)∨B+2=B+2))
  have g0:=(Below.heap_setCell w5 ⟨B+2,1,none⟩ (.int .i64 k) B (by show B≠B+2;omega)).trans HA5.o.2.1
  have g1:=(Below.heap_setCell w5 ⟨B+2,1,none⟩ (.int .i64 k) (B+1) (by show B+1≠B+2;omega)).trans HA5.o.2.2.1
  have g2:=Wi.jM (o:=1) (.int .i64 k) HA5.o.2.2.2
  rw [oZ,oY] at g2
  clear y1 y2 z1 HA4
  generalize w5.setCell ⟨B+2,1,none⟩ (.int .i64 k)=w6 at *
  have hE6:ErrT w6:=by obtain ⟨M6,m1,m2,m3,m4,m5⟩:=hA6;exact hE.frs h1 hS m5
  have CN:=hA6.call (f:=101) (args:=#[.pointer (some ⟨c.X,0,none⟩),.string last]) (fun b q=>by have h9:=(gS g2);rcases q with ((q | q) | q) | q;exact q.elim;all_goals omega) fun M' hR=>my last hR hE6 h1
  have hnn:dH c.l last rk=(nm,r2):=HND.o
  rw [hnn] at CN
  simp only at CN
  have HA6:=hid (⟨hA6,g0,g1,g2⟩:_∧_∧_∧_)
  clear hA6 g0 g1 g2 HA5 hnn
  go_upto_region 8 with (go_at_call 101;refine CN.mono ?_;rintro e w7 ⟨rfl,h2,h3,h4⟩;have e0:=(h4 B (.inl (.inl (.inr rfl)))).trans HA6.o.2.1;have e1:=(h4 (B+1) (.inl (.inr rfl))).trans HA6.o.2.2.1;have e2:=(h4 (B+2) (.inr rfl)).trans HA6.o.2.2.2;have y1:w7.cell? ⟨B+1,1,none⟩=some (.string ⟨#[]⟩):=by { simp [World.cell?,e1] };have y2:w7.frozen? ⟨B+1,1,none⟩=false:=by { simp [World.frozen?,e1] };have HA7:=hid (⟨h2,e0,e1,e2⟩:_∧_∧_∧_);clear h2 h3 h4 e0 e1 e2 CN)
  have hA8:=HA7.o.1.put (Fr.setCell (w:=w7) (o:=1) (x:=.string nm) (.inl (.inr rfl):((False∨B+1=B)∨B+1=B+1)∨B+1=B+2))
  have g0:=(Below.heap_setCell w7 ⟨B+1,1,none⟩ (.string nm) B (by show B≠B+1;omega)).trans HA7.o.2.1
  have g2:=(Below.heap_setCell w7 ⟨B+1,1,none⟩ (.string nm) (B+2) (by show B+2≠B+1;omega)).trans HA7.o.2.2.2
  have g1:(w7.setCell ⟨B+1,1,none⟩ (.string nm)).heap[B+1]?=some (.cells #[.pointer (some ⟨ub,0,none⟩),.string nm,.int .i64 ((us.length:Int)+1)] 167 (0,0)):=by rw [Wi.jM _ HA7.o.2.2.1];rfl
  clear y1 y2 HA6
  generalize w7.setCell ⟨B+1,1,none⟩ (.string nm)=w8 at *
  have y1:w8.cell? ⟨B+2,0,none⟩=some (.string ⟨#[]⟩):=by simp only [World.cell?,g2];rfl
  have y2:w8.frozen? ⟨B+2,0,none⟩=false:=by simp [World.frozen?,g2]
  have y3:w8.cell? ⟨B+1,1,none⟩=some (.string nm):=by simp [World.cell?,g1]
  have HA8:=hid (⟨hA8,g0,g1,g2⟩:_∧_∧_∧_)
  clear hA8 g0 g1 g2 HA7
  go_upto_region 9 with fail
  have hA9:=HA8.o.1.put (Fr.setCell (w:=w8) (o:=0) (x:=.string nm) (.inr rfl:((False∨B+2=B)∨B+2=B+1)∨B+2=B+2))
  have g0:=(Below.heap_setCell w8 ⟨B+2,0,none⟩ (.string nm) B (by show B≠B+2;omega)).trans HA8.o.2.1
  have g1:=(Below.heap_setCell w8 ⟨B+2,0,none⟩ (.string nm) (B+1) (by show B+1≠B+2;omega)).trans HA8.o.2.2.1
  have g2:=Wi.jM (o:=0) (.string nm) HA8.o.2.2.2
  rw [rT] at g2
  have HP:Hid (Pq c r2 M w (fun b=>((False∨b=B)∨b=B+1)∨b=B+2) (w8.setCell ⟨B+2,0,none⟩ (.string nm))∧(w8.setCell ⟨B+2,0,none⟩ (.string nm)).heap[B]?=some (.cells z30 30 (0,0))∧(w8.setCell ⟨B+2,0,none⟩ (.string nm)).heap[B+1]?=some (.cells #[.pointer (some ⟨ub,0,none⟩),.string nm,.int .i64 ((us.length:Int)+1)] 167 (0,0))∧(w8.setCell ⟨B+2,0,none⟩ (.string nm)).heap[B+2]?=some (.cells (nc nm (vK k) Md.zero (.slice none 0 0)) 30 (0,0))):=⟨hA9,g0,g1,g2⟩
  clear hA9 g0 g1 g2 HA8 y1 y2 y3
  generalize w8.setCell ⟨B+2,0,none⟩ (.string nm)=W at *
  obtain ⟨fp,q3,hq⟩:=(HP.o.1).q3
  rcases hq with ⟨hf,rfl⟩ | ⟨hf,bq,rfl⟩
  ·skip
   obtain ⟨n1,n2,n3,n4,n5,n6,n7,n8⟩:=yi (HSM.o.none hf)
   have hlf:r2.left=r.left-1:=by rw [HSM.o.left,n8]
   have hcp:capR c r2:=(hc.lt (iF c.l _ r)).lt HSM.o.lt
   have hl0:0≤r2.left:=by omega
   have hbod:zJ c.l c.ver (fun here=>qF c.l c.ver n (some here)) k nm (nm::us) r2=(if k=1 then (⟨nm,⟨1,(modR c.l c.ver r2).1,0,jw,by simp [jw]⟩,Md.zero,(bK c.l (qF c.l c.ver n (some (nm::us))) (nm::us) (modR c.l c.ver r2).2).1⟩,(bK c.l (qF c.l c.ver n (some (nm::us))) (nm::us) (modR c.l c.ver r2).2).2)
    else if k=2 then (⟨nm,⟨2,(modR c.l c.ver (conR c.l 0 1099511627775 r2).2).1,(conR c.l 0 1099511627775 r2).1.1,(conR c.l 0 1099511627775 r2).1.2,yu c.l 0 1099511627775 r2⟩,(yV c.l c.ver (modR c.l c.ver (conR c.l 0 1099511627775 r2).2).2).1,.nil⟩,(yV c.l c.ver (modR c.l c.ver (conR c.l 0 1099511627775 r2).2).2).2)
    else if k=3 then (⟨nm,⟨3,0,(conR c.l 1 4095 r2).1.1,(conR c.l 1 4095 r2).1.2,yu c.l 1 4095 r2⟩,Md.zero,.nil⟩,(conR c.l 1 4095 r2).2)
    else (⟨nm,vK k,Md.zero,.nil⟩,r2):Nd × Rv):=by
    unfold zJ
    rw [if_neg (by rw [hf];decide)]
   have HBO:=hid hbod
   have u1:W.cell? ⟨B+2,1,none⟩=some (.int .i64 k):=by
    simp only [World.cell?,HP.o.2.2.2]
    exact cf ..
   rw [HKI.o] at n7
   have HC:=hid (⟨hcp,hl0,hlf,n1,n2,n7⟩:_∧_∧_∧_∧_∧_)
   clear n1 n2 n3 n4 n5 n6 n7 n8 hlf hcp hl0 hbod hf
   by_cases k1:k=1
   ·subst k1
    have HBO2:=hid (HBO.o.trans (if_pos rfl))
    clear HBO
    have CM:=HP.o.1.call (f:=102) (args:=#[.pointer (some ⟨c.X,0,none⟩)]) (fun b q=>by have h9:=(gS HP.o.2.2.2);rcases q with ((q | q) | q) | q;exact q.elim;all_goals omega) fun M' hR=>aS hR
    have hsm:=Sm.mod c.l c.ver r2
    generalize modR c.l c.ver r2=NM at *
    obtain ⟨md,r3⟩:=NM
    simp only at CM hsm HBO2
    go_upto_region 14 with (go_at_call 102;refine CM.mono ?_;rintro e W3 ⟨rfl,h2,h3,h4⟩;have e0:=(h4 B (.inl (.inl (.inr rfl)))).trans HP.o.2.1;have e1:=(h4 (B+1) (.inl (.inr rfl))).trans HP.o.2.2.1;have e2:=(h4 (B+2) (.inr rfl)).trans HP.o.2.2.2;have y1:W3.cell? ⟨B+2,2,none⟩=some (.int .i64 0):=by { simp only [World.cell?,e2];exact zF .. };have y2:W3.frozen? ⟨B+2,2,none⟩=false:=by { simp [World.frozen?,e2] };have HQ:=hid (⟨h2,e0,e1,e2⟩:_∧_∧_∧_);clear h2 h3 h4 e0 e1 e2 CM)
    have hA4:=HQ.o.1.put (Fr.setCell (w:=W3) (o:=2) (x:=.int .i64 md) (.inr rfl:((False∨B+2=B)∨B+2=B+1)∨B+2=B+2))
    have g0:(W3.setCell ⟨B+2,2,none⟩ (.int .i64 md)).heap[B]?=some (.cells z30 30 (0,0)):=(Below.heap_setCell _ _ _ _ (by show B≠B+2;omega)).trans HQ.o.2.1
    have g1:=(Below.heap_setCell W3 ⟨B+2,2,none⟩ (.int .i64 md) (B+1) (by show B+1≠B+2;omega)).trans HQ.o.2.2.1
    have g2:=Wi.jM (o:=2) (.int .i64 md) HQ.o.2.2.2
    rw [iJ] at g2
    clear y1 y2 u1
    generalize W3.setCell ⟨B+2,2,none⟩ (.int .i64 md)=W4 at *
    obtain ⟨M4,m1,m2,m3,m4,m5⟩:=hA4
    have hE4:ErrT W4:=hE.frs h1 hS m5
    have hl4:r3.left=r2.left:=hsm.left
    have CK:=xD (n:=n) (here:=(nm::us)) (hb:=B+1) (hIH (by have:=HC.o.2.2.2.2.1;have:kW (some us)=us.length+1:=rfl;omega)) m1 hE4 h1 (⟨by have:=(hS.bnd _ HXM.o).1;have:=(hS.bnd _ HXM.o).2;omega,ub,g1,hsp.frs m5⟩) (by show us.length+1+1+n=66;omega) (by have:=HC.o.2.2.2.2.1;have:kW (some us)=us.length+1:=rfl;omega) (fun x q=>by rcases List.mem_cons.1 q with rfl | q;exact hnm;exact hus x q) (by rw [hl4];exact HC.o.2.1) (by rw [hl4];have:=HC.o.2.2.1;omega) (HC.o.1.lt hsm.lt)
    generalize bK c.l (qF c.l c.ver n (some (nm::us))) (nm::us) r3=KK at *
    obtain ⟨ks,r4⟩:=KK
    simp only at CK HBO2
    have HM:=hid (⟨m2,m3,m4,m5,g0,g2⟩:_∧_∧_∧_∧_∧_)
    clear m1 m2 m3 m4 m5 g0 g1 g2 hE4 HQ hsm hl4
    go_upto_region 21 with (go_at_call 103;refine CK.mono ?_;rintro e W5 ⟨kv,rfl,h5⟩;obtain ⟨M5,T5,t1,t2,t3,t4,t5⟩:=h5;obtain ⟨ka,kc,hkv,_⟩:=id t4;subst hkv;have b0:W5.heap[B]?=some (.cells z30 30 (0,0)):=(t3.fr.same B (gS HM.o.2.2.2.2.1) (HM.o.2.1 B (.inl (.inl (.inr rfl))))).trans HM.o.2.2.2.2.1;have b2:=(t3.fr.same (B+2) (gS HM.o.2.2.2.2.2) (HM.o.2.1 (B+2) (.inr rfl))).trans HM.o.2.2.2.2.2;have y1:W5.cell? ⟨B+2,40,none⟩=some (.slice none 0 0):=by { simp only [World.cell?,b2];exact yJ .. };have y2:W5.frozen? ⟨B+2,40,none⟩=false:=by { simp [World.frozen?,b2] };have HQ:=hid (⟨t1,t2,t3,t4,t5,b0,b2⟩:_∧_∧_∧_∧_∧_∧_);clear t1 t2 t3 t4 t5 b0 b2 CK)
    have g0:(W5.setCell ⟨B+2,40,none⟩ (.slice ka ks.len kc)).heap[B]?=some (.cells z30 30 (0,0)):=(Below.heap_setCell _ _ _ _ (by show B≠B+2;omega)).trans HQ.o.2.2.2.2.2.1
    have g2:=Wi.jM (o:=40) (.slice ka ks.len kc) HQ.o.2.2.2.2.2.2
    rw [cg] at g2
    have gF:Fr (fun b=>b=B∨b=B+2) W5 (W5.setCell ⟨B+2,40,none⟩ (.slice ka ks.len kc)):=Fr.setCell (.inr rfl)
    have HZ:=hid (⟨gF,g0,g2⟩:_∧_∧_)
    clear gF g0 g2 y1 y2
    generalize W5.setCell ⟨B+2,40,none⟩ (.slice ka ks.len kc)=W6 at *
    go_wp2_with (first
     | ((with_reducible refine jA (.agg (nc nm ⟨1,md,0,jw,by simp [jw]⟩ Md.zero (.slice ka ks.len kc))) ?_ ?_);exact jK _ rfl (B+2) 0 rfl _ (jO ..) (jD HZ.o.2.2))
     | ((with_reducible refine jC (W6.setRow B (nc nm ⟨1,md,0,jw,by simp [jw]⟩ Md.zero (.slice ka ks.len kc))) ?_ ?_);exact jU _ _ rfl B _ z30 rfl rfl _ HZ.o.2.1 (jO ..) jN (qz _ _ _ _ rfl)))
    refine bodyPost_ret (results_cell_row (P:=Tryz.prog) (p:=6) (ty:=30) rfl _ _ B 30 (nc nm ⟨1,md,0,jw,by simp [jw]⟩ Md.zero (.slice ka ks.len kc)) (0,0) _ rfl (setRow_heap _ _ _ _ _ _ HZ.o.2.1) qe rfl (by rw [kL,jO])) rfl ⟨_,rfl,?_⟩
    rw [HBO2.o]
    obtain ⟨t1,t2,t3,t4,t5,t6,t7⟩:=HQ.o
    obtain ⟨m2,m3,m4,m5,g0,g2⟩:=HM.o
    exact NdP.fin (B:=B) (B2:=B+2) m2 m5 t1 t2 t3 t4 t5 rfl (HZ.o.1.trans (fun _ q=>.inl q) (Fr.setRow (.inl rfl))) (m4 B (.inl (.inl (.inr rfl)))) (m4 (B+2) (.inr rfl)) (t2.not g0 (by decide) (m3 B (.inl (.inl (.inr rfl))))) (t2.not g2 (by decide) (m3 (B+2) (.inr rfl))) (gS g0) (gS g2)
   ·have hk23:k=2∨k=3:=by
     have:=HC.o.2.2.2.2.2
     unfold kOk at this
     simp [k1,kW] at this
     exact this
    have HBO1:=hid (HBO.o.trans (if_neg k1))
    clear HBO k1
    rcases hk23 with rfl | rfl
    ·have HBO2:=hid (HBO1.o.trans (if_pos rfl))
     clear HBO1
     have CO:=dZ (B:=B+2) 0 1099511627775 nm (vK 2) Md.zero (.slice none 0 0) HP.o.1 (by decide) (fun b q=>by have h9:=(gS HP.o.2.2.2);rcases q with ((q | q) | q) | q;exact q.elim;all_goals omega) (.inr rfl) HP.o.2.2.2
     generalize yu c.l 0 1099511627775 r2=hsl at *
     generalize conR c.l 0 1099511627775 r2=CN at *
     obtain ⟨⟨sz,sm⟩,r3⟩:=CN
     simp only at CO HBO2
     go_upto_region 17 with (go_at_call 104;refine CO.mono ?_;rintro e W3 ⟨rfl,h2,h3,h4,h5⟩;have e0:=(h4 B (.inl (.inl (.inr rfl))) (by omega)).trans HP.o.2.1;have HQ:=hid (⟨h2,e0,h5⟩:_∧_∧_);clear h2 h3 h4 h5 e0 CO)
     have CM:=HQ.o.1.call (f:=102) (args:=#[.pointer (some ⟨c.X,0,none⟩)]) (fun b q=>by have h9:=(gS HQ.o.2.2);rcases q with ((q | q) | q) | q;exact q.elim;all_goals omega) fun M' hR=>aS hR
     generalize modR c.l c.ver r3=NM at *
     obtain ⟨md,r4⟩:=NM
     simp only at CM HBO2
     go_upto_region 18 with (go_at_call 102;refine CM.mono ?_;rintro e W4 ⟨rfl,h2,h3,h4⟩;have e0:=(h4 B (.inl (.inl (.inr rfl)))).trans HQ.o.2.1;have e2:=(h4 (B+2) (.inr rfl)).trans HQ.o.2.2;have y1:W4.cell? ⟨B+2,2,none⟩=some (.int .i64 0):=by { simp only [World.cell?,e2];exact zF .. };have y2:W4.frozen? ⟨B+2,2,none⟩=false:=by { simp [World.frozen?,e2] };have HR:=hid (⟨h2,e0,e2⟩:_∧_∧_);clear h2 h3 h4 e0 e2 CM)
     have hA5:=HR.o.1.put (Fr.setCell (w:=W4) (o:=2) (x:=.int .i64 md) (.inr rfl:((False∨B+2=B)∨B+2=B+1)∨B+2=B+2))
     have g0:(W4.setCell ⟨B+2,2,none⟩ (.int .i64 md)).heap[B]?=some (.cells z30 30 (0,0)):=(Below.heap_setCell _ _ _ _ (by show B≠B+2;omega)).trans HR.o.2.1
     have g2:=Wi.jM (o:=2) (.int .i64 md) HR.o.2.2
     rw [iJ] at g2
     have HU:=hid (⟨hA5,g0,g2⟩:_∧_∧_)
     clear hA5 g0 g2 y1 y2 u1 HQ HR
     generalize W4.setCell ⟨B+2,2,none⟩ (.int .i64 md)=W5 at *
     have CN:=HU.o.1.call (f:=105) (args:=#[.pointer (some ⟨c.X,0,none⟩)]) (fun b q=>by have h9:=(gS HU.o.2.2);rcases q with ((q | q) | q) | q;exact q.elim;all_goals omega) fun M' hR=>iH hR
     generalize yV c.l c.ver r4=NN at *
     obtain ⟨mm,r5⟩:=NN
     simp only at CN HBO2
     obtain ⟨X,hX⟩:∃ X,(mx mm).toArray=X:=⟨_,rfl⟩
     rw [hX] at CN
     have HX:Hid (X.size=4∧X.all (·.oneCell')=true∧X.toList=mx mm):=⟨by rw [← hX];simp [qh],by rw [← hX];simp [mx,Value.oneCell'],by rw [← hX]⟩
     clear hX
     go_upto_region 21 with (first
      | (go_at_call 105;refine CN.mono ?_;rintro e W6 ⟨rfl,h2,h3,h4⟩;have e0:=(h4 B (.inl (.inl (.inr rfl)))).trans HU.o.2.1;have e2:=(h4 (B+2) (.inr rfl)).trans HU.o.2.2;have HQ:=hid (⟨h2,e0,e2⟩:_∧_∧_);clear h2 h3 h4 e0 e2 CN)
      | ((with_reducible refine jC (W6.setCells (B+2) 36 X.toList) ?_ ?_);exact yI 27 _ _ rfl (B+2) 36 X rfl rfl _ (yj HQ.o.2.2 (by rw [HX.o.1,jO];omega)) (by rw [dM,HX.o.1]) HX.o.2.1))
     have hA7:=HQ.o.1.put (Fr.setCells (w:=W6) (o:=36) (vs:=X.toList) (.inr rfl:((False∨B+2=B)∨B+2=B+1)∨B+2=B+2))
     have g0:(W6.setCells (B+2) 36 X.toList).heap[B]?=some (.cells z30 30 (0,0)):=(jV _ _ _ _ _ (by omega)).trans HQ.o.2.1
     have g2:=qr X.toList 36 W6 (nc nm ⟨2,md,sz,sm,hsl⟩ Md.zero (.slice none 0 0)).toList HQ.o.2.2 (by have:=HX.o.1;simp [jO,this])
     rw [HX.o.2.2,sZ,← HX.o.2.2] at g2
     have HZ:=hid (⟨hA7,g0,g2⟩:_∧_∧_)
     clear hA7 g0 g2 HU
     generalize W6.setCells (B+2) 36 X.toList=W7 at *
     go_wp2_with (first
      | ((with_reducible refine jA (.agg (nc nm ⟨2,md,sz,sm,hsl⟩ mm (.slice none 0 0))) ?_ ?_);exact jK _ rfl (B+2) 0 rfl _ (jO ..) (jD HZ.o.2.2))
      | ((with_reducible refine jC (W7.setRow B (nc nm ⟨2,md,sz,sm,hsl⟩ mm (.slice none 0 0))) ?_ ?_);exact jU _ _ rfl B _ z30 rfl rfl _ HZ.o.2.1 (jO ..) jN (qz _ _ _ _ rfl)))
     refine bodyPost_ret (results_cell_row (P:=Tryz.prog) (p:=6) (ty:=30) rfl _ _ B 30 (nc nm ⟨2,md,sz,sm,hsl⟩ mm (.slice none 0 0)) (0,0) _ rfl (setRow_heap _ _ _ _ _ _ HZ.o.2.1) qe rfl (by rw [kL,jO])) rfl ⟨_,rfl,?_⟩
     rw [HBO2.o]
     exact NdP.plain HZ.o.1 (.inl (.inl (.inr rfl)):((False∨B=B)∨B=B+1)∨B=B+2) rfl rfl (Fr.setRow rfl) (gS HZ.o.2.1)
    ·have HBO2:=hid ((HBO1.o.trans (if_neg (by decide))).trans (if_pos rfl))
     clear HBO1
     have CO:=dZ (B:=B+2) 1 4095 nm (vK 3) Md.zero (.slice none 0 0) HP.o.1 (by decide) (fun b q=>by have h9:=(gS HP.o.2.2.2);rcases q with ((q | q) | q) | q;exact q.elim;all_goals omega) (.inr rfl) HP.o.2.2.2
     generalize yu c.l 1 4095 r2=hsl at *
     generalize conR c.l 1 4095 r2=CN at *
     obtain ⟨⟨sz,sm⟩,r3⟩:=CN
     simp only at CO HBO2
     go_upto_region 21 with (go_at_call 104;refine CO.mono ?_;rintro e W3 ⟨rfl,h2,h3,h4,h5⟩;have e0:=(h4 B (.inl (.inl (.inr rfl))) (by omega)).trans HP.o.2.1;have HZ:=hid (⟨h2,e0,h5⟩:_∧_∧_);clear h2 h3 h4 h5 e0 CO)
     go_wp2_with (first
      | ((with_reducible refine jA (.agg (nc nm ⟨3,0,sz,sm,hsl⟩ Md.zero (.slice none 0 0))) ?_ ?_);exact jK _ rfl (B+2) 0 rfl _ (jO ..) (jD HZ.o.2.2))
      | ((with_reducible refine jC (W3.setRow B (nc nm ⟨3,0,sz,sm,hsl⟩ Md.zero (.slice none 0 0))) ?_ ?_);exact jU _ _ rfl B _ z30 rfl rfl _ HZ.o.2.1 (jO ..) jN (qz _ _ _ _ rfl)))
     refine bodyPost_ret (results_cell_row (P:=Tryz.prog) (p:=6) (ty:=30) rfl _ _ B 30 (nc nm ⟨3,0,sz,sm,hsl⟩ Md.zero (.slice none 0 0)) (0,0) _ rfl (setRow_heap _ _ _ _ _ _ HZ.o.2.1) qe rfl (by rw [kL,jO])) rfl ⟨_,rfl,?_⟩
     rw [HBO2.o]
     exact NdP.plain HZ.o.1 (.inl (.inl (.inr rfl)):((False∨B=B)∨B=B+1)∨B=B+2) rfl rfl (Fr.setRow rfl) (gS HZ.o.2.1)
  ·skip
   have hbod:zJ c.l c.ver (fun here=>qF c.l c.ver n (some here)) k nm (nm::us) r2=(⟨nm,vK k,Md.zero,.nil⟩,r2):=by
    unfold zJ
    rw [if_pos hf]
   have HBO:=hid hbod
   have HZ:=hid (⟨HP.o.1,HP.o.2.1,HP.o.2.2.2⟩:_∧_∧_)
   clear hbod hf
   go_wp2_with (first
    | ((with_reducible refine jA (.agg (nc nm (vK k) Md.zero (.slice none 0 0))) ?_ ?_);exact jK _ rfl (B+2) 0 rfl _ (jO ..) (jD HZ.o.2.2))
    | ((with_reducible refine jC (W.setRow B (nc nm (vK k) Md.zero (.slice none 0 0))) ?_ ?_);exact jU _ _ rfl B _ z30 rfl rfl _ HZ.o.2.1 (jO ..) jN (qz _ _ _ _ rfl)))
   refine bodyPost_ret (results_cell_row (P:=Tryz.prog) (p:=6) (ty:=30) rfl _ _ B 30 (nc nm (vK k) Md.zero (.slice none 0 0)) (0,0) _ rfl (setRow_heap _ _ _ _ _ _ HZ.o.2.1) qe rfl (by rw [kL,jO])) rfl ⟨_,rfl,?_⟩
   rw [HBO.o]
   exact NdP.plain HZ.o.1 (.inl (.inl (.inr rfl)):((False∨B=B)∨B=B+1)∨B=B+2) rfl rfl (Fr.setRow rfl) (gS HZ.o.2.1)
theorem aT {c:Rp} (h1:1<c.lo):∀ n,sX c n
 | 0=>fun _ _ _ _ _ _ _ _ _ _ h=>by omega
 | n+1=>by
  intro up upv last r M w hS hE hU hd _ hc hl hl2
  cases up with
  | none=>
   have hU:upv=.pointer none:=hU
   subst hU
   exact iK h1 (fun _=>aT h1 n) last r M w hS hE hd hc hl hl2
  | some us=>
   obtain ⟨ub,rfl,hsp,_,hus⟩:=hU
   exact nC h1 (fun _=>aT h1 n) us ub last r M w hS hE hsp hus hd hc hl hl2
def NdS (c:Rp) (r:Rv) (d:Nd) (M:Nat→Prop) (w:World) (C:Array Value) (S:Nat→Prop) (W:World):Prop:=∃ M' T,Rs c r M' W∧Subn M w M'∧Frs M w W∧zL W T C d.nm d.v d.m d.ks∧PT w W M' T∧∀ b,S b→w.heap.size≤b∧¬ M' b∧¬ T b∧b<W.heap.size
theorem NdS.done {c:Rp} {r:Rv} {d:Nd} {M S:Nat→Prop} {w W:World} {C:Array Value} (h:NdS c r d M w C S W):NdP c r d M w C W:=by
 obtain ⟨M',T,h1,h2,h3,h4,h5,_⟩:=h
 exact ⟨M',T,h1,h2,h3,h4,h5⟩
theorem NdS.call {c:Rp} {r r':Rv} {d:Nd} {M S:Nat→Prop} {w W:World} {C:Array Value} {f:FuncId} {args:Array Value} {Q:Ending→World→Prop} (h:NdS c r d M w C S W)
  (hc:∀ M',Rs c r M' W→Calls Tryz.prog f args W fun x w'=>Q x w'∧Pr c r' M' W w'):
  Calls Tryz.prog f args W fun x w'=>Q x w'∧NdS c r' d M w C S w'∧∀ b,S b→w'.heap[b]?=W.heap[b]?:=by
 obtain ⟨M',T,h1,h2,h3,h4,h5,h6⟩:=h
 refine (hc M' h1).mono ?_
 rintro x w' ⟨hq,M2,k1,k2,k3⟩
 have hT:∀ b,T b→w'.heap[b]?=W.heap[b]?:=fun b hb=>by
  obtain ⟨q1,q2,cs,q3⟩:=h5 b hb
  exact k3.fr.same b (gS q3) q2
 have hS:∀ b,S b→w'.heap[b]?=W.heap[b]?:=fun b hb=>k3.fr.same b (h6 b hb).2.2.2 (h6 b hb).2.1
 refine ⟨hq,⟨M2,T,k1,h2.trans h3 (Subn.of k2),h3.transn h2 k3,?_,fun b hb=>?_,fun b hb=>?_⟩,hS⟩
 ·obtain ⟨kv,e,hk⟩:=h4
  exact ⟨kv,e,hk.keep fun b hb=>⟨hT b hb,hb⟩⟩
 ·obtain ⟨q1,q2,cs,q3⟩:=h5 b hb
  refine ⟨q1,fun hm=>?_,cs,(hT b hb).trans q3⟩
  rcases k2 b hm with q | q
  ·exact q2 q
  ·have:=(gS q3);omega
 ·obtain ⟨q1,q2,q3,q4⟩:=h6 b hb
  refine ⟨q1,fun hm=>?_,q3,by have:=k3.size;omega⟩
  rcases k2 b hm with q | q
  ·exact q2 q
  ·omega
theorem NdS.put {c:Rp} {r:Rv} {d:Nd} {M S:Nat→Prop} {w W W':World} {C:Array Value} (h:NdS c r d M w C S W) (hf:Fr S W W'):NdS c r d M w C S W':=by
 obtain ⟨M',T,h1,h2,h3,h4,h5,h6⟩:=h
 have hT:∀ b,T b→W'.heap[b]?=W.heap[b]?:=fun b hb=>by
  obtain ⟨q1,q2,cs,q3⟩:=h5 b hb
  exact hf.same b (gS q3) fun hs=>(h6 b hs).2.2.1 hb
 refine ⟨M',T,h1.keep hf.size fun b hb=>hf.same b (h1.bnd b hb).2 fun hs=>(h6 b hs).2.1 hb,h2,⟨h3.fr.trans (fun b hs=>.inr (h6 b hs).1) hf,fun b cs hm hb=>?_⟩,?_,fun b hb=>?_,fun b hb=>?_⟩
 ·have hlt:=(gS hb)
  exact (hf.same b (by have:=h3.size;omega) fun hs=>by have:=(h6 b hs).1;omega).trans (h3.sp b cs hm hb)
 ·obtain ⟨kv,e,hk⟩:=h4
  exact ⟨kv,e,hk.keep fun b hb=>⟨hT b hb,hb⟩⟩
 ·obtain ⟨q1,q2,cs,q3⟩:=h5 b hb
  exact ⟨q1,q2,cs,(hT b hb).trans q3⟩
 ·obtain ⟨q1,q2,q3,q4⟩:=h6 b hb
  exact ⟨q1,q2,q3,by have:=hf.size;omega⟩
theorem NdS.rs {c:Rp} {r:Rv} {d:Nd} {M S:Nat→Prop} {w W:World} {C:Array Value} (h:NdS c r d M w C S W):∃ M',Rs c r M' W:=by
 obtain ⟨M',T,h1,_⟩:=h
 exact ⟨M',h1⟩
theorem NdS.start {c:Rp} {r1 r:Rv} {d:Nd} {M M1 S:Nat→Prop} {w W1 W2 W3:World} {C:Array Value} {B D:Nat} (s1:∀ b,M1 b→M b∨w.heap.size≤b) (s2:∀ b,S b→¬ M1 b) (s3:∀ b,S b→w.heap.size≤b) (f1:Frs M w W1) (hSB:∀ b,S b→b=B) (hB:W1.heap[B]?=some (.cells z30 30 (0,0))) (hSS:S B)
  (h:NdP c r d M1 W1 C W2) (hG:G W2 W3) (hD:D=W2.heap.size) (hD3:D<W3.heap.size) (_hr:Rs c r1 M1 W1):NdS c r d M w C (fun b=>b=B∨b=D) W3∧W3.heap[B]?=some (.cells z30 30 (0,0)):=by
 obtain ⟨M',T,h1,h2,h3,h4,h5⟩:=h
 have hBl:=(gS hB)
 have hs1:=f1.size
 have hs3:=h3.size
 have hB2:=(h3.fr.same B hBl (s2 B hSS)).trans hB
 have hT:∀ b,T b→W3.heap[b]?=W2.heap[b]?:=fun b hb=>by
  obtain ⟨q1,q2,cs,q3⟩:=h5 b hb
  exact hG.block b (gS q3)
 refine ⟨⟨M',T,h1.grow hG,(Subn.of s1).trans f1 h2,(f1.trans s1 h3).trans (M1:=fun _=>False) (fun b q=>q.elim) (Frs.of_G hG),?_,fun b hb=>?_,?_⟩,(hG.block B (by omega)).trans hB2⟩
 ·obtain ⟨kv,e,hk⟩:=h4
  exact ⟨kv,e,hk.keep fun b hb=>⟨hT b hb,hb⟩⟩
 ·obtain ⟨q1,q2,cs,q3⟩:=h5 b hb
  exact ⟨by omega,q2,cs,(hT b hb).trans q3⟩
 ·rintro b (rfl | rfl)
  ·refine ⟨s3 b hSS,h2.not hB (by decide) (s2 b hSS),fun hb=>?_,by have:=hG.size;omega⟩
   have:=(h5 b hb).1
   omega
  ·refine ⟨by omega,fun hm=>?_,fun hb=>?_,hD3⟩
   ·have:=(h1.bnd b hm).2;omega
   ·obtain ⟨q1,q2,cs,q3⟩:=h5 b hb
    have:=(gS q3)
    omega
theorem Pq.setLeft {c:Rp} {r:Rv} {M S:Nat→Prop} {w0 w:World} (h:Pq c r M w0 S w) (x:Int):Pq c { r with left:=x } M w0 S (w.setCell ⟨c.X,2,none⟩ (.int .i64 x)):=by
 obtain ⟨M',⟨fp,sv,xs,h1⟩,h2,h3,h4,h5⟩:=h
 have k:=h1.setLeft x
 exact ⟨M',⟨fp,sv,xs,k.1⟩,h2,h3,h4,h5.trans h2 k.2⟩
theorem Pq.err {c:Rp} {r0 r:Rv} {M S:Nat→Prop} {w0 w:World} (h:Pq c r M w0 S w) (hE:ErrT w0) (h1:1<c.lo) (hS:Rs c r0 M w0):ErrT w:=by
 obtain ⟨M',_,_,_,_,h5⟩:=h
 exact hE.frs h1 hS h5
def yX (l:List Int) (most:Nat) (r:Rv):Rv:=kT r.s.p (decide (0<(Wi.uintS l r.s most).1)) (yU { r with s:=(Wi.uintS l r.s most).2,left:=((Wi.uintS l r.s most).1:Int) })
def lk (l:List Int) (r:Rv):Rv:=kT (Wi.endS l r.s).p true { r with s:=Wi.endS l r.s }
def bb (p:Int) (r:Rv):Rv:=if 0<r.left then refR p 63 r else r
def bd (l:List Int) (ver:Int) (most:Nat) (r:Rv):Nd × Rv:=
 ((qF l ver 66 none ⟨#[]⟩ (yX l most r)).1,bb r.s.p (lk l (qF l ver 66 none ⟨#[]⟩ (yX l most r)).2))
theorem bf (l:List Int) (most:Nat) (r:Rv):(yX l most r).left=((Wi.uintS l r.s most).1:Int):=by
 unfold yX
 rw [(Sm.must _ _ _).left,(Sm.bound _).left]
theorem iL {c:Rp} {r:Rv} {M:Nat→Prop} {w:World} (most:Nat) (hm:most≤1048576) (hS:Rs c r M w) (hE:ErrT w) (h1:1<c.lo) (hc:capR c (yX c.l most r)):
  Calls Tryz.prog 36 #[.pointer (some ⟨c.X,0,none⟩),.int .i64 (most:Int)] w fun e w'=>∃ C,e=.returned (.agg C)∧NdP c (bd c.l c.ver most r).2 (bd c.l c.ver most r).1 M w C w':=by
 obtain ⟨B,hB⟩:∃ B,w.heap.size=B:=⟨_,rfl⟩
 have hA1:=(Pq.start hS).alloc (.cells z30 30)
 rw [hB] at hA1
 have hG1:G w (w.alloc (.cells z30 30)):=G.alloc _ _
 have g0:(w.alloc (.cells z30 30)).heap[B]?=some (.cells z30 30 (0,0)):=by rw [← hB];exact World.alloc_heap_new w _
 have q0:=hA1.q0
 have C1:=(hS.grow hG1).at_
 obtain ⟨P,hP⟩:∃ P:Nat,r.s.p=P:=⟨_,rfl⟩
 rw [hP] at C1
 have C2:=hA1.call (f:=63) (args:=#[.pointer (some ⟨c.R,0,none⟩),.int .u64 most]) (fun b q=>by have h9:=(gS g0);rcases q with q | q;exact q.elim;omega) fun M' hR=>hR.uint most
 have hle:=eI c.l r.s most
 unfold bd
 have hAl:=bf c.l most r
 have hAe:yX c.l most r=kT P (decide (0<(Wi.uintS c.l r.s most).1)) (yU { r with s:=(Wi.uintS c.l r.s most).2,left:=((Wi.uintS c.l r.s most).1:Int) }):=by unfold yX;rw [hP]
 generalize yX c.l most r=rA at *
 generalize (Wi.uintS c.l r.s most).1=N at *
 generalize (Wi.uintS c.l r.s most).2=s1 at *
 rw [hP]
 obtain ⟨NN,hNN⟩:∃ NN,qF c.l c.ver 66 none ⟨#[]⟩ rA=NN:=⟨_,rfl⟩
 rw [hNN]
 have HNN:=hid hNN
 obtain ⟨d,r4⟩:=NN
 obtain ⟨r5,hr5⟩:∃ r5,lk c.l r4=r5:=⟨_,rfl⟩
 simp only [hr5]
 have HR5:=hid hr5
 clear hNN hr5
 have HH:=hid (⟨hE,h1,hc,hAl,hAe,hS,g0⟩:_∧_∧_∧_∧_∧_∧_)
 clear hE h1 hc hAl hAe hA1 hG1 hP g0
 go_enter Tryz.func36,Tryz.ntmps36
 go_upto_region 3 with (first
  | ((with_reducible refine jF (.pointer (some ⟨B,0,none⟩)) (w.alloc (.cells z30 30)) ?_ ?_);exact jG 30 z30 rfl xZ _ _ hB)
  | (go_at_call 62;refine C1.mono ?_;rintro e w2 ⟨rfl,hw2⟩;replace hw2:=hw2.symm;subst hw2)
  | (go_at_call 63;refine C2.mono ?_;rintro e w2 ⟨rfl,h2,h3,h4⟩;have e0:=(h4 B (.inr rfl)).trans HH.o.2.2.2.2.2.2;have y1:=h2.q2;have y2:w2.frozen? ⟨c.X,2,none⟩=false:=by { obtain ⟨_,⟨_,_,_,m1⟩,_⟩:=h2;exact m1.frz 2 };have HP:=hid (⟨h2,e0⟩:_∧_);clear h2 h3 h4 e0 C2))
 have hA3:=HP.o.1.setLeft (N:Int)
 have g0:(w2.setCell ⟨c.X,2,none⟩ (.int .i64 (N:Int))).heap[B]?=some (.cells z30 30 (0,0)):=(Below.heap_setCell _ _ _ _ (fun (e:B=c.X)=>by
  have:=(hS.bnd _ (by obtain ⟨_,_,_,h9⟩:=id hS;exact h9.mX)).2
  omega)).trans HP.o.2
 clear y1 y2 q0 C1
 generalize w2.setCell ⟨c.X,2,none⟩ (.int .i64 (N:Int))=w3 at *
 have hbl:∀ W:World,W.heap[B]?=some (.cells z30 30 (0,0))→∀ b,(False∨b=B)→b<W.heap.size:=fun W h b q=>by
  have h9:=(gS h)
  rcases q with q | q
  ·exact q.elim
  ·omega
 have C3:=hA3.call (f:=65) (args:=#[.pointer (some ⟨c.X,0,none⟩)]) (hbl _ g0) fun M' hR=>xb hR (hA3.err HH.o.1 HH.o.2.1 hS) HH.o.2.1
 have HA3:=hid g0
 clear hA3 g0 HP
 go_upto_region 4 with (go_at_call 65;refine C3.mono ?_;rintro e w4 ⟨rfl,h2,h3,h4⟩;have e0:=(h4 B (.inr rfl)).trans HA3.o;have HP:=hid (⟨h2,e0⟩:_∧_);clear h2 h3 h4 e0 C3)
 have y1:=HP.o.1.q2
 rw [(Sm.bound _).left] at y1
 simp only at y1
 have C4:Hid (∀ ok,Calls Tryz.prog 66 #[.pointer (some ⟨c.X,0,none⟩),.int .i64 (P:Int),.bool ok] w4 fun x w'=>x=.returned (.tuple #[])∧Pq c (kT P ok (yU { r with s:=s1,left:=(N:Int) })) M w (fun b=>False∨b=B) w'∧w4.heap.size≤w'.heap.size∧∀ b,(False∨b=B)→w'.heap[b]?=w4.heap[b]?):=fun ok=>HP.o.1.call (hbl _ HP.o.2) fun M' hR=>zl P ok hR
 go_upto_region 5 with (go_at_call 66;refine (C4.o _).mono ?_;rintro e w5 ⟨rfl,h2,h3,h4⟩;have e0:=(h4 B (.inr rfl)).trans HP.o.2;have HQ:=hid (⟨h2,e0⟩:_∧_);clear h2 h3 h4 e0 C4)
 rw [← HH.o.2.2.2.2.1] at HQ
 clear y1 HP HA3
 obtain ⟨M1,m1,m2,m3,m4,m5⟩:=HQ.o.1
 have CN:=aT HH.o.2.1 66 none (.pointer none) ⟨#[]⟩ rA M1 w5 m1 (HH.o.1.frs HH.o.2.1 hS m5) rfl rfl (by omega) HH.o.2.2.1 (by rw [HH.o.2.2.2.1];omega) (by rw [HH.o.2.2.2.1];omega)
 rw [HNN.o] at CN
 simp only at CN
 have HM:=hid (⟨m1,m2,m3,m4,m5,HQ.o.2⟩:_∧_∧_∧_∧_∧_)
 clear m1 m2 m3 m4 m5 HQ
 go_upto_region 6 with (first
  | (go_at_call 67;refine CN.mono ?_;rintro e W2 ⟨C,rfl,hN⟩;obtain ⟨D,hD⟩:∃ D,W2.heap.size=D:=⟨_,rfl⟩;have HN:=hid hN;have HZ:Hid (C.size=41∧C.all (·.oneCell')=true):=by { obtain ⟨_,_,_,_,_,⟨kv2,rfl,hk2⟩,_⟩:=hN;obtain ⟨a2,cap2,rfl,_⟩:=hk2;exact ⟨jO ..,qz _ _ _ _ rfl⟩ };have HV:=hid (aR W2 C);rw [hD] at HV;clear CN hN)
  | ((with_reducible refine jF (.pointer (some ⟨D,0,none⟩)) (W2.alloc (.cells z30 30)) ?_ ?_);exact jG 30 z30 rfl xZ _ _ hD)
  | ((with_reducible refine jC ((W2.alloc (.cells z30 30)).setRow D C) ?_ ?_);exact jU _ _ rfl D C z30 rfl rfl _ (by rw [← hD];exact Var.new W2 z30) HZ.o.1 jN HZ.o.2))
 have hst:=NdS.start (B:=B) (D:=D) HM.o.2.1 HM.o.2.2.1 HM.o.2.2.2.1 HM.o.2.2.2.2.1 (fun b q=>q.elim (fun q=>q.elim) id) HM.o.2.2.2.2.2 (.inr rfl) HN.o HV.o.1 hD.symm (by rw [HV.o.2.2];omega) HM.o.1
 have HS3:=hid (⟨hst.1,hst.2,HV.o.2.1⟩:_∧_∧_)
 clear hst HN HM
 generalize (W2.alloc (.cells z30 30)).setRow D C=w6 at *
 clear HV hD
 obtain ⟨M6,p6⟩:=HS3.o.1.rs
 have q0:=p6.q0
 clear p6
 have C6:=HS3.o.1.call (f:=68) (args:=#[.pointer (some ⟨c.R,0,none⟩)]) fun M' hR=>hR.end_
 go_upto_region 7 with (go_at_call 68;refine C6.mono ?_;rintro e w7 ⟨rfl,h2,h4⟩;have HS4:=hid (⟨h2,(h4 B (.inl rfl)).trans HS3.o.2.1,(h4 D (.inr rfl)).trans HS3.o.2.2⟩:_∧_∧_);clear h2 h4 C6)
 clear HS3 q0
 obtain ⟨M7,p7⟩:=HS4.o.1.rs
 have q0:=p7.q0
 have C7:=p7.at_
 clear p7
 have C8:=HS4.o.1.call (f:=66) (args:=#[.pointer (some ⟨c.X,0,none⟩),.int .i64 ((Wi.endS c.l r4.s).p:Int),.bool true]) fun M' hR=>zl _ true hR
 go_upto_region 8 with (first
  | (go_at_call 62;refine C7.mono ?_;rintro e w8 ⟨rfl,hw8⟩;replace hw8:=hw8.symm;subst hw8)
  | (go_at_call 66;refine C8.mono ?_;rintro e w8 ⟨rfl,h2,h4⟩;have HS5:=hid (⟨h2,(h4 B (.inl rfl)).trans HS4.o.2.1,(h4 D (.inr rfl)).trans HS4.o.2.2⟩:_∧_∧_);clear h2 h4 C8))
 clear HS4 q0 C7
 have hB5:Hid (NdS c r5 d M w C (fun b=>b=B∨b=D) w8):=by rw [← HR5.o];exact HS5.o.1
 obtain ⟨M8,p8⟩:=hB5.o.rs
 have q2:=p8.q2
 clear p8
 have HZ5:=hid (⟨hB5.o,HS5.o.2.1,HS5.o.2.2⟩:_∧_∧_)
 clear HS5 hB5
 have C9:=HZ5.o.1.call (f:=69) (args:=#[.pointer (some ⟨c.X,0,none⟩),.int .i64 (P:Int),.int .i64 63]) fun M' hR=>km P 63 hR
 by_cases hlf:0<r5.left
 ·go_wp2_with (first
   | (go_at_call 69;refine C9.mono ?_;rintro e w9 ⟨rfl,h2,h4⟩;have HZ6:=hid (⟨h2,(h4 B (.inl rfl)).trans HZ5.o.2.1,(h4 D (.inr rfl)).trans HZ5.o.2.2⟩:_∧_∧_);clear h2 h4 C9)
   | ((with_reducible refine jA (.agg C) ?_ ?_);exact jK _ rfl D 0 rfl _ HZ.o.1 (jD HZ6.o.2.2))
   | ((with_reducible refine jC (w9.setRow B C) ?_ ?_);exact jU _ _ rfl B _ z30 rfl rfl _ HZ6.o.2.1 HZ.o.1 jN HZ.o.2))
  refine bodyPost_ret (results_cell_row (P:=Tryz.prog) (p:=4) (ty:=30) rfl _ _ B 30 C (0,0) _ rfl (setRow_heap _ _ _ _ _ _ HZ6.o.2.1) qe rfl (by rw [kL,HZ.o.1])) rfl ⟨C,rfl,?_⟩
  unfold bb
  rw [if_pos hlf]
  exact (HZ6.o.1.put (Fr.setRow (.inl rfl))).done
 ·have HZ6:=HZ5
  clear C9
  go_wp2_with (first
   | ((with_reducible refine jA (.agg C) ?_ ?_);exact jK _ rfl D 0 rfl _ HZ.o.1 (jD HZ6.o.2.2))
   | ((with_reducible refine jC (w8.setRow B C) ?_ ?_);exact jU _ _ rfl B _ z30 rfl rfl _ HZ6.o.2.1 HZ.o.1 jN HZ.o.2))
  refine bodyPost_ret (results_cell_row (P:=Tryz.prog) (p:=4) (ty:=30) rfl _ _ B 30 C (0,0) _ rfl (setRow_heap _ _ _ _ _ _ HZ6.o.2.1) qe rfl (by rw [kL,HZ.o.1])) rfl ⟨C,rfl,?_⟩
  unfold bb
  rw [if_neg (by omega)]
  exact (HZ6.o.1.put (Fr.setRow (.inl rfl))).done
end Go.Proofs.YtjikkhbcbfpocaaGreatDoor
