import Derived.Test.YthfcanpkhjgomaaGreatVb
import Derived.Test.YthfcanpkhjgomaaGreatDropD
import Derived.Test.YthfcanpkhjgomaaGreatAtA
set_option maxRecDepth 100000
set_option maxHeartbeats 2000000
namespace Go.Proofs.YthfcanpkhjgomaaGreat
open Go.RowKit
def setE (t:T3) (s:ByteArray) (v:Vd) (m:Md):Int:=if wayE t s≠0 then wayE t s else match dn t (cutN s) with
 | none=>45
 | some x=>ownE v m (decide (0<x.2.2.len))
def kidsAt (t:T3) (L:List ByteArray):F:=match dn t L with
 | none=>.nil
 | some x=>x.2.2
theorem len_zero:∀ {f:F},f.len=0→f=.nil
 | .nil,_=>rfl
 | .cons ..,h=>by simp [F.len] at h
theorem at_nil {w:World} {k:K} {u:Value} (h:At w k u):(u=.pointer none∧k.flat=.nil)∨(∃ q,u=.pointer (some ⟨q,0,none⟩)∧k.flat≠.nil):=by
 cases k with
 | nil=>exact .inl ⟨h,rfl⟩
 | node q p nm v m kids ah be=>exact .inr ⟨q,h.1,fun z=>by
   have:=congrArg F.len z
   rw [K.flat,F.app_len] at this
   simp [F.len] at this⟩
theorem exec_neqN {o:Oper} {a:Act} (x y:Operand) (ho:o.op=.binOp .neq 96 x y 96) (au:Option Addr) (hx:a.eval x=.pointer au) (hy:a.eval y=.pointer none) (w:World):(execOp a.eval o).run Tryz.prog w=.ok (.value (.bool au.isSome)) w:=by
 unfold execOp
 simp only [ho,hx,hy]
 cases au<;>rfl
theorem set_any (p:Nat) (t:T3) (q:ByteArray) (v:Vd) (m:Md) (X M:Array Value) (hX:X=(vx v).toArray) (hM:M=(mx m).toArray) (w:World) (ht:T1 w p t) (hr:t.2.2.rises) (hq:q.size≤1048576) (hb:t.2.2.size≤150000):
  Calls Tryz.prog 121 #[.pointer (some ⟨p,0,none⟩),.string q,.agg X,.agg M] w fun e w'=>∃ u,e=.returned (.tuple #[u,.int .i64 (setE t q v m)])∧G w w'∧(setE t q v m≠0→u=.pointer none)∧(setE t q v m=0→∃ p',u=.pointer (some ⟨p',0,none⟩)∧T1 w' p' (putT t (cutN q) (v,m,kidsAt t (cutN q)))):=by
 have hG:G w ((w.alloc (.cells X 24)).alloc (.cells M 27)):=(G.alloc w _).trans (G.alloc _ _)
 obtain ⟨lX,lM⟩:=boxes w X M
 have hXs:X.size=35:=by rw [hX];simp [jQ]
 have hMs:M.size=4:=by rw [hM];simp [ji]
 have HX:Hid (X=(vx v).toArray∧M=(mx m).toArray∧X.size=35∧M.size=4):=⟨hX,hM,hXs,hMs⟩
 have C1:=way_any p t q _ (ht.grow hG) hr hq
 have HT:=hid (⟨ht,hr,hb⟩:T1 w p t∧t.2.2.rises∧t.2.2.size≤150000)
 have HL:=hid (⟨hG,lX,lM⟩:_∧_∧_)
 obtain ⟨E,hE⟩:∃ E,wayE t q=E:=⟨_,rfl⟩
 have HE:=hid hE
 rw [hE] at C1
 clear ht hr hE hb hX hM hXs hMs hG lX lM
 by_cases h0:E=0
 case neg=>
  have hS:setE t q v m=E:=by unfold setE;rw [if_pos (by rw [HE.out];exact h0),HE.out]
  rw [hS]
  have h1:(E != 0)=true:=by simpa using h0
  have H0:=hid h0
  clear hS h0
  go_enter Tryz.func121,Tryz.ntmps121
  go_upto_region 1 with fail
  generalize (w.alloc (.cells X 24)).alloc (.cells M 27)=w1 at *
  go_wp2_with (go_at_call 119;refine C1.mono ?_;rintro e w2 ⟨an,n,cn,rfl,_,hg1⟩;have HG1:=hid (HL.out.1.trans hg1);clear hg1)
  go_ret2
  exact ⟨_,rfl,HG1.out,fun _=>rfl,fun h=>absurd h H0.out⟩
 subst h0
 obtain ⟨D,hD⟩:∃ D,dn t (cutN q)=D:=⟨_,rfl⟩
 have HD:=hid hD
 have HC2:Hid (∀ W an cn,G w W→HasT W (.slice an (cutN q).length cn) (cutN q)→Calls Tryz.prog 117 #[.pointer (some ⟨p,0,none⟩),.slice an (cutN q).length cn] W fun e w'=>(∃ u,e=.returned u∧PtrTo (fun _=>True) (Tr W) W u D)∧w'=W):=fun W an cn hW hh=>by
  rw [← HD.out]
  exact down_any p t _ _ W (HT.out.1.grow hW) HT.out.2.1 hh (by have:=names_few (wayE_ok HE.out).1;omega)
 obtain ⟨N,hN⟩:∃ N,(cutN q).length=N:=⟨_,rfl⟩
 have HN:=hid hN
 rw [hN] at C1 HC2
 clear hD hN
 cases D with
 | none=>
  have hS:setE t q v m=45:=by unfold setE;rw [if_neg (by rw [HE.out];simp),HD.out]
  rw [hS]
  clear hS
  go_enter Tryz.func121,Tryz.ntmps121
  go_upto_region 1 with fail
  generalize (w.alloc (.cells X 24)).alloc (.cells M 27)=w1 at *
  go_wp2_with (first
   | (go_at_call 119;refine C1.mono ?_;rintro e w2 ⟨an,n,cn,rfl,hn,hg1⟩;obtain ⟨rfl,hn2,_⟩:=hn rfl;have HG1:=hid (HL.out.1.trans hg1);have CD:=HC2.out w2 an cn HG1.out hn2;clear hn2 hg1 hn)
   | (go_at_call 117;refine CD.mono ?_;rintro e w3 ⟨⟨u,rfl,hu⟩,e3⟩;subst e3;obtain rfl:=(show u=.pointer none from hu);clear hu CD))
  go_ret2
  exact ⟨_,rfl,HG1.out,fun _=>rfl,fun h=>absurd h (by decide)⟩
 | some x=>
  obtain ⟨b,hbk⟩:∃ b,decide (0<x.2.2.len)=b:=⟨_,rfl⟩
  obtain ⟨E2,hE2⟩:∃ E2,ownE v m b=E2:=⟨_,rfl⟩
  have hS:setE t q v m=E2:=by unfold setE;rw [if_neg (by rw [HE.out];simp),HD.out];show ownE v m (decide (0<x.2.2.len))=E2;rw [hbk,hE2]
  have hK:kidsAt t (cutN q)=x.2.2:=by unfold kidsAt;rw [HD.out]
  rw [hS,hK]
  have HB:=hid (⟨hbk,hE2⟩:_∧_)
  clear hS hK hbk hE2
  go_enter Tryz.func121,Tryz.ntmps121
  go_upto_region 1 with fail
  obtain ⟨B,hB⟩:∃ B,w.heap.size=B:=⟨_,rfl⟩
  rw [hB] at HL
  generalize (w.alloc (.cells X 24)).alloc (.cells M 27)=w1 at *
  go_upto_region 7 with (first
   | (go_at_call 119;refine C1.mono ?_;rintro e w2 ⟨an,n,cn,rfl,hn,hg1⟩;obtain ⟨rfl,hn2,hn3⟩:=hn rfl;have HG1:=hid (⟨HL.out.1.trans hg1,hg1.lies HL.out.2.1,hg1.lies HL.out.2.2,hn2,hn3⟩:G w w2∧Lies w2 B 0 X∧Lies w2 (B+1) 0 M∧_∧_);have CD:=HC2.out w2 an cn HG1.out.1 hn2;clear hn2 hg1 hn hn3)
   | (go_at_call 117;refine CD.mono ?_;rintro e w3 ⟨⟨u,rfl,hu⟩,e3⟩;rw [e3];clear e3 w3;obtain ⟨px,rfl,hx⟩:=hu;have HPX:=hid hx;clear hx CD))
  try simp only [hB,Act.put,List.setIfInBounds_toArray,List.set_cons_zero,List.set_cons_succ]
  clear C1 HC2 hB
  obtain ⟨k,hk1,hk2,hk3,_⟩:=HPX.out
  obtain ⟨pk,hl,hat⟩:=hk1
  have hpk:(pk=.pointer none∧b=false)∨∃ g,pk=.pointer (some ⟨g,0,none⟩)∧b=true:=by
   rw [← HB.out.1,← hk2]
   rcases at_nil hat with ⟨rfl,e⟩ | ⟨g,rfl,e⟩
   ·exact .inl ⟨rfl,by rw [e];rfl⟩
   ·exact .inr ⟨g,rfl,by
     have:k.flat.len≠0:=fun z=>e (len_zero z)
     simp;omega⟩
  have hpn:∃ au:Option Addr,pk=.pointer au∧au.isSome=b:=by
   rcases hpk with ⟨rfl,rfl⟩ | ⟨g,rfl,rfl⟩
   ·exact ⟨_,rfl,rfl⟩
   ·exact ⟨_,rfl,rfl⟩
  obtain ⟨au,rfl,hau⟩:=hpn
  have HA:=hid (⟨k,hk2,hl,hat,K.all_plain hk3⟩:∃ k,k.flat=x.2.2∧Lies w2 px 0 (tc x.1 x.2.1 (.pointer au))∧At w2 k (.pointer au)∧k.plain w2)
  have c39:∀ W,G w2 W→W.cell? ⟨px,39,none⟩=some (.pointer au):=fun W hW=>hW.cell (by simpa using jG hl 39 _ (qK ..))
  have HC:=hid c39
  have HQ:=hid hau
  clear hpk hk2 hk3 hl hat c39 hau
  refine jV ?_
  have HW:Hid (G w w2.drew∧G w2 w2.drew∧Lies w2.drew B 0 X∧Lies w2.drew (B+1) 0 M):=⟨HG1.out.1.trans (G.drew w2),G.drew w2,(G.drew w2).lies HG1.out.2.1,(G.drew w2).lies HG1.out.2.2.1⟩
  generalize w2.drew=w4 at *
  refine takeG 0 28 (.agg X) rfl rfl (by kernel_rfl) (by kernel_rfl) (by kernel_rfl) (fun _ _ _ h=>h) (by kernel_rfl) (fun wz hz=>?_) ?_
  ·exact jE _ rfl B 0 rfl X HX.out.2.2.1 (hz.lies HW.out.2.2.1)
  try simp only [Act.put,sA,sB,sC]
  refine takeG 1 29 (.agg M) rfl rfl (by kernel_rfl) (by kernel_rfl) (by kernel_rfl) (fun _ _ _ h=>h) (by kernel_rfl) (fun wz hz=>?_) ?_
  ·exact jO _ rfl (B+1) 0 rfl M HX.out.2.2.2 (hz.lies HW.out.2.2.2)
  try simp only [Act.put,sA,sB,sC]
  refine takeG 2 30 (.pointer (some ⟨px,0,none⟩)) rfl rfl (by kernel_rfl) (by kernel_rfl) (by kernel_rfl) (fun _ _ _ h=>h) (by kernel_rfl) (fun wz hz=>?_) ?_
  ·go_simp
  try simp only [Act.put,sA,sB,sC]
  refine takeG 3 31 (.pointer (some ⟨px,0,none⟩)) rfl rfl (by kernel_rfl) (by kernel_rfl) (by kernel_rfl) (fun _ _ _ h=>h) (by kernel_rfl) (fun wz hz=>?_) ?_
  ·go_simp
  try simp only [Act.put,sA,sB,sC]
  refine takeG 4 32 (.pointer (some ⟨px,39,none⟩)) rfl rfl (by kernel_rfl) (by kernel_rfl) (by kernel_rfl) (fun _ _ _ h=>h) (by kernel_rfl) (fun wz hz=>?_) ?_
  ·go_simp
  try simp only [Act.put,sA,sB,sC]
  refine takeG 5 33 (.pointer au) rfl rfl (by kernel_rfl) (by kernel_rfl) (by kernel_rfl) (fun _ _ _ h=>h) (by kernel_rfl) (fun wz hz=>?_) ?_
  ·have y:=HC.out wz (HW.out.2.1.trans hz);go_simp
  try simp only [Act.put,sA,sB,sC]
  refine takeG 6 34 (.bool b) rfl rfl (by kernel_rfl) (by kernel_rfl) (by kernel_rfl) (fun _ _ _ h=>h) (by kernel_rfl) (fun wz hz=>?_) ?_
  ·rw [← HQ.out];exact exec_neqN _ _ rfl au rfl rfl wz
  try simp only [Act.put,sA,sB,sC]
  refine callG 7 35 (.int .i64 E2) 131 #[.agg X,.agg M,.bool b] rfl rfl (by kernel_rfl) (by kernel_rfl) (by kernel_rfl) (fun _ _ _ h=>h) (by kernel_rfl) (fun wz=>by go_simp) (fun wz hz=>by rw [← HB.out.2];exact ownFault_any v m b X M HX.out.1 HX.out.2.1 wz) ?_
  try simp only [Act.put,sA,sB,sC]
  refine takeG 8 13 (.int .i64 E2) rfl rfl (by kernel_rfl) (by kernel_rfl) (by kernel_rfl) (fun _ _ _ h=>h) (by kernel_rfl) (fun wz hz=>?_) ?_
  ·go_simp
  try simp only [Act.put,sA,sB,sC]
  refine doneG (by kernel_rfl) (fun w5 hz5=>?_)
  have HW5:Hid (G w w5∧G w2 w5∧Lies w5 B 0 X∧Lies w5 (B+1) 0 M):=⟨HW.out.1.trans hz5,HW.out.2.1.trans hz5,hz5.lies HW.out.2.2.1,hz5.lies HW.out.2.2.2⟩
  clear hz5 HW
  by_cases h2:E2=0
  case neg=>
   have h3:(E2 != 0)=true:=by simpa using h2
   have H2:=hid h2
   clear h2
   go_wp2_with fail
   go_ret2
   exact ⟨_,rfl,HW5.out.1,fun _=>rfl,fun h=>absurd h H2.out⟩
  subst h2
  go_upto_region 10 with fail
  try simp only [Act.put,sA,sB,sC]
  refine jV ?_
  have HW:Hid (G w w5.drew∧G w2 w5.drew∧Lies w5.drew B 0 X∧Lies w5.drew (B+1) 0 M):=⟨HW5.out.1.trans (G.drew w5),HW5.out.2.1.trans (G.drew w5),(G.drew w5).lies HW5.out.2.2.1,(G.drew w5).lies HW5.out.2.2.2⟩
  generalize w5.drew=w6 at *
  clear HW5
  refine takeG 0 39 (.pointer (some ⟨p,0,none⟩)) rfl rfl (by kernel_rfl) (by kernel_rfl) (by kernel_rfl) (fun _ _ _ h=>h) (by kernel_rfl) (fun wz hz=>?_) ?_
  ·go_simp
  try simp only [Act.put,sA,sB,sC]
  refine takeG 1 40 (.slice an n cn) rfl rfl (by kernel_rfl) (by kernel_rfl) (by kernel_rfl) (fun _ _ _ h=>h) (by kernel_rfl) (fun wz hz=>?_) ?_
  ·go_simp
  try simp only [Act.put,sA,sB,sC]
  refine takeG 2 41 (.agg X) rfl rfl (by kernel_rfl) (by kernel_rfl) (by kernel_rfl) (fun _ _ _ h=>h) (by kernel_rfl) (fun wz hz=>?_) ?_
  ·exact jE _ rfl B 0 rfl X HX.out.2.2.1 (hz.lies HW.out.2.2.1)
  try simp only [Act.put,sA,sB,sC]
  refine takeG 3 42 (.agg M) rfl rfl (by kernel_rfl) (by kernel_rfl) (by kernel_rfl) (fun _ _ _ h=>h) (by kernel_rfl) (fun wz hz=>?_) ?_
  ·exact jO _ rfl (B+1) 0 rfl M HX.out.2.2.2 (hz.lies HW.out.2.2.2)
  try simp only [Act.put,sA,sB,sC]
  refine takeG 4 43 (.pointer (some ⟨px,0,none⟩)) rfl rfl (by kernel_rfl) (by kernel_rfl) (by kernel_rfl) (fun _ _ _ h=>h) (by kernel_rfl) (fun wz hz=>?_) ?_
  ·go_simp
  try simp only [Act.put,sA,sB,sC]
  refine takeG 5 44 (.pointer (some ⟨px,0,none⟩)) rfl rfl (by kernel_rfl) (by kernel_rfl) (by kernel_rfl) (fun _ _ _ h=>h) (by kernel_rfl) (fun wz hz=>?_) ?_
  ·go_simp
  try simp only [Act.put,sA,sB,sC]
  refine takeG 6 45 (.pointer (some ⟨px,39,none⟩)) rfl rfl (by kernel_rfl) (by kernel_rfl) (by kernel_rfl) (fun _ _ _ h=>h) (by kernel_rfl) (fun wz hz=>?_) ?_
  ·go_simp
  try simp only [Act.put,sA,sB,sC]
  refine takeG 7 46 (.pointer au) rfl rfl (by kernel_rfl) (by kernel_rfl) (by kernel_rfl) (fun _ _ _ h=>h) (by kernel_rfl) (fun wz hz=>?_) ?_
  ·have y:=HC.out wz (HW.out.2.1.trans hz);go_simp
  try simp only [Act.put,sA,sB,sC]
  refine takeG 8 47 (.agg (tc v m (.pointer au))) rfl rfl (by kernel_rfl) (by kernel_rfl) (by kernel_rfl) (fun _ _ _ h=>h) (by kernel_rfl) (fun wz hz=>?_) ?_
  ·exact exec_build103 _ rfl v m (.pointer au) rfl (by rw [← HX.out.1,← HX.out.2.1];go_simp) wz
  try simp only [Act.put,sA,sB,sC]
  refine readyG [9] (by kernel_rfl) (by simp) fun wa hga=>?_
  refine AllG.value 9 48 (.pointer (some ⟨wa.heap.size,0,none⟩)) (wa.alloc (.cells (tc v m (.pointer au)) 98)) rfl rfl (by kernel_rfl) (exec_box103 _ rfl _ rfl wa) (G.alloc _ _) ?_ AllG.nil
  try simp only [Act.put,sA,sB,sC]
  obtain ⟨ps,hps⟩:∃ ps,wa.heap.size=ps:=⟨_,rfl⟩
  have HS:Hid (T1 (wa.alloc (.cells (tc v m (.pointer au)) 98)) ps (v,m,x.2.2)∧G w (wa.alloc (.cells (tc v m (.pointer au)) 98))∧G w2 (wa.alloc (.cells (tc v m (.pointer au)) 98))):=by
   obtain ⟨k,e1,_,e3,e4⟩:=HA.out
   have hg:G w2 (wa.alloc (.cells (tc v m (.pointer au)) 98)):=(HW.out.2.1.trans hga).trans (G.alloc _ _)
   refine ⟨?_,(HW.out.1.trans hga).trans (G.alloc _ _),hg⟩
   rw [← hps]
   exact AtTF.of ⟨_,jh wa _ _,e3.grow hg⟩ (K.plain_grow hg e4) ⟨_,World.alloc_heap_new wa _⟩ e1
  rw [hps]
  generalize wa.alloc (.cells (tc v m (.pointer au)) 98)=wb at *
  refine readyG [10] (by kernel_rfl) (by simp) fun wc hgc=>?_
  refine AllG.call 10 49 120 #[.pointer (some ⟨p,0,none⟩),.slice an n cn,.pointer (some ⟨ps,0,none⟩)] rfl rfl (by kernel_rfl) (by go_simp) ?_ AllG.nil
  have hx1:=dn_rises HT.out.2.1 HD.out
  have CT:=twith_any (cutN q) (fun _=>True) (Tr wc) wc (some ⟨p,0,none⟩) t (v,m,x.2.2) ps an cn (fun _ _=>trivial) (fun _=>⟨p,rfl,HT.out.1.grow (HS.out.2.1.trans hgc),HT.out.2.1,by have h1:=HT.out.2.2;have h2:=hx1.2;have h3:=HG1.out.2.2.2.2;have h4:=HN.out;show t.2.2.size+x.2.2.size+(cutN q).length≤400000;omega⟩) (wayE_ok HE.out).2 (HS.out.1.grow hgc) (by rw [HN.out];exact HG1.out.2.2.2.1.below (HS.out.2.2.trans hgc)) (by rw [HN.out];exact HG1.out.2.2.2.2) (fun y hy=>Nat.le_trans (names_ok (wayE_ok HE.out).1 y hy) (by decide))
  rw [HN.out] at CT
  refine CT.mono ?_
  rintro e wd ⟨p',rfl,hp',hgd⟩
  refine ⟨_,rfl,hgd,?_⟩
  try simp only [Act.put,sA,sB,sC]
  have HF:=hid (⟨hp'.joinT hgd,(HS.out.2.1.trans hgc).trans hgd⟩:T1 wd p' _∧G w wd)
  clear hp' hgd hgc hga hps CT hx1
  refine takeG 11 8 (.pointer (some ⟨p',0,none⟩)) rfl rfl (by kernel_rfl) (by kernel_rfl) (by kernel_rfl) (fun _ _ _ h=>h) (by kernel_rfl) (fun wz hz=>?_) ?_
  ·go_simp
  try simp only [Act.put,sA,sB,sC]
  refine takeG 12 9 (.int .i64 0) rfl rfl (by kernel_rfl) (by kernel_rfl) (by kernel_rfl) (fun _ _ _ h=>h) (by kernel_rfl) (fun wz hz=>?_) ?_
  ·go_simp
  try simp only [Act.put,sA,sB,sC]
  refine doneG (by kernel_rfl) (fun w9 hz9=>?_)
  have HF9:Hid (T1 w9 p' _∧G w w9):=⟨HF.out.1.grow hz9,HF.out.2.trans hz9⟩
  clear hz9 HF
  go_wp2_with fail
  go_ret2
  first
   | exact ⟨_,rfl,HF9.out.2,p',rfl,HF9.out.1⟩
   | exact ⟨_,rfl,HF9.out.2,fun h=>absurd rfl h,fun _=>⟨p',rfl,HF9.out.1⟩⟩
end Go.Proofs.YthfcanpkhjgomaaGreat
