import Derived.Test.YthfcanpkhjgomaaGreatKnown
set_option maxRecDepth 100000
set_option maxHeartbeats 2000000
namespace Go.Proofs.YthfcanpkhjgomaaGreat
open Go.RowKit
theorem F.put_le {nm:ByteArray} {v:Vd} {m:Md} {fk:F} {y:T3} {f:F} (hr:f.rises) (hy:f.get nm=some y) (hk:fk.size≤y.2.2.size):(f.put nm v m fk).size≤f.size:=by
 have:=F.put_get (nm:=nm) (v:=v) (m:=m) (fk:=fk) hr
 rw [hy] at this
 simp only at this
 omega
theorem dropT_size:∀ {t:T3} {L:List ByteArray},t.2.2.rises→(dropT t L).2.2.size≤t.2.2.size
 | t,[],_=>Nat.le_refl _
 | t,[nm],_=>F.del_size _
 | t,nm::b::L,h=>by
  rw [dropT]
  cases hg:t.2.2.get nm with
  | none=>exact Nat.le_refl _
  | some y=>exact F.put_le h hg (dropT_size (F.rises_get h hg).1)
def TDropOk (L:List ByteArray):Prop:=∀ (P R:Nat→Prop) (w:World) (au:Option Addr) (t:T3) (an:Option Addr) (cn:Nat),(∀ b,w.heap.size≤b→P b)→(L≠[]→∃ p,au=some ⟨p,0,none⟩∧AtTF P R w p t.1 t.2.1 t.2.2∧t.2.2.rises∧t.2.2.size+L.length≤400000)→(∃ z,dn t L=some z)→HasT w (.slice an L.length cn) L→L.length≤64→(∀ x∈L,x.size≤281474976710656)→
  Calls Tryz.prog 120 #[.pointer au,.slice an L.length cn,.pointer none] w fun e w'=>∃ a',e=.returned (.pointer a')∧(L=[]→a'=none)∧(L≠[]→∃ p',a'=some ⟨p',0,none⟩∧AtTF P (fun b=>R b∨Tr w' b) w' p' (dropT t L).1 (dropT t L).2.1 (dropT t L).2.2)∧G w w'
theorem tdrop_any:∀ L:List ByteArray,TDropOk L
 | []=>by
  intro P R w au t an cn _ _ _ _ _ _
  go_enter Tryz.func120,Tryz.ntmps120
  go_wp2
  go_ret
  exact ⟨none,rfl,fun _=>rfl,fun h=>absurd rfl h,G.refl _⟩
 | nm::L=>by
  have IH:=hid (tdrop_any L)
  intro P R w au t an cn hP hu hw hn h64 hsz
  obtain ⟨p,rfl,ht,hr,hb⟩:=hu (by simp)
  obtain ⟨ak,hli,hak⟩:=ht.kids
  obtain ⟨u,hu2,hC⟩:=find_fix hak hr nm
  obtain ⟨a2,rfl⟩:=hu2.form
  obtain ⟨n,hnL⟩:∃ n,L.length=n:=⟨_,rfl⟩
  obtain ⟨ad,cp,hv,hx0⟩:=hn.at (k:=0) (s:=nm) rfl
  obtain rfl:an=some ad:=by injection hv
  have hlen:(nm::L).length=n+1:=by rw [List.length_cons,hnL]
  rw [hlen] at hn hv h64 hb ⊢
  have hcn:n+1≤cn:=by
   obtain ⟨ao,cp',hv2,hc2⟩:=hn.form
   injection hv2 with _ _ e3
   rw [hlen] at hc2
   omega
  obtain ⟨ar,har⟩:∃ ar,(if cn=1 then some ad else some { block:=ad.block,off:=ad.off+1 })=ar:=⟨_,rfl⟩
  have hrest:=hasT_rest hn hnL har
  have hI1:(1:Int)≤(n:Int)+1:=by omega
  obtain ⟨x,hgx,hwx⟩:∃ x:T3,t.2.2.get nm=some x∧∃ z,dn x L=some z:=by
   obtain ⟨z,hz⟩:=hw
   rw [dn] at hz
   cases hg:t.2.2.get nm with
   | none=>rw [hg] at hz;cases hz
   | some x=>rw [hg] at hz;exact ⟨x,rfl,z,hz⟩
  have HX:Hid (PtrTo P R w (.pointer a2) (some x)∧x.2.2.rises∧(∃ z,dn x L=some z)∧x.2.2.size+1≤t.2.2.size):=by
   rw [hgx] at hu2
   have h1:=F.rises_get hr hgx
   exact ⟨hu2,h1.1,hwx,h1.2⟩
  have HGX:=hid hgx
  have HT:=hid (⟨ht,hr,hak,hnL,hsz,hli⟩:AtTF P R w p t.1 t.2.1 t.2.2∧t.2.2.rises∧AtF P R w (.pointer ak) t.2.2∧L.length=n∧(∀ x∈nm::L,x.size≤281474976710656)∧Lies w p 0 (tc t.1 t.2.1 (.pointer ak)))
  have HR:=hid hrest
  have HPP:=hid hP
  have HC:=hid hC
  have c39:=jG hli 39 _ (qK ..)
  have hx0':w.cell? ad=some (.string nm):=by
   have:=hx0
   rwa [show ad.add 0=ad from rfl] at this
  obtain ⟨N1,N2⟩:=new_varT w (tc t.1 t.2.1 (.pointer ak))
  have HV:=hid (⟨N1,N2⟩:_∧_)
  replace c39:=N1.cell c39
  replace hx0':=N1.cell hx0'
  clear hu ht hr hw hn hsz hli hak hu2 hC hv hx0 hlen hrest N1 N2 hnL hP hgx hwx
  go_enter Tryz.func120,Tryz.ntmps120
  go_upto_region 4 with (first
   | ((with_reducible refine jA (.agg (tc t.1 t.2.1 (.pointer ak))) ?_ ?_ ?_);exact exec_load103 _ rfl p rfl _ (tc_size ..) HT.out.2.2.2.2.2;kernel_rfl)
   | ((with_reducible refine jJ (.pointer (some ⟨w.heap.size,0,none⟩)) (w.alloc (.cells z103 98)) ?_ ?_ ?_);exact exec_alloc103 rfl _;kernel_rfl)
   | ((with_reducible refine jP ((w.alloc (.cells z103 98)).setRow w.heap.size (tc t.1 t.2.1 (.pointer ak))) ?_ ?_ ?_);exact exec_store103 _ _ rfl w.heap.size _ z103 rfl rfl _ (World.alloc_heap_new w _) (tc_size ..) (tc_size ..) (tc_one ..);kernel_rfl))
  try simp only [Act.put,sA,sB,sC]
  generalize hB:w.heap.size=B at *
  have HB:=hid hB
  generalize (w.alloc (.cells z103 98)).setRow B (tc t.1 t.2.1 (.pointer ak))=w1 at *
  refine jV ?_
  replace c39:=(G.drew w1).cell c39
  replace hx0':=(G.drew w1).cell hx0'
  have HD:Hid (G w w1.drew∧VarT w1.drew B (tc t.1 t.2.1 (.pointer ak))):=⟨HV.out.1.trans (G.drew w1),HV.out.2.grow (G.drew w1)⟩
  generalize w1.drew=w2 at *
  clear HV hB
  refine takeG 0 16 (.pointer (some ⟨p,0,none⟩)) rfl rfl (by kernel_rfl) (by kernel_rfl) (by kernel_rfl) (fun _ _ _ h=>h) (by kernel_rfl) (fun wz hz=>?_) ?_
  ·rfl
  try simp only [Act.put,sA,sB,sC]
  refine takeG 1 17 (.pointer (some ⟨p,0,none⟩)) rfl rfl (by kernel_rfl) (by kernel_rfl) (by kernel_rfl) (fun _ _ _ h=>h) (by kernel_rfl) (fun wz hz=>?_) ?_
  ·go_simp
  try simp only [Act.put,sA,sB,sC]
  refine takeG 2 18 (.pointer (some ⟨p,39,none⟩)) rfl rfl (by kernel_rfl) (by kernel_rfl) (by kernel_rfl) (fun _ _ _ h=>h) (by kernel_rfl) (fun wz hz=>?_) ?_
  ·go_simp
  try simp only [Act.put,sA,sB,sC]
  refine takeG 3 19 (.pointer ak) rfl rfl (by kernel_rfl) (by kernel_rfl) (by kernel_rfl) (fun _ _ _ h=>h) (by kernel_rfl) (fun wz hz=>?_) ?_
  ·have y0:=hz.cell c39;go_simp
  try simp only [Act.put,sA,sB,sC]
  refine takeG 4 20 (.slice (some ad) (n+1) cn) rfl rfl (by kernel_rfl) (by kernel_rfl) (by kernel_rfl) (fun _ _ _ h=>h) (by kernel_rfl) (fun wz hz=>?_) ?_
  ·rfl
  try simp only [Act.put,sA,sB,sC]
  refine takeG 5 21 (.pointer (some ad)) rfl rfl (by kernel_rfl) (by kernel_rfl) (by kernel_rfl) (fun _ _ _ h=>h) (by kernel_rfl) (fun wz hz=>?_) ?_
  ·go_simp
  try simp only [Act.put,sA,sB,sC]
  refine takeG 6 22 (.string nm) rfl rfl (by kernel_rfl) (by kernel_rfl) (by kernel_rfl) (fun _ _ _ h=>h) (by kernel_rfl) (fun wz hz=>?_) ?_
  ·have y0:=hz.cell hx0';go_simp
  try simp only [Act.put,sA,sB,sC]
  refine callG 7 23 (.pointer a2) 63 #[.pointer ak,.string nm] rfl rfl (by kernel_rfl) (by kernel_rfl) (by kernel_rfl) (fun _ _ _ h=>h) (by kernel_rfl) (fun wz=>by go_simp) (fun wz hz=>?_) ?_
  ·exact Calls.grown (HC.out wz (HD.out.1.trans hz))
  try simp only [Act.put,sA,sB,sC]
  refine takeG 8 24 (.slice (some ad) (n+1) cn) rfl rfl (by kernel_rfl) (by kernel_rfl) (by kernel_rfl) (fun _ _ _ h=>h) (by kernel_rfl) (fun wz hz=>?_) ?_
  ·rfl
  try simp only [Act.put,sA,sB,sC]
  refine takeG 9 25 (.slice ar n (cn-1)) rfl rfl (by kernel_rfl) (by kernel_rfl) (by kernel_rfl) (fun _ _ _ h=>h) (by kernel_rfl) (fun wz hz=>?_) ?_
  ·go_simp
  try simp only [Act.put,sA,sB,sC]
  refine takeG 10 26 (.pointer none) rfl rfl (by kernel_rfl) (by kernel_rfl) (by kernel_rfl) (fun _ _ _ h=>h) (by kernel_rfl) (fun wz hz=>?_) ?_
  ·rfl
  try simp only [Act.put,sA,sB,sC]
  refine readyG [11] (by kernel_rfl) (by simp) fun w5 hg5=>?_
  have hG5:=HD.out.1.trans hg5
  have hB5:B<w5.heap.size:=(HD.out.2.grow hg5).lt
  have I5:=IH.out (fun b=>P b∧b≠B) R w5 a2 x ar (cn-1) (fun b hb=>⟨HPP.out b (by omega),by omega⟩) (fun h=>?_) HX.out.2.2.1 (by rw [HT.out.2.2.2.1];exact HR.out.below hG5) (by rw [HT.out.2.2.2.1];omega) (fun y hy=>HT.out.2.2.2.2.1 y (List.mem_cons_of_mem _ hy))
  case refine_1=>
   obtain ⟨p2,e2,h2⟩:=HX.out.1
   injection e2 with e2
   refine ⟨p2,e2,(h2.lt.mono fun b hb=>⟨hb.1,by have:=hb.2;have:=HB.out;omega⟩).grow hG5,HX.out.2.1,?_⟩
   have:=HX.out.2.2.2
   rw [HT.out.2.2.2.1]
   omega
  rw [HT.out.2.2.2.1] at I5
  refine AllG.call 11 27 120 #[.pointer a2,.slice ar n (cn-1),.pointer none] rfl rfl (by kernel_rfl) (by go_simp) (I5.mono ?_) AllG.nil
  rintro e w6 ⟨a6,rfl,h6a,h6b,hg6⟩
  refine ⟨_,rfl,hg6,?_⟩
  try simp only [Act.put,sA,sB,sC]
  clear I5
  refine takeG 12 8 (.pointer a6) rfl rfl (by kernel_rfl) (by kernel_rfl) (by kernel_rfl) (fun _ _ _ h=>h) (by kernel_rfl) (fun wz hz=>?_) ?_
  ·rfl
  try simp only [Act.put,sA,sB,sC]
  refine doneG (by kernel_rfl) (fun w7 hg7=>?_)
  have hG27:=(hg5.trans hg6).trans hg7
  replace c39:=hG27.cell c39
  replace hx0':=hG27.cell hx0'
  have HE:Hid (G w w7∧VarT w7 B (tc t.1 t.2.1 (.pointer ak))):=⟨HD.out.1.trans hG27,HD.out.2.grow hG27⟩
  have H6:=hid (⟨h6a,fun h=>by obtain ⟨p',e,h⟩:=h6b h;exact ⟨p',e,h.growO hg7⟩⟩:(L=[]→a6=none)∧(L≠[]→∃ p',a6=some ⟨p',0,none⟩∧AtTF (fun b=>P b∧b≠B) (fun b=>R b∨Tr w7 b) w7 p' (dropT x L).1 (dropT x L).2.1 (dropT x L).2.2))
  clear h6a h6b hG27 hG5 hB5 hg5 hg6 hg7 HD
  cases L with
  | nil=>
   obtain rfl:=H6.out.1 rfl
   go_upto_region 7 with fail
   refine wp_region_S 9 ?_
   replace c39:=(G.drew w7).cell c39
   replace hx0':=(G.drew w7).cell hx0'
   have HF:Hid (G w w7.drew∧VarT w7.drew B (tc t.1 t.2.1 (.pointer ak))):=⟨HE.out.1.trans (G.drew w7),HE.out.2.grow (G.drew w7)⟩
   generalize w7.drew=w8 at *
   clear HE H6
   refine takeS 0 40 (.pointer (some ⟨p,0,none⟩)) rfl rfl (by kernel_rfl) (by kernel_rfl) (by kernel_rfl) (by kernel_rfl) (fun _ _ _ h=>h) (by kernel_rfl) (fun wz hz=>?_) ?_
   ·rfl
   try simp only [Act.put,sA,sB,sC]
   refine takeS 1 41 (.pointer (some ⟨p,0,none⟩)) rfl rfl (by kernel_rfl) (by kernel_rfl) (by kernel_rfl) (by kernel_rfl) (fun _ _ _ h=>h) (by kernel_rfl) (fun wz hz=>?_) ?_
   ·go_simp
   try simp only [Act.put,sA,sB,sC]
   refine takeS 2 42 (.pointer (some ⟨p,39,none⟩)) rfl rfl (by kernel_rfl) (by kernel_rfl) (by kernel_rfl) (by kernel_rfl) (fun _ _ _ h=>h) (by kernel_rfl) (fun wz hz=>?_) ?_
   ·go_simp
   try simp only [Act.put,sA,sB,sC]
   refine takeS 3 43 (.pointer ak) rfl rfl (by kernel_rfl) (by kernel_rfl) (by kernel_rfl) (by kernel_rfl) (fun _ _ _ h=>h) (by kernel_rfl) (fun wz hz=>?_) ?_
   ·have y0:=hz.cell c39;go_simp
   try simp only [Act.put,sA,sB,sC]
   refine takeS 4 44 (.slice (some ad) (n+1) cn) rfl rfl (by kernel_rfl) (by kernel_rfl) (by kernel_rfl) (by kernel_rfl) (fun _ _ _ h=>h) (by kernel_rfl) (fun wz hz=>?_) ?_
   ·rfl
   try simp only [Act.put,sA,sB,sC]
   refine takeS 5 45 (.pointer (some ad)) rfl rfl (by kernel_rfl) (by kernel_rfl) (by kernel_rfl) (by kernel_rfl) (fun _ _ _ h=>h) (by kernel_rfl) (fun wz hz=>?_) ?_
   ·go_simp
   try simp only [Act.put,sA,sB,sC]
   refine takeS 6 46 (.string nm) rfl rfl (by kernel_rfl) (by kernel_rfl) (by kernel_rfl) (by kernel_rfl) (fun _ _ _ h=>h) (by kernel_rfl) (fun wz hz=>?_) ?_
   ·have y0:=hz.cell hx0';go_simp
   try simp only [Act.put,sA,sB,sC]
   refine nextS 7 47 138 #[.pointer ak,.string nm] rfl rfl (by decide) (by kernel_rfl) (by kernel_rfl) (fun wz=>by go_simp) (fun w9 hg9=>?_)
   have hG9:=HF.out.1.trans hg9
   have hB9:B<w9.heap.size:=(HF.out.2.grow hg9).lt
   refine (without_any (P:=fun b=>P b∧b≠B) nm (t.2.2.size+1) t.2.2 (Nat.lt_succ_self _) w9 ak ((HT.out.2.2.1.lt.mono fun b hb=>⟨hb.1,by have:=hb.2;have:=HB.out;omega⟩).grow hG9) HT.out.2.1 (by omega) (fun b hb=>⟨HPP.out b (by omega),by omega⟩)).mono ?_
   rintro e w10 ⟨q,rfl,hq,hg10⟩
   refine ⟨_,rfl,hg10,?_⟩
   try simp only [Act.put,sA,sB,sC]
   refine takeS 8 48 (.pointer (some ⟨B,39,none⟩)) rfl rfl (by kernel_rfl) (by kernel_rfl) (by kernel_rfl) (by kernel_rfl) (fun _ _ _ h=>h) (by kernel_rfl) (fun wz hz=>?_) ?_
   ·go_simp
   try simp only [Act.put,sA,sB,sC]
   refine lastS rfl rfl (by kernel_rfl) (by kernel_rfl) (by kernel_rfl) (fun w11 hg11=>?_)
   have hV:=((HF.out.2.grow hg9).grow hg10).grow hg11
   have hc:=jG hV.lies 39 _ (qK ..)
   have hfz:w11.frozen? ⟨B,39,none⟩=false:=by
    have h':w11.heap[B]?=some (.cells (tc t.1 t.2.1 (.pointer ak)) 98 (0,0)):=hV
    simp [World.frozen?,h']
   refine ⟨w11.setCell ⟨B,39,none⟩ (.pointer q),by go_simp,?_⟩
   have hG11:=(hG9.trans hg10).trans hg11
   have HQ:=hid (⟨hq.grow hg11,hV,hG11⟩:AtF (fun b=>P b∧b≠B) R w11 (.pointer q) (t.2.2.del nm)∧VarT w11 B (tc t.1 t.2.1 (.pointer ak))∧G w w11)
   clear hq hV hc hfz hG11 hg9 hg10 hg11 hG9 hB9
   go_wp2_with fail
   go_ret
   obtain ⟨hq,hV,hG11⟩:=HQ.out
   obtain ⟨k,hk,hkf,hka⟩:=hq.keepP (w':=w11.setCell ⟨B,39,none⟩ (.pointer q)) fun b hb=>Below.heap_setCell _ _ _ b hb.2
   refine ⟨some ⟨B,0,none⟩,rfl,fun h=>(by cases h),fun _=>⟨B,rfl,⟨k,⟨_,(VarT.setKids hV (pk':=.pointer q)).lies,hk⟩,hkf,K.all_monoR (fun _ h=>Or.inl h) (K.all_mono (fun b hb=>hb.1) hka),HPP.out B (Nat.le_refl _),Or.inr ⟨_,VarT.setKids hV⟩⟩⟩,?_⟩
   have hBw:=HB.out
   exact Below.setCell (p:=⟨B,39,none⟩) hG11 (by show w.heap.size≤B;omega) _
  | cons b0 L0=>
   obtain ⟨p1,rfl,hp1⟩:=H6.out.2 (by simp)
   have HPT:Hid (dropT t (nm::b0::L0)=(t.1,t.2.1,t.2.2.put nm (dropT x (b0::L0)).1 (dropT x (b0::L0)).2.1 (dropT x (b0::L0)).2.2)):=by show _=_;rw [dropT,HGX.out]
   have HSZ:=hid (dropT_size (L:=b0::L0) HX.out.2.1)
   generalize dropT x (b0::L0)=y at *
   have HP1:=hid hp1
   clear hp1 H6
   go_upto_region 6 with fail
   refine wp_region_S 10 ?_
   replace c39:=(G.drew w7).cell c39
   replace hx0':=(G.drew w7).cell hx0'
   have HF:Hid (G w w7.drew∧VarT w7.drew B (tc t.1 t.2.1 (.pointer ak))∧AtTF (fun b=>P b∧b≠B) (fun b=>R b∨Tr w7.drew b) w7.drew p1 y.1 y.2.1 y.2.2):=⟨HE.out.1.trans (G.drew w7),HE.out.2.grow (G.drew w7),HP1.out.growO (G.drew w7)⟩
   generalize w7.drew=w8 at *
   clear HE HP1
   refine takeS 0 30 (.pointer (some ⟨p,0,none⟩)) rfl rfl (by kernel_rfl) (by kernel_rfl) (by kernel_rfl) (by kernel_rfl) (fun _ _ _ h=>h) (by kernel_rfl) (fun wz hz=>?_) ?_
   ·rfl
   try simp only [Act.put,sA,sB,sC]
   refine takeS 1 31 (.pointer (some ⟨p,0,none⟩)) rfl rfl (by kernel_rfl) (by kernel_rfl) (by kernel_rfl) (by kernel_rfl) (fun _ _ _ h=>h) (by kernel_rfl) (fun wz hz=>?_) ?_
   ·go_simp
   try simp only [Act.put,sA,sB,sC]
   refine takeS 2 32 (.pointer (some ⟨p,39,none⟩)) rfl rfl (by kernel_rfl) (by kernel_rfl) (by kernel_rfl) (by kernel_rfl) (fun _ _ _ h=>h) (by kernel_rfl) (fun wz hz=>?_) ?_
   ·go_simp
   try simp only [Act.put,sA,sB,sC]
   refine takeS 3 33 (.pointer ak) rfl rfl (by kernel_rfl) (by kernel_rfl) (by kernel_rfl) (by kernel_rfl) (fun _ _ _ h=>h) (by kernel_rfl) (fun wz hz=>?_) ?_
   ·have y0:=hz.cell c39;go_simp
   try simp only [Act.put,sA,sB,sC]
   refine takeS 4 34 (.slice (some ad) (n+1) cn) rfl rfl (by kernel_rfl) (by kernel_rfl) (by kernel_rfl) (by kernel_rfl) (fun _ _ _ h=>h) (by kernel_rfl) (fun wz hz=>?_) ?_
   ·rfl
   try simp only [Act.put,sA,sB,sC]
   refine takeS 5 35 (.pointer (some ad)) rfl rfl (by kernel_rfl) (by kernel_rfl) (by kernel_rfl) (by kernel_rfl) (fun _ _ _ h=>h) (by kernel_rfl) (fun wz hz=>?_) ?_
   ·go_simp
   try simp only [Act.put,sA,sB,sC]
   refine takeS 6 36 (.string nm) rfl rfl (by kernel_rfl) (by kernel_rfl) (by kernel_rfl) (by kernel_rfl) (fun _ _ _ h=>h) (by kernel_rfl) (fun wz hz=>?_) ?_
   ·have y0:=hz.cell hx0';go_simp
   try simp only [Act.put,sA,sB,sC]
   refine takeS 7 37 (.pointer (some ⟨p1,0,none⟩)) rfl rfl (by kernel_rfl) (by kernel_rfl) (by kernel_rfl) (by kernel_rfl) (fun _ _ _ h=>h) (by kernel_rfl) (fun wz hz=>?_) ?_
   ·rfl
   try simp only [Act.put,sA,sB,sC]
   refine nextS 8 38 137 #[.pointer ak,.string nm,.pointer (some ⟨p1,0,none⟩)] rfl rfl (by decide) (by kernel_rfl) (by kernel_rfl) (fun wz=>by go_simp) (fun w9 hg9=>?_)
   have hG9:=HF.out.1.trans hg9
   have hB9:B<w9.heap.size:=(HF.out.2.1.grow hg9).lt
   refine (with_any (P:=fun b=>P b∧b≠B) (R:=fun b=>R b∨Tr w8 b) nm y.1 y.2.1 y.2.2 (t.2.2.size+1) t.2.2 (Nat.lt_succ_self _) w9 ak p1 ((HT.out.2.2.1.lt.mono fun b hb=>⟨hb.1,by have:=hb.2;have:=HB.out;omega⟩).grow hG9 |>.monoR fun _=>Or.inl) (HF.out.2.2.grow hg9) HT.out.2.1 (by have:=HSZ.out;have:=HX.out.2.2.2;omega) (HT.out.2.2.2.2.1 nm (by simp)) (fun b hb=>⟨HPP.out b (by omega),by omega⟩)).mono ?_
   rintro e w10 ⟨q,rfl,hq,hg10⟩
   refine ⟨_,rfl,hg10,?_⟩
   try simp only [Act.put,sA,sB,sC]
   refine takeS 9 39 (.pointer (some ⟨B,39,none⟩)) rfl rfl (by kernel_rfl) (by kernel_rfl) (by kernel_rfl) (by kernel_rfl) (fun _ _ _ h=>h) (by kernel_rfl) (fun wz hz=>?_) ?_
   ·go_simp
   try simp only [Act.put,sA,sB,sC]
   refine lastS rfl rfl (by kernel_rfl) (by kernel_rfl) (by kernel_rfl) (fun w11 hg11=>?_)
   have hV:=((HF.out.2.1.grow hg9).grow hg10).grow hg11
   have hc:=jG hV.lies 39 _ (qK ..)
   have hfz:w11.frozen? ⟨B,39,none⟩=false:=by
    have h':w11.heap[B]?=some (.cells (tc t.1 t.2.1 (.pointer ak)) 98 (0,0)):=hV
    simp [World.frozen?,h']
   refine ⟨w11.setCell ⟨B,39,none⟩ (.pointer (some ⟨q,0,none⟩)),by go_simp,?_⟩
   have hG11:=(hG9.trans hg10).trans hg11
   have HQ:=hid (⟨hq.grow hg11,hV,hG11,(hg9.trans hg10).trans hg11⟩:AtF (fun b=>P b∧b≠B) (fun b=>R b∨Tr w8 b) w11 (.pointer (some ⟨q,0,none⟩)) (t.2.2.put nm y.1 y.2.1 y.2.2)∧VarT w11 B (tc t.1 t.2.1 (.pointer ak))∧G w w11∧G w8 w11)
   clear hq hV hc hfz hG11 hg9 hg10 hg11 hG9 hB9
   go_wp2_with fail
   go_ret
   obtain ⟨hq,hV,hG11,hG8⟩:=HQ.out
   obtain ⟨k,hk,hkf,hka⟩:=hq.keepP (w':=w11.setCell ⟨B,39,none⟩ (.pointer (some ⟨q,0,none⟩))) fun b hb=>Below.heap_setCell _ _ _ b hb.2
   rw [HPT.out]
   refine ⟨some ⟨B,0,none⟩,rfl,fun h=>(by cases h),fun _=>⟨B,rfl,⟨k,⟨_,(VarT.setKids hV (pk':=.pointer (some ⟨q,0,none⟩))).lies,hk⟩,hkf,K.all_monoR (fun _ h=>h.imp_right fun h=>Tr.setKids hV (h.grow hG8)) (K.all_mono (fun b hb=>hb.1) hka),HPP.out B (Nat.le_refl _),Or.inr ⟨_,VarT.setKids hV⟩⟩⟩,?_⟩
   have hBw:=HB.out
   exact Below.setCell (p:=⟨B,39,none⟩) hG11 (by show w.heap.size≤B;omega) _
def T1 (w:World) (p:Nat) (t:T3):Prop:=AtTF (fun _=>True) (Tr w) w p t.1 t.2.1 t.2.2
theorem T1.grow {w w':World} {p:Nat} {t:T3} (h:T1 w p t) (hg:G w w'):T1 w' p t:=AtTF.growT h hg
theorem drop_done (p:Nat) (t:T3) (s:ByteArray) (w:World) (ht:T1 w p t) (hr:t.2.2.rises) (hs:s.size≤1048576) (hw:wayE t s=0) (hc:cutN s≠[]) (z:T3) (hd:dn t (cutN s)=some z) (hz:t.2.2.size≤300000):
  Calls Tryz.prog 86 #[.pointer (some ⟨p,0,none⟩),.string s] w fun e w'=>∃ p',e=.returned (.tuple #[.pointer (some ⟨p',0,none⟩),.int .i64 0])∧T1 w' p' (dropT t (cutN s))∧G w w':=by
 have C1:=way_any p t s w ht hr hs
 rw [hw] at C1
 have HT:=hid (⟨ht,hr,hd,hc,hz,names_ok (wayE_ok hw).1⟩:_∧_∧_∧_∧_∧_)
 obtain ⟨n0,hn0⟩:∃ n,(cutN s).length=n+1:=⟨(cutN s).length-1,by have:=List.length_pos_iff.2 hc;omega⟩
 clear ht hr hw hc hz hd
 go_enter Tryz.func86,Tryz.ntmps86
 go_wp2_with fail
 refine C1.mono ?_
 rintro e w1 ⟨an,n,cn,rfl,hn,hg1⟩
 obtain ⟨rfl,hn2,hn3⟩:=hn (by simp)
 have CD:=down_any p t _ _ w1 (AtTF.grow HT.out.1 hg1) HT.out.2.1 hn2 (by omega)
 rw [HT.out.2.2.1] at CD
 have CT:=tdrop_any (cutN s) (fun _=>True) (Tr w1) w1 (some ⟨p,0,none⟩) t an cn (fun _ _=>trivial) (fun _=>⟨p,rfl,AtTF.growT HT.out.1 hg1,HT.out.2.1,by have:=HT.out.2.2.2.2.1;omega⟩) ⟨z,HT.out.2.2.1⟩ hn2 hn3 (fun x hx=>by have:=HT.out.2.2.2.2.2 x hx;omega)
 have HG1:=hid hg1
 rw [hn0] at CD CT ⊢
 clear hn hn2 hg1 C1
 go_wp2_with fail
 refine CD.mono ?_
 rintro e w2 ⟨⟨u,rfl,p2,rfl,_⟩,e2⟩
 subst e2
 go_wp2_with fail
 refine CT.mono ?_
 rintro e w3 ⟨a3,rfl,_,h3,hg3⟩
 obtain ⟨p3,e3,h33⟩:=h3 HT.out.2.2.2.1
 subst e3
 have H3:=hid (⟨h33.joinT hg3,HG1.out.trans hg3⟩:T1 w3 p3 (dropT t (cutN s))∧_)
 clear CD CT h3 h33 hg3
 go_wp2_with fail
 go_ret2
 exact ⟨p3,rfl,H3.out.1,H3.out.2⟩
theorem putE_ok {t s:T3} {q:ByteArray} (h:putE t s q=0):wayE t q=0∧(cutN q).length+s.2.2.depth≤64:=by
 unfold putE at h
 split at h
 ·rename_i h1;exact absurd h h1
 ·rename_i h1
  split at h
  ·cases h
  ·exact ⟨Classical.not_not.1 h1,by omega⟩
end Go.Proofs.YthfcanpkhjgomaaGreat
