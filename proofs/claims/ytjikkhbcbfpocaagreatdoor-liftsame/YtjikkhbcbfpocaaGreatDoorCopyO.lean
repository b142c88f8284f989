import Derived.Test.YtjikkhbcbfpocaaGreatDoorEach
set_option maxRecDepth 100000
set_option maxHeartbeats 2000000
namespace Go.Proofs.YtjikkhbcbfpocaaGreatDoor
open Go.RowKit Go.Shelf
attribute [local go_sem] Oper.semAt_some
theorem rN (w0:World) (S:Kid→Prop) (A:List Kid) (l N:Nat) (J Jx:List (ql w0 S)→World→Prop) (hJD:∀ pre W,J pre W→J pre W.drew)
  (hY:∀ m pre (x:ql w0 S) W,J pre W→pre.length<N→qG (pre++[x]) <+: A→YieldAt Fence.wide m Tryz.prog l #[.string x.1.nm,.pointer (some ⟨x.1.p,0,none⟩)] W fun e W'=>
   (e=.returned (.bool true)∧J (pre++[x]) W'∧Below w0.heap.size W W')∨(e=.returned (.bool false)∧Jx (pre++[x]) W')) (k:K):
  ∀ (n:Nat) (u:Value) (pre:List (ql w0 S)) (W:World),At w0 k u→(∀ x∈k.items,S x)→G w0 W→J pre W→pre.length+k.items.length≤N→qG pre++k.items <+: A→
   CallsIn Fence.wide n Tryz.prog 72 #[u,.func (.yield l) #[] #[]] W fun e W'=>
    (e=.returned (.bool true)∧∃ ys,qG ys=k.items∧J (pre++ys) W'∧G w0 W')∨(e=.returned (.bool false)∧∃ q,qG q <+: k.items∧Jx (pre++q) W'):=by
 induction k with
 | nil=>
  intro n u pre W ht _ hG hJ _ _
  obtain rfl:u=.pointer none:=ht
  have HG:Hid (G w0 W.drew):=hG.trans (G.drew W)
  have HJ:Hid (J pre W.drew):=hJD pre W hJ
  refine callsIn_of_wp Tryz.func72 rfl trivial ?_ rfl
  simp only [Tryz.ntmps72,List.size_toArray,List.length_cons,List.length_nil,Nat.reduceAdd,Nat.reduceSub,Array.replicate_succ,Array.replicate_zero,List.push_toArray,List.append_toArray,List.nil_append,List.cons_append]
  gi_wp2
  refine bi ?_
  refine jc 0 5 (.pointer none) rfl rfl (by kernel_rfl) (by kernel_rfl) (by kernel_rfl) (fun _ _ _ h=>h) (by kernel_rfl) (fun _=>rfl) (fun wz=>?_) ?_
  ·rfl
  try simp only [Act.put,sA,sB,sC]
  refine jc 1 6 (.bool true) rfl rfl (by kernel_rfl) (by kernel_rfl) (by kernel_rfl) (fun _ _ _ h=>h) (by kernel_rfl) (fun _=>rfl) (fun wz=>?_) ?_
  ·go_simp
  try simp only [Act.put,sA,sB,sC]
  refine jc 2 7 (.bool true) rfl rfl (by kernel_rfl) (by kernel_rfl) (by kernel_rfl) (fun _ _ _ h=>h) (by kernel_rfl) (fun _=>rfl) (fun wz=>?_) ?_
  ·rfl
  try simp only [Act.put,sA,sB,sC]
  refine qA 3 8 rfl rfl (by kernel_rfl) (by kernel_rfl) (by kernel_rfl) (fun _ _ _ h=>h) (by kernel_rfl) (fun _=>rfl) ?_
  try simp only [Act.put,sA,sB,sC]
  refine qA 4 9 rfl rfl (by kernel_rfl) (by kernel_rfl) (by kernel_rfl) (fun _ _ _ h=>h) (by kernel_rfl) (fun _=>rfl) ?_
  try simp only [Act.put,sA,sB,sC]
  refine qA 5 10 rfl rfl (by kernel_rfl) (by kernel_rfl) (by kernel_rfl) (fun _ _ _ h=>h) (by kernel_rfl) (fun _=>rfl) ?_
  try simp only [Act.put,sA,sB,sC]
  refine qA 6 11 rfl rfl (by kernel_rfl) (by kernel_rfl) (by kernel_rfl) (fun _ _ _ h=>h) (by kernel_rfl) (fun _=>rfl) ?_
  try simp only [Act.put,sA,sB,sC]
  refine qA 7 12 rfl rfl (by kernel_rfl) (by kernel_rfl) (by kernel_rfl) (fun _ _ _ h=>h) (by kernel_rfl) (fun _=>rfl) ?_
  try simp only [Act.put,sA,sB,sC]
  refine wpAnyIn_ready (rs:=[8]) (by kernel_rfl) (by simp) ?_
  refine yC 8 13 rfl rfl (by kernel_rfl) ?_ AllReadyIn.nil
  try simp only [Act.put,sA,sB,sC]
  refine qA 9 14 rfl rfl (by kernel_rfl) (by kernel_rfl) (by kernel_rfl) (fun _ _ _ h=>h) (by kernel_rfl) (fun _=>rfl) ?_
  try simp only [Act.put,sA,sB,sC]
  refine qA 10 15 rfl rfl (by kernel_rfl) (by kernel_rfl) (by kernel_rfl) (fun _ _ _ h=>h) (by kernel_rfl) (fun _=>rfl) ?_
  try simp only [Act.put,sA,sB,sC]
  refine qA 11 16 rfl rfl (by kernel_rfl) (by kernel_rfl) (by kernel_rfl) (fun _ _ _ h=>h) (by kernel_rfl) (fun _=>rfl) ?_
  try simp only [Act.put,sA,sB,sC]
  refine qA 12 17 rfl rfl (by kernel_rfl) (by kernel_rfl) (by kernel_rfl) (fun _ _ _ h=>h) (by kernel_rfl) (fun _=>rfl) ?_
  try simp only [Act.put,sA,sB,sC]
  refine qA 13 18 rfl rfl (by kernel_rfl) (by kernel_rfl) (by kernel_rfl) (fun _ _ _ h=>h) (by kernel_rfl) (fun _=>rfl) ?_
  try simp only [Act.put,sA,sB,sC]
  refine qA 14 19 rfl rfl (by kernel_rfl) (by kernel_rfl) (by kernel_rfl) (fun _ _ _ h=>h) (by kernel_rfl) (fun _=>rfl) ?_
  try simp only [Act.put,sA,sB,sC]
  refine qA 15 20 rfl rfl (by kernel_rfl) (by kernel_rfl) (by kernel_rfl) (fun _ _ _ h=>h) (by kernel_rfl) (fun _=>rfl) ?_
  try simp only [Act.put,sA,sB,sC]
  refine qA 16 21 rfl rfl (by kernel_rfl) (by kernel_rfl) (by kernel_rfl) (fun _ _ _ h=>h) (by kernel_rfl) (fun _=>rfl) ?_
  try simp only [Act.put,sA,sB,sC]
  refine qA 17 22 rfl rfl (by kernel_rfl) (by kernel_rfl) (by kernel_rfl) (fun _ _ _ h=>h) (by kernel_rfl) (fun _=>rfl) ?_
  try simp only [Act.put,sA,sB,sC]
  refine qA 18 23 rfl rfl (by kernel_rfl) (by kernel_rfl) (by kernel_rfl) (fun _ _ _ h=>h) (by kernel_rfl) (fun _=>rfl) ?_
  try simp only [Act.put,sA,sB,sC]
  refine qA 19 24 rfl rfl (by kernel_rfl) (by kernel_rfl) (by kernel_rfl) (fun _ _ _ h=>h) (by kernel_rfl) (fun _=>rfl) ?_
  try simp only [Act.put,sA,sB,sC]
  refine qA 20 25 rfl rfl (by kernel_rfl) (by kernel_rfl) (by kernel_rfl) (fun _ _ _ h=>h) (by kernel_rfl) (fun _=>rfl) ?_
  try simp only [Act.put,sA,sB,sC]
  refine wpAnyIn_ready (rs:=[21]) (by kernel_rfl) (by simp) ?_
  refine yC 21 26 rfl rfl (by kernel_rfl) ?_ AllReadyIn.nil
  try simp only [Act.put,sA,sB,sC]
  refine qA 22 27 rfl rfl (by kernel_rfl) (by kernel_rfl) (by kernel_rfl) (fun _ _ _ h=>h) (by kernel_rfl) (fun _=>rfl) ?_
  try simp only [Act.put,sA,sB,sC]
  refine qA 23 28 rfl rfl (by kernel_rfl) (by kernel_rfl) (by kernel_rfl) (fun _ _ _ h=>h) (by kernel_rfl) (fun _=>rfl) ?_
  try simp only [Act.put,sA,sB,sC]
  refine qA 24 29 rfl rfl (by kernel_rfl) (by kernel_rfl) (by kernel_rfl) (fun _ _ _ h=>h) (by kernel_rfl) (fun _=>rfl) ?_
  try simp only [Act.put,sA,sB,sC]
  refine qA 25 30 rfl rfl (by kernel_rfl) (by kernel_rfl) (by kernel_rfl) (fun _ _ _ h=>h) (by kernel_rfl) (fun _=>rfl) ?_
  try simp only [Act.put,sA,sB,sC]
  refine qA 26 31 rfl rfl (by kernel_rfl) (by kernel_rfl) (by kernel_rfl) (fun _ _ _ h=>h) (by kernel_rfl) (fun _=>rfl) ?_
  try simp only [Act.put,sA,sB,sC]
  refine qA 27 32 rfl rfl (by kernel_rfl) (by kernel_rfl) (by kernel_rfl) (fun _ _ _ h=>h) (by kernel_rfl) (fun _=>rfl) ?_
  try simp only [Act.put,sA,sB,sC]
  refine qA 28 33 rfl rfl (by kernel_rfl) (by kernel_rfl) (by kernel_rfl) (fun _ _ _ h=>h) (by kernel_rfl) (fun _=>rfl) ?_
  try simp only [Act.put,sA,sB,sC]
  refine wpAnyIn_ready (rs:=[29]) (by kernel_rfl) (by simp) ?_
  refine yC 29 34 rfl rfl (by kernel_rfl) ?_ AllReadyIn.nil
  try simp only [Act.put,sA,sB,sC]
  refine qA 30 35 rfl rfl (by kernel_rfl) (by kernel_rfl) (by kernel_rfl) (fun _ _ _ h=>h) (by kernel_rfl) (fun _=>rfl) ?_
  try simp only [Act.put,sA,sB,sC]
  refine jc 31 36 (.bool true) rfl rfl (by kernel_rfl) (by kernel_rfl) (by kernel_rfl) (fun _ _ _ h=>h) (by kernel_rfl) (fun _=>rfl) (fun wz=>?_) ?_
  ·go_simp
  try simp only [Act.put,sA,sB,sC]
  refine jc 32 4 (.bool true) rfl rfl (by kernel_rfl) (by kernel_rfl) (by kernel_rfl) (fun _ _ _ h=>h) (by kernel_rfl) (fun _=>rfl) (fun wz=>?_) ?_
  ·rfl
  try simp only [Act.put,sA,sB,sC]
  refine wpAnyIn_done (by kernel_rfl) ?_ _
  gi_wp2
  go_ret
  exact .inl ⟨rfl,[],rfl,by simpa using HJ.o,HG.o⟩
 | node q p nm v m kk ah be ihk iha ihb=>
  intro n u pre W ht hS hG hJ hN hA
  obtain ⟨rfl,pk,pa,pb,⟨h2,h3⟩,hk,ha,hb⟩:=ht
  have c0:=jB h2 0 (.string nm) rfl
  have c1:=jB h2 1 (.pointer (some ⟨p,0,none⟩)) rfl
  have c2:=jB h2 2 pa rfl
  have c3:=jB h2 3 pb rfl
  have hN':pre.length+(ah.items.length+(be.items.length+1))≤N:=by simpa [K.items] using hN
  have HX:Hid (AtT w0 p v m kk∧S ⟨nm,p,v,m,kk⟩):=⟨⟨pk,h3,hk⟩,hS _ (by simp [K.items])⟩
  obtain ⟨aa,rfl⟩:=ha.form
  obtain ⟨ab,rfl⟩:=hb.form
  generalize hpa:(Value.pointer aa)=pa at *
  generalize hpb:(Value.pointer ab)=pb at *
  have HG0:Hid (G w0 W.drew):=hG.trans (G.drew W)
  have HJ0:Hid (J pre W.drew):=hJD pre W hJ
  have IA:=hid (fun (n:Nat) (W:World) (hG:G w0 W) (hJ:J pre W)=>iha n pa pre W ha (fun x hx=>hS x (by simp [K.items,hx])) hG hJ (by omega) (List.IsPrefix.trans ⟨⟨nm,p,v,m,kk⟩::be.items,by simp [K.items]⟩ hA))
  have IB:=hid (fun (n:Nat) (W:World) (pre':List (ql w0 S)) (hG:G w0 W) (hJ:J pre' W) (hN:pre'.length+be.items.length≤N) (hA:qG pre'++be.items <+: A)=>ihb n pb pre' W hb (fun x hx=>hS x (by simp [K.items,hx])) hG hJ hN hA)
  have HY:=hid (fun (W:World) (ys:List (ql w0 S)) (hJ:J (pre++ys) W) (hys:qG ys=ah.items)=>hY (n-1) (pre++ys) ⟨⟨nm,p,v,m,kk⟩,HX.o⟩ W hJ (by have:=congrArg List.length hys;simp at this;simp;omega) (List.IsPrefix.trans ⟨be.items,by simp only [qG,List.map_append,List.map_cons,List.map_nil,List.append_assoc] at hys ⊢;rw [hys];simp [K.items]⟩ hA))
  have HA:=hid (fun (ys:List (ql w0 S)) (hys:qG ys=ah.items)=>(show qG (pre++ys++[(⟨⟨nm,p,v,m,kk⟩,HX.o⟩:ql w0 S)])++be.items <+: A from List.IsPrefix.trans ⟨[],by simp only [qG,List.map_append,List.map_cons,List.map_nil,List.append_assoc] at hys ⊢;rw [hys];simp [K.items]⟩ hA))
  clear ihk iha ihb hk ha hb h2 h3 hN hS hA
  rw [← hpa] at c2
  rw [← hpb] at c3
  rw [hpa] at c2
  rw [hpb] at c3
  refine callsIn_of_wp Tryz.func72 rfl trivial ?_ rfl
  simp only [Tryz.ntmps72,List.size_toArray,List.length_cons,List.length_nil,Nat.reduceAdd,Nat.reduceSub,Array.replicate_succ,Array.replicate_zero,List.push_toArray,List.append_toArray,List.nil_append,List.cons_append]
  gi_wp2
  refine bi ?_
  have HG:=HG0
  have HJ:=HJ0
  generalize W.drew=W2 at *
  subst hpa hpb
  refine jc 0 5 (.pointer (some ⟨q,0,none⟩)) rfl rfl (by kernel_rfl) (by kernel_rfl) (by kernel_rfl) (fun _ _ _ h=>h) (by kernel_rfl) (fun _=>rfl) (fun wz=>?_) ?_
  ·rfl
  try simp only [Act.put,sA,sB,sC]
  refine jc 1 6 (.bool false) rfl rfl (by kernel_rfl) (by kernel_rfl) (by kernel_rfl) (fun _ _ _ h=>h) (by kernel_rfl) (fun _=>rfl) (fun wz=>?_) ?_
  ·go_simp
  try simp only [Act.put,sA,sB,sC]
  refine jc 2 7 (.bool false) rfl rfl (by kernel_rfl) (by kernel_rfl) (by kernel_rfl) (fun _ _ _ h=>h) (by kernel_rfl) (fun _=>rfl) (fun wz=>?_) ?_
  ·rfl
  try simp only [Act.put,sA,sB,sC]
  refine jc 3 8 (.pointer (some ⟨q,0,none⟩)) rfl rfl (by kernel_rfl) (by kernel_rfl) (by kernel_rfl) (fun _ _ _ h=>h) (by kernel_rfl) (fun _=>rfl) (fun wz=>?_) ?_
  ·rfl
  try simp only [Act.put,sA,sB,sC]
  refine jc 4 9 (.pointer (some ⟨q,0,none⟩)) rfl rfl (by kernel_rfl) (by kernel_rfl) (by kernel_rfl) (fun _ _ _ h=>h) (by kernel_rfl) (fun _=>rfl) (fun wz=>?_) ?_
  ·go_simp
  try simp only [Act.put,sA,sB,sC]
  refine jc 5 10 (.pointer (some ⟨q,2,none⟩)) rfl rfl (by kernel_rfl) (by kernel_rfl) (by kernel_rfl) (fun _ _ _ h=>h) (by kernel_rfl) (fun _=>rfl) (fun wz=>?_) ?_
  ·go_simp
  try simp only [Act.put,sA,sB,sC]
  refine jc 7 12 (.func (.yield l) #[] #[]) rfl rfl (by kernel_rfl) (by kernel_rfl) (by kernel_rfl) (fun _ _ _ h=>h) (by kernel_rfl) (fun _=>rfl) (fun wz=>?_) ?_
  ·rfl
  try simp only [Act.put,sA,sB,sC]
  refine wpAnyIn_ready (rs:=[6]) (by kernel_rfl) (by simp) ?_
  refine qO 6 11 (.pointer aa) W2 rfl rfl (by kernel_rfl) (by have y:=HG.o.cell c2;go_simp) ?_ AllReadyIn.nil
  try simp only [Act.put,sA,sB,sC]
  refine wpAnyIn_ready (rs:=[8]) (by kernel_rfl) (by simp) ?_
  refine uG 8 13 72 #[.pointer aa,.func (.yield l) #[] #[]] rfl rfl (by kernel_rfl) (by go_simp) ((IA.o (n-1) W2 HG.o HJ.o).mono ?_) AllReadyIn.nil
  rintro e W3 (⟨rfl,ys,hys,hJ3,hG3⟩ | ⟨rfl,qq,hqq,hx3⟩)
  ·have HG3:Hid (G w0 W3):=hG3
   refine ⟨_,rfl,?_⟩
   try simp only [Act.put,sA,sB,sC]
   refine jc 9 14 (.bool true) rfl rfl (by kernel_rfl) (by kernel_rfl) (by kernel_rfl) (fun _ _ _ h=>h) (by kernel_rfl) (fun _=>rfl) (fun wz=>?_) ?_
   ·rfl
   try simp only [Act.put,sA,sB,sC]
   refine jc 10 15 (.func (.yield l) #[] #[]) rfl rfl (by kernel_rfl) (by kernel_rfl) (by kernel_rfl) (fun _ _ _ h=>h) (by kernel_rfl) (fun _=>rfl) (fun wz=>?_) ?_
   ·rfl
   try simp only [Act.put,sA,sB,sC]
   refine jc 11 16 (.pointer (some ⟨q,0,none⟩)) rfl rfl (by kernel_rfl) (by kernel_rfl) (by kernel_rfl) (fun _ _ _ h=>h) (by kernel_rfl) (fun _=>rfl) (fun wz=>?_) ?_
   ·rfl
   try simp only [Act.put,sA,sB,sC]
   refine jc 12 17 (.pointer (some ⟨q,0,none⟩)) rfl rfl (by kernel_rfl) (by kernel_rfl) (by kernel_rfl) (fun _ _ _ h=>h) (by kernel_rfl) (fun _=>rfl) (fun wz=>?_) ?_
   ·go_simp
   try simp only [Act.put,sA,sB,sC]
   refine jc 13 18 (.pointer (some ⟨q,0,none⟩)) rfl rfl (by kernel_rfl) (by kernel_rfl) (by kernel_rfl) (fun _ _ _ h=>h) (by kernel_rfl) (fun _=>rfl) (fun wz=>?_) ?_
   ·go_simp
   try simp only [Act.put,sA,sB,sC]
   refine jc 14 19 (.pointer (some ⟨q,0,none⟩)) rfl rfl (by kernel_rfl) (by kernel_rfl) (by kernel_rfl) (fun _ _ _ h=>h) (by kernel_rfl) (fun _=>rfl) (fun wz=>?_) ?_
   ·go_simp
   try simp only [Act.put,sA,sB,sC]
   refine jc 16 21 (.pointer (some ⟨q,0,none⟩)) rfl rfl (by kernel_rfl) (by kernel_rfl) (by kernel_rfl) (fun _ _ _ h=>h) (by kernel_rfl) (fun _=>rfl) (fun wz=>?_) ?_
   ·rfl
   try simp only [Act.put,sA,sB,sC]
   refine jc 17 22 (.pointer (some ⟨q,0,none⟩)) rfl rfl (by kernel_rfl) (by kernel_rfl) (by kernel_rfl) (fun _ _ _ h=>h) (by kernel_rfl) (fun _=>rfl) (fun wz=>?_) ?_
   ·go_simp
   try simp only [Act.put,sA,sB,sC]
   refine jc 18 23 (.pointer (some ⟨q,0,none⟩)) rfl rfl (by kernel_rfl) (by kernel_rfl) (by kernel_rfl) (fun _ _ _ h=>h) (by kernel_rfl) (fun _=>rfl) (fun wz=>?_) ?_
   ·go_simp
   try simp only [Act.put,sA,sB,sC]
   refine jc 19 24 (.pointer (some ⟨q,1,none⟩)) rfl rfl (by kernel_rfl) (by kernel_rfl) (by kernel_rfl) (fun _ _ _ h=>h) (by kernel_rfl) (fun _=>rfl) (fun wz=>?_) ?_
   ·go_simp
   try simp only [Act.put,sA,sB,sC]
   refine wpAnyIn_ready (rs:=[15,20]) (by kernel_rfl) (by simp) ?_
   refine qO 15 20 (.string nm) W3 rfl rfl (by kernel_rfl) (by have y:=HG3.o.cell c0;go_simp) ?_ (qO 20 25 (.pointer (some ⟨p,0,none⟩)) W3 rfl rfl (by kernel_rfl) (by have y:=HG3.o.cell c1;go_simp) ?_ AllReadyIn.nil)
   all_goals try simp only [Act.put,sA,sB,sC]
   ·refine wpAnyIn_ready (rs:=[20]) (by kernel_rfl) (by simp) ?_
    refine qO 20 25 (.pointer (some ⟨p,0,none⟩)) W3 rfl rfl (by kernel_rfl) (by have y:=HG3.o.cell c1;go_simp) ?_ AllReadyIn.nil
    try simp only [Act.put,sA,sB,sC]
    obtain ⟨fn,tmps,assign,body,hy,hR⟩:=HY.o W3 ys hJ3 hys
    try dsimp only at hy
    refine wpAnyIn_ready (rs:=[21]) (by kernel_rfl) (by simp) ?_
    refine tT 21 26 l fn tmps assign body rfl rfl (by kernel_rfl) (by go_simp) (hR.mono ?_) AllReadyIn.nil
    clear hy hR
    rintro e W4 (⟨rfl,hJ4,hB4⟩ | ⟨rfl,hx4⟩)
    ·refine ⟨_,rfl,?_⟩
     try simp only [Act.put,sA,sB,sC]
     have hG4:G w0 W4:=HG3.o.trans' hB4
     refine jc 22 27 (.bool true) rfl rfl (by kernel_rfl) (by kernel_rfl) (by kernel_rfl) (fun _ _ _ h=>h) (by kernel_rfl) (fun _=>rfl) (fun wz=>?_) ?_
     ·go_simp
     try simp only [Act.put,sA,sB,sC]
     refine jc 23 28 (.bool true) rfl rfl (by kernel_rfl) (by kernel_rfl) (by kernel_rfl) (fun _ _ _ h=>h) (by kernel_rfl) (fun _=>rfl) (fun wz=>?_) ?_
     ·rfl
     try simp only [Act.put,sA,sB,sC]
     refine jc 24 29 (.pointer (some ⟨q,0,none⟩)) rfl rfl (by kernel_rfl) (by kernel_rfl) (by kernel_rfl) (fun _ _ _ h=>h) (by kernel_rfl) (fun _=>rfl) (fun wz=>?_) ?_
     ·rfl
     try simp only [Act.put,sA,sB,sC]
     refine jc 25 30 (.pointer (some ⟨q,0,none⟩)) rfl rfl (by kernel_rfl) (by kernel_rfl) (by kernel_rfl) (fun _ _ _ h=>h) (by kernel_rfl) (fun _=>rfl) (fun wz=>?_) ?_
     ·go_simp
     try simp only [Act.put,sA,sB,sC]
     refine jc 26 31 (.pointer (some ⟨q,3,none⟩)) rfl rfl (by kernel_rfl) (by kernel_rfl) (by kernel_rfl) (fun _ _ _ h=>h) (by kernel_rfl) (fun _=>rfl) (fun wz=>?_) ?_
     ·go_simp
     try simp only [Act.put,sA,sB,sC]
     refine jc 28 33 (.func (.yield l) #[] #[]) rfl rfl (by kernel_rfl) (by kernel_rfl) (by kernel_rfl) (fun _ _ _ h=>h) (by kernel_rfl) (fun _=>rfl) (fun wz=>?_) ?_
     ·rfl
     try simp only [Act.put,sA,sB,sC]
     refine wpAnyIn_ready (rs:=[27]) (by kernel_rfl) (by simp) ?_
     refine qO 27 32 (.pointer ab) W4 rfl rfl (by kernel_rfl) (by have y:=hG4.cell c3;go_simp) ?_ AllReadyIn.nil
     try simp only [Act.put,sA,sB,sC]
     refine wpAnyIn_ready (rs:=[29]) (by kernel_rfl) (by simp) ?_
     refine uG 29 34 72 #[.pointer ab,.func (.yield l) #[] #[]] rfl rfl (by kernel_rfl) (by go_simp) ((IB.o (n-1) W4 _ hG4 hJ4 (by simp;have:=congrArg List.length hys;simp at this;omega) (by simpa using HA.o ys hys)).mono ?_) AllReadyIn.nil
     rintro e W5 (⟨rfl,zs,hzs,hJ5,hG5⟩ | ⟨rfl,qq,hqq,hx5⟩)
     ·refine ⟨_,rfl,?_⟩
      try simp only [Act.put,sA,sB,sC]
      refine jc 30 35 (.bool true) rfl rfl (by kernel_rfl) (by kernel_rfl) (by kernel_rfl) (fun _ _ _ h=>h) (by kernel_rfl) (fun _=>rfl) (fun wz=>?_) ?_
      ·go_simp
      try simp only [Act.put,sA,sB,sC]
      refine jc 31 36 (.bool true) rfl rfl (by kernel_rfl) (by kernel_rfl) (by kernel_rfl) (fun _ _ _ h=>h) (by kernel_rfl) (fun _=>rfl) (fun wz=>?_) ?_
      ·go_simp
      try simp only [Act.put,sA,sB,sC]
      refine jc 32 4 (.bool true) rfl rfl (by kernel_rfl) (by kernel_rfl) (by kernel_rfl) (fun _ _ _ h=>h) (by kernel_rfl) (fun _=>rfl) (fun wz=>?_) ?_
      ·rfl
      try simp only [Act.put,sA,sB,sC]
      refine wpAnyIn_done (by kernel_rfl) ?_ _
      gi_wp2
      go_ret
      exact .inl ⟨rfl,ys++⟨⟨nm,p,v,m,kk⟩,HX.o⟩::zs,by simp [qG,K.items,hys,hzs] ,by simpa using hJ5,hG5⟩
     ·refine ⟨_,rfl,?_⟩
      try simp only [Act.put,sA,sB,sC]
      refine jc 30 35 (.bool false) rfl rfl (by kernel_rfl) (by kernel_rfl) (by kernel_rfl) (fun _ _ _ h=>h) (by kernel_rfl) (fun _=>rfl) (fun wz=>?_) ?_
      ·go_simp
      try simp only [Act.put,sA,sB,sC]
      refine jc 31 36 (.bool false) rfl rfl (by kernel_rfl) (by kernel_rfl) (by kernel_rfl) (fun _ _ _ h=>h) (by kernel_rfl) (fun _=>rfl) (fun wz=>?_) ?_
      ·go_simp
      try simp only [Act.put,sA,sB,sC]
      refine jc 32 4 (.bool false) rfl rfl (by kernel_rfl) (by kernel_rfl) (by kernel_rfl) (fun _ _ _ h=>h) (by kernel_rfl) (fun _=>rfl) (fun wz=>?_) ?_
      ·rfl
      try simp only [Act.put,sA,sB,sC]
      refine wpAnyIn_done (by kernel_rfl) ?_ _
      gi_wp2
      go_ret
      exact .inr ⟨rfl,ys++⟨⟨nm,p,v,m,kk⟩,HX.o⟩::qq,vR hys hqq,by simpa using hx5⟩
    ·refine ⟨_,rfl,?_⟩
     try simp only [Act.put,sA,sB,sC]
     refine jc 22 27 (.bool false) rfl rfl (by kernel_rfl) (by kernel_rfl) (by kernel_rfl) (fun _ _ _ h=>h) (by kernel_rfl) (fun _=>rfl) (fun wz=>?_) ?_
     ·go_simp
     try simp only [Act.put,sA,sB,sC]
     refine jc 23 28 (.bool false) rfl rfl (by kernel_rfl) (by kernel_rfl) (by kernel_rfl) (fun _ _ _ h=>h) (by kernel_rfl) (fun _=>rfl) (fun wz=>?_) ?_
     ·rfl
     try simp only [Act.put,sA,sB,sC]
     refine qA 24 29 rfl rfl (by kernel_rfl) (by kernel_rfl) (by kernel_rfl) (fun _ _ _ h=>h) (by kernel_rfl) (fun _=>rfl) ?_
     try simp only [Act.put,sA,sB,sC]
     refine qA 25 30 rfl rfl (by kernel_rfl) (by kernel_rfl) (by kernel_rfl) (fun _ _ _ h=>h) (by kernel_rfl) (fun _=>rfl) ?_
     try simp only [Act.put,sA,sB,sC]
     refine qA 26 31 rfl rfl (by kernel_rfl) (by kernel_rfl) (by kernel_rfl) (fun _ _ _ h=>h) (by kernel_rfl) (fun _=>rfl) ?_
     try simp only [Act.put,sA,sB,sC]
     refine qA 27 32 rfl rfl (by kernel_rfl) (by kernel_rfl) (by kernel_rfl) (fun _ _ _ h=>h) (by kernel_rfl) (fun _=>rfl) ?_
     try simp only [Act.put,sA,sB,sC]
     refine qA 28 33 rfl rfl (by kernel_rfl) (by kernel_rfl) (by kernel_rfl) (fun _ _ _ h=>h) (by kernel_rfl) (fun _=>rfl) ?_
     try simp only [Act.put,sA,sB,sC]
     refine wpAnyIn_ready (rs:=[29]) (by kernel_rfl) (by simp) ?_
     refine yC 29 34 rfl rfl (by kernel_rfl) ?_ AllReadyIn.nil
     try simp only [Act.put,sA,sB,sC]
     refine jc 30 35 (.bool false) rfl rfl (by kernel_rfl) (by kernel_rfl) (by kernel_rfl) (fun _ _ _ h=>h) (by kernel_rfl) (fun _=>rfl) (fun wz=>?_) ?_
     ·go_simp
     try simp only [Act.put,sA,sB,sC]
     refine jc 31 36 (.bool false) rfl rfl (by kernel_rfl) (by kernel_rfl) (by kernel_rfl) (fun _ _ _ h=>h) (by kernel_rfl) (fun _=>rfl) (fun wz=>?_) ?_
     ·go_simp
     try simp only [Act.put,sA,sB,sC]
     refine jc 32 4 (.bool false) rfl rfl (by kernel_rfl) (by kernel_rfl) (by kernel_rfl) (fun _ _ _ h=>h) (by kernel_rfl) (fun _=>rfl) (fun wz=>?_) ?_
     ·rfl
     try simp only [Act.put,sA,sB,sC]
     refine wpAnyIn_done (by kernel_rfl) ?_ _
     gi_wp2
     go_ret
     exact .inr ⟨rfl,ys++[⟨⟨nm,p,v,m,kk⟩,HX.o⟩],vS hys,by simpa using hx4⟩
   ·refine wpAnyIn_ready (rs:=[15]) (by kernel_rfl) (by simp) ?_
    refine qO 15 20 (.string nm) W3 rfl rfl (by kernel_rfl) (by have y:=HG3.o.cell c0;go_simp) ?_ AllReadyIn.nil
    try simp only [Act.put,sA,sB,sC]
    obtain ⟨fn,tmps,assign,body,hy,hR⟩:=HY.o W3 ys hJ3 hys
    try dsimp only at hy
    refine wpAnyIn_ready (rs:=[21]) (by kernel_rfl) (by simp) ?_
    refine tT 21 26 l fn tmps assign body rfl rfl (by kernel_rfl) (by go_simp) (hR.mono ?_) AllReadyIn.nil
    clear hy hR
    rintro e W4 (⟨rfl,hJ4,hB4⟩ | ⟨rfl,hx4⟩)
    ·refine ⟨_,rfl,?_⟩
     try simp only [Act.put,sA,sB,sC]
     have hG4:G w0 W4:=HG3.o.trans' hB4
     refine jc 22 27 (.bool true) rfl rfl (by kernel_rfl) (by kernel_rfl) (by kernel_rfl) (fun _ _ _ h=>h) (by kernel_rfl) (fun _=>rfl) (fun wz=>?_) ?_
     ·go_simp
     try simp only [Act.put,sA,sB,sC]
     refine jc 23 28 (.bool true) rfl rfl (by kernel_rfl) (by kernel_rfl) (by kernel_rfl) (fun _ _ _ h=>h) (by kernel_rfl) (fun _=>rfl) (fun wz=>?_) ?_
     ·rfl
     try simp only [Act.put,sA,sB,sC]
     refine jc 24 29 (.pointer (some ⟨q,0,none⟩)) rfl rfl (by kernel_rfl) (by kernel_rfl) (by kernel_rfl) (fun _ _ _ h=>h) (by kernel_rfl) (fun _=>rfl) (fun wz=>?_) ?_
     ·rfl
     try simp only [Act.put,sA,sB,sC]
     refine jc 25 30 (.pointer (some ⟨q,0,none⟩)) rfl rfl (by kernel_rfl) (by kernel_rfl) (by kernel_rfl) (fun _ _ _ h=>h) (by kernel_rfl) (fun _=>rfl) (fun wz=>?_) ?_
     ·go_simp
     try simp only [Act.put,sA,sB,sC]
     refine jc 26 31 (.pointer (some ⟨q,3,none⟩)) rfl rfl (by kernel_rfl) (by kernel_rfl) (by kernel_rfl) (fun _ _ _ h=>h) (by kernel_rfl) (fun _=>rfl) (fun wz=>?_) ?_
     ·go_simp
     try simp only [Act.put,sA,sB,sC]
     refine jc 28 33 (.func (.yield l) #[] #[]) rfl rfl (by kernel_rfl) (by kernel_rfl) (by kernel_rfl) (fun _ _ _ h=>h) (by kernel_rfl) (fun _=>rfl) (fun wz=>?_) ?_
     ·rfl
     try simp only [Act.put,sA,sB,sC]
     refine wpAnyIn_ready (rs:=[27]) (by kernel_rfl) (by simp) ?_
     refine qO 27 32 (.pointer ab) W4 rfl rfl (by kernel_rfl) (by have y:=hG4.cell c3;go_simp) ?_ AllReadyIn.nil
     try simp only [Act.put,sA,sB,sC]
     refine wpAnyIn_ready (rs:=[29]) (by kernel_rfl) (by simp) ?_
     refine uG 29 34 72 #[.pointer ab,.func (.yield l) #[] #[]] rfl rfl (by kernel_rfl) (by go_simp) ((IB.o (n-1) W4 _ hG4 hJ4 (by simp;have:=congrArg List.length hys;simp at this;omega) (by simpa using HA.o ys hys)).mono ?_) AllReadyIn.nil
     rintro e W5 (⟨rfl,zs,hzs,hJ5,hG5⟩ | ⟨rfl,qq,hqq,hx5⟩)
     ·refine ⟨_,rfl,?_⟩
      try simp only [Act.put,sA,sB,sC]
      refine jc 30 35 (.bool true) rfl rfl (by kernel_rfl) (by kernel_rfl) (by kernel_rfl) (fun _ _ _ h=>h) (by kernel_rfl) (fun _=>rfl) (fun wz=>?_) ?_
      ·go_simp
      try simp only [Act.put,sA,sB,sC]
      refine jc 31 36 (.bool true) rfl rfl (by kernel_rfl) (by kernel_rfl) (by kernel_rfl) (fun _ _ _ h=>h) (by kernel_rfl) (fun _=>rfl) (fun wz=>?_) ?_
      ·go_simp
      try simp only [Act.put,sA,sB,sC]
      refine jc 32 4 (.bool true) rfl rfl (by kernel_rfl) (by kernel_rfl) (by kernel_rfl) (fun _ _ _ h=>h) (by kernel_rfl) (fun _=>rfl) (fun wz=>?_) ?_
      ·rfl
      try simp only [Act.put,sA,sB,sC]
      refine wpAnyIn_done (by kernel_rfl) ?_ _
      gi_wp2
      go_ret
      exact .inl ⟨rfl,ys++⟨⟨nm,p,v,m,kk⟩,HX.o⟩::zs,by simp [qG,K.items,hys,hzs] ,by simpa using hJ5,hG5⟩
     ·refine ⟨_,rfl,?_⟩
      try simp only [Act.put,sA,sB,sC]
      refine jc 30 35 (.bool false) rfl rfl (by kernel_rfl) (by kernel_rfl) (by kernel_rfl) (fun _ _ _ h=>h) (by kernel_rfl) (fun _=>rfl) (fun wz=>?_) ?_
      ·go_simp
      try simp only [Act.put,sA,sB,sC]
      refine jc 31 36 (.bool false) rfl rfl (by kernel_rfl) (by kernel_rfl) (by kernel_rfl) (fun _ _ _ h=>h) (by kernel_rfl) (fun _=>rfl) (fun wz=>?_) ?_
      ·go_simp
      try simp only [Act.put,sA,sB,sC]
      refine jc 32 4 (.bool false) rfl rfl (by kernel_rfl) (by kernel_rfl) (by kernel_rfl) (fun _ _ _ h=>h) (by kernel_rfl) (fun _=>rfl) (fun wz=>?_) ?_
      ·rfl
      try simp only [Act.put,sA,sB,sC]
      refine wpAnyIn_done (by kernel_rfl) ?_ _
      gi_wp2
      go_ret
      exact .inr ⟨rfl,ys++⟨⟨nm,p,v,m,kk⟩,HX.o⟩::qq,vR hys hqq,by simpa using hx5⟩
    ·refine ⟨_,rfl,?_⟩
     try simp only [Act.put,sA,sB,sC]
     refine jc 22 27 (.bool false) rfl rfl (by kernel_rfl) (by kernel_rfl) (by kernel_rfl) (fun _ _ _ h=>h) (by kernel_rfl) (fun _=>rfl) (fun wz=>?_) ?_
     ·go_simp
     try simp only [Act.put,sA,sB,sC]
     refine jc 23 28 (.bool false) rfl rfl (by kernel_rfl) (by kernel_rfl) (by kernel_rfl) (fun _ _ _ h=>h) (by kernel_rfl) (fun _=>rfl) (fun wz=>?_) ?_
     ·rfl
     try simp only [Act.put,sA,sB,sC]
     refine qA 24 29 rfl rfl (by kernel_rfl) (by kernel_rfl) (by kernel_rfl) (fun _ _ _ h=>h) (by kernel_rfl) (fun _=>rfl) ?_
     try simp only [Act.put,sA,sB,sC]
     refine qA 25 30 rfl rfl (by kernel_rfl) (by kernel_rfl) (by kernel_rfl) (fun _ _ _ h=>h) (by kernel_rfl) (fun _=>rfl) ?_
     try simp only [Act.put,sA,sB,sC]
     refine qA 26 31 rfl rfl (by kernel_rfl) (by kernel_rfl) (by kernel_rfl) (fun _ _ _ h=>h) (by kernel_rfl) (fun _=>rfl) ?_
     try simp only [Act.put,sA,sB,sC]
     refine qA 27 32 rfl rfl (by kernel_rfl) (by kernel_rfl) (by kernel_rfl) (fun _ _ _ h=>h) (by kernel_rfl) (fun _=>rfl) ?_
     try simp only [Act.put,sA,sB,sC]
     refine qA 28 33 rfl rfl (by kernel_rfl) (by kernel_rfl) (by kernel_rfl) (fun _ _ _ h=>h) (by kernel_rfl) (fun _=>rfl) ?_
     try simp only [Act.put,sA,sB,sC]
     refine wpAnyIn_ready (rs:=[29]) (by kernel_rfl) (by simp) ?_
     refine yC 29 34 rfl rfl (by kernel_rfl) ?_ AllReadyIn.nil
     try simp only [Act.put,sA,sB,sC]
     refine jc 30 35 (.bool false) rfl rfl (by kernel_rfl) (by kernel_rfl) (by kernel_rfl) (fun _ _ _ h=>h) (by kernel_rfl) (fun _=>rfl) (fun wz=>?_) ?_
     ·go_simp
     try simp only [Act.put,sA,sB,sC]
     refine jc 31 36 (.bool false) rfl rfl (by kernel_rfl) (by kernel_rfl) (by kernel_rfl) (fun _ _ _ h=>h) (by kernel_rfl) (fun _=>rfl) (fun wz=>?_) ?_
     ·go_simp
     try simp only [Act.put,sA,sB,sC]
     refine jc 32 4 (.bool false) rfl rfl (by kernel_rfl) (by kernel_rfl) (by kernel_rfl) (fun _ _ _ h=>h) (by kernel_rfl) (fun _=>rfl) (fun wz=>?_) ?_
     ·rfl
     try simp only [Act.put,sA,sB,sC]
     refine wpAnyIn_done (by kernel_rfl) ?_ _
     gi_wp2
     go_ret
     exact .inr ⟨rfl,ys++[⟨⟨nm,p,v,m,kk⟩,HX.o⟩],vS hys,by simpa using hx4⟩
  ·refine ⟨_,rfl,?_⟩
   try simp only [Act.put,sA,sB,sC]
   refine jc 9 14 (.bool false) rfl rfl (by kernel_rfl) (by kernel_rfl) (by kernel_rfl) (fun _ _ _ h=>h) (by kernel_rfl) (fun _=>rfl) (fun wz=>?_) ?_
   ·rfl
   try simp only [Act.put,sA,sB,sC]
   refine qA 10 15 rfl rfl (by kernel_rfl) (by kernel_rfl) (by kernel_rfl) (fun _ _ _ h=>h) (by kernel_rfl) (fun _=>rfl) ?_
   try simp only [Act.put,sA,sB,sC]
   refine qA 11 16 rfl rfl (by kernel_rfl) (by kernel_rfl) (by kernel_rfl) (fun _ _ _ h=>h) (by kernel_rfl) (fun _=>rfl) ?_
   try simp only [Act.put,sA,sB,sC]
   refine qA 12 17 rfl rfl (by kernel_rfl) (by kernel_rfl) (by kernel_rfl) (fun _ _ _ h=>h) (by kernel_rfl) (fun _=>rfl) ?_
   try simp only [Act.put,sA,sB,sC]
   refine qA 13 18 rfl rfl (by kernel_rfl) (by kernel_rfl) (by kernel_rfl) (fun _ _ _ h=>h) (by kernel_rfl) (fun _=>rfl) ?_
   try simp only [Act.put,sA,sB,sC]
   refine qA 14 19 rfl rfl (by kernel_rfl) (by kernel_rfl) (by kernel_rfl) (fun _ _ _ h=>h) (by kernel_rfl) (fun _=>rfl) ?_
   try simp only [Act.put,sA,sB,sC]
   refine qA 15 20 rfl rfl (by kernel_rfl) (by kernel_rfl) (by kernel_rfl) (fun _ _ _ h=>h) (by kernel_rfl) (fun _=>rfl) ?_
   try simp only [Act.put,sA,sB,sC]
   refine qA 16 21 rfl rfl (by kernel_rfl) (by kernel_rfl) (by kernel_rfl) (fun _ _ _ h=>h) (by kernel_rfl) (fun _=>rfl) ?_
   try simp only [Act.put,sA,sB,sC]
   refine qA 17 22 rfl rfl (by kernel_rfl) (by kernel_rfl) (by kernel_rfl) (fun _ _ _ h=>h) (by kernel_rfl) (fun _=>rfl) ?_
   try simp only [Act.put,sA,sB,sC]
   refine qA 18 23 rfl rfl (by kernel_rfl) (by kernel_rfl) (by kernel_rfl) (fun _ _ _ h=>h) (by kernel_rfl) (fun _=>rfl) ?_
   try simp only [Act.put,sA,sB,sC]
   refine qA 19 24 rfl rfl (by kernel_rfl) (by kernel_rfl) (by kernel_rfl) (fun _ _ _ h=>h) (by kernel_rfl) (fun _=>rfl) ?_
   try simp only [Act.put,sA,sB,sC]
   refine qA 20 25 rfl rfl (by kernel_rfl) (by kernel_rfl) (by kernel_rfl) (fun _ _ _ h=>h) (by kernel_rfl) (fun _=>rfl) ?_
   try simp only [Act.put,sA,sB,sC]
   refine wpAnyIn_ready (rs:=[21]) (by kernel_rfl) (by simp) ?_
   refine yC 21 26 rfl rfl (by kernel_rfl) ?_ AllReadyIn.nil
   try simp only [Act.put,sA,sB,sC]
   refine jc 22 27 (.bool false) rfl rfl (by kernel_rfl) (by kernel_rfl) (by kernel_rfl) (fun _ _ _ h=>h) (by kernel_rfl) (fun _=>rfl) (fun wz=>?_) ?_
   ·go_simp
   try simp only [Act.put,sA,sB,sC]
   refine jc 23 28 (.bool false) rfl rfl (by kernel_rfl) (by kernel_rfl) (by kernel_rfl) (fun _ _ _ h=>h) (by kernel_rfl) (fun _=>rfl) (fun wz=>?_) ?_
   ·rfl
   try simp only [Act.put,sA,sB,sC]
   refine qA 24 29 rfl rfl (by kernel_rfl) (by kernel_rfl) (by kernel_rfl) (fun _ _ _ h=>h) (by kernel_rfl) (fun _=>rfl) ?_
   try simp only [Act.put,sA,sB,sC]
   refine qA 25 30 rfl rfl (by kernel_rfl) (by kernel_rfl) (by kernel_rfl) (fun _ _ _ h=>h) (by kernel_rfl) (fun _=>rfl) ?_
   try simp only [Act.put,sA,sB,sC]
   refine qA 26 31 rfl rfl (by kernel_rfl) (by kernel_rfl) (by kernel_rfl) (fun _ _ _ h=>h) (by kernel_rfl) (fun _=>rfl) ?_
   try simp only [Act.put,sA,sB,sC]
   refine qA 27 32 rfl rfl (by kernel_rfl) (by kernel_rfl) (by kernel_rfl) (fun _ _ _ h=>h) (by kernel_rfl) (fun _=>rfl) ?_
   try simp only [Act.put,sA,sB,sC]
   refine qA 28 33 rfl rfl (by kernel_rfl) (by kernel_rfl) (by kernel_rfl) (fun _ _ _ h=>h) (by kernel_rfl) (fun _=>rfl) ?_
   try simp only [Act.put,sA,sB,sC]
   refine wpAnyIn_ready (rs:=[29]) (by kernel_rfl) (by simp) ?_
   refine yC 29 34 rfl rfl (by kernel_rfl) ?_ AllReadyIn.nil
   try simp only [Act.put,sA,sB,sC]
   refine jc 30 35 (.bool false) rfl rfl (by kernel_rfl) (by kernel_rfl) (by kernel_rfl) (fun _ _ _ h=>h) (by kernel_rfl) (fun _=>rfl) (fun wz=>?_) ?_
   ·go_simp
   try simp only [Act.put,sA,sB,sC]
   refine jc 31 36 (.bool false) rfl rfl (by kernel_rfl) (by kernel_rfl) (by kernel_rfl) (fun _ _ _ h=>h) (by kernel_rfl) (fun _=>rfl) (fun wz=>?_) ?_
   ·go_simp
   try simp only [Act.put,sA,sB,sC]
   refine jc 32 4 (.bool false) rfl rfl (by kernel_rfl) (by kernel_rfl) (by kernel_rfl) (fun _ _ _ h=>h) (by kernel_rfl) (fun _=>rfl) (fun wz=>?_) ?_
   ·rfl
   try simp only [Act.put,sA,sB,sC]
   refine wpAnyIn_done (by kernel_rfl) ?_ _
   gi_wp2
   go_ret
   exact .inr ⟨rfl,qq,hqq.trans (by simp [K.items]),hx3⟩
theorem ym (n:Nat) (w0:World) (S:Kid→Prop) (l Bt p:Nat) (v:Vd) (m:Md) (k:K) (J Jx:List (ql w0 S)→World→Prop) (hJD:∀ pre W,J pre W→J pre W.drew)
  (hY:∀ pre (x:ql w0 S) W,J pre W→pre.length<k.items.length→qG (pre++[x]) <+: k.items→YieldAt Fence.wide (n-1) Tryz.prog l #[.string x.1.nm,.pointer (some ⟨x.1.p,0,none⟩)] W fun e W'=>
   (e=.returned (.bool true)∧J (pre++[x]) W'∧Below w0.heap.size W W')∨(e=.returned (.bool false)∧Jx (pre++[x]) W'))
  (W:World) (hBt:W.cell? ⟨Bt,0,none⟩=some (.pointer (some ⟨p,0,none⟩))) (hT:AtT w0 p v m k) (hS:(∀ x∈k.items,S x)) (hG:G w0 W) (h0:J [] W):
  CallsIn Fence.wide n Tryz.prog 71 #[.func (.yield l) #[] #[],.pointer (some ⟨Bt,0,none⟩)] W fun e W'=>(∃ v,e=.returned v)∧
   ((∃ ys:List (ql w0 S),qG ys=k.items∧J ys W')∨(∃ pre:List (ql w0 S),qG pre <+: k.items∧Jx pre W')):=by
 obtain ⟨pk,h1,h2⟩:=hT
 have c39:=hG.cell (jB h1 39 _ (xH ..))
 have hp:=rN w0 S k.items l k.items.length J Jx hJD (fun m pre x W hj hl hp=>yieldAny rfl m (hY pre x W hj hl hp)) k (n-1) pk [] W h2 hS hG h0 (by simp) (by simp [qG])
 obtain ⟨a,rfl⟩:=h2.form
 clear h1 h2 hY
 refine callsIn_of_wp Tryz.func71 rfl trivial ?_ rfl
 simp only [Tryz.ntmps71,List.size_toArray,List.length_cons,List.length_nil,Nat.reduceAdd,Nat.reduceSub,Array.replicate_succ,Array.replicate_zero,List.push_toArray,List.append_toArray,List.nil_append,List.cons_append]
 gi_wp2_with (refine ⟨trivial,fun h=>(by cases h),?_⟩;gi_at_call 72;refine hp.mono ?_;clear hp;rintro e W1 (⟨rfl,ys,hys,hJ1,_⟩ | ⟨rfl,q,hq,hx⟩))
 ·go_end0
  exact ⟨⟨_,rfl⟩,.inl ⟨ys,hys,by simpa using hJ1⟩⟩
 ·go_end0
  exact ⟨⟨_,rfl⟩,.inr ⟨q,hq,by simpa using hx⟩⟩
theorem K.items_len:∀ k:K,k.items.length=k.flat.len
 | .nil=>rfl
 | .node _ _ _ _ _ _ ah be=>by rw [K.items,K.flat,F.bd,F.len,List.length_append,List.length_cons,K.items_len ah,K.items_len be]
theorem kK (p:Nat) (w:World):
  Calls Tryz.prog 39 #[.pointer (some ⟨p,0,none⟩)] w fun e w'=>e=.returned (.func (.func 71) #[] #[.pointer (some ⟨w.heap.size,0,none⟩)])∧w'=w.alloc (.cells #[.pointer (some ⟨p,0,none⟩)] 32):=by
 have hmf:∀ (fn:Fn) (first cap:Array Value) (w:World),(Instr.makeFunc fn first cap).run Tryz.prog w=.ok (.func fn first cap) w:=fun _ _ _ _=>rfl
 go_enter Tryz.func39,Tryz.ntmps39
 go_wp2
 go_ret
 exact ⟨rfl,rfl⟩
theorem gH (n:Nat) (w0:World) (S l Bt p:Nat) (v:Vd) (m:Md) (k:K) (J Jx:List (gj w0 S)→World→Prop) (hJD:∀ pre W,J pre W→J pre W.drew)
  (hY:∀ pre (x:gj w0 S) W,J pre W→pre.length<k.items.length→YieldAt Fence.wide (n-1) Tryz.prog l #[.string x.1.nm,.pointer (some ⟨x.1.p,0,none⟩)] W fun e W'=>
   (e=.returned (.bool true)∧J (pre++[x]) W'∧Below w0.heap.size W W')∨(e=.returned (.bool false)∧Jx (pre++[x]) W'))
  (W:World) (hBt:W.cell? ⟨Bt,0,none⟩=some (.pointer (some ⟨p,0,none⟩))) (hT:AtT w0 p v m k) (hS:k.flat.size≤S) (hG:G w0 W) (h0:J [] W):
  CallsIn Fence.wide n Tryz.prog 71 #[.func (.yield l) #[] #[],.pointer (some ⟨Bt,0,none⟩)] W fun e W'=>(∃ v,e=.returned v)∧
   ((∃ ys:List (gj w0 S),kids ys=k.items∧J ys W')∨(∃ pre:List (gj w0 S),kids pre <+: k.items∧Jx pre W')):=by
 exact ym n w0 (fun x=>x.k.flat.size<S) l Bt p v m k J Jx hJD (fun pre x W hj hl _=>hY pre x W hj hl) W hBt hT (fun x hx=>Nat.lt_of_lt_of_le (yX x hx) hS) hG h0
theorem cx (n:Nat) (w0:World) (S Bt p:Nat) (v:Vd) (m:Md) (k:K) (w:World) (hBt:Bt<w.heap.size) (hc:w.cell? ⟨Bt,0,none⟩=some (.pointer (some ⟨p,0,none⟩))) (hT:AtT w0 p v m k) (hS:k.flat.size≤S) (hG:G w0 w):
  SeqStopsK Fence.wide n Tryz.prog 71 #[.pointer (some ⟨Bt,0,none⟩)] (fun x:gj w0 S=>#[Value.string x.1.nm,.pointer (some ⟨x.1.p,0,none⟩)]) (Below w0.heap.size) (fun ys=>kids ys=k.items) (fun pre=>kids pre <+: k.items) k.items.length w:=fun l J Jx W hW hJ _ hY h0=>
 gH n w0 S l Bt p v m k J Jx (fun pre A h=>hJ _ _ _ none h ⟨rfl,rfl,rfl,Nat.le_refl _,fun _ _ _=>rfl⟩ (fun r e=>by cases e)) hY W ((hW.cell (p:=⟨Bt,0,none⟩) hBt).trans hc) hT hS (hG.trans hW) h0
end Go.Proofs.YtjikkhbcbfpocaaGreatDoor
namespace Go.Proofs.YtjikkhbcbfpocaaGreatDoor
open Go.RowKit Go.Shelf
theorem build30 (v:Vd) (m:Md) (w:World):(Instr.build 30 #[(1,.agg (vx v).toArray),(2,.agg (mx m).toArray)]).run Tryz.prog w=.ok (.agg (nc ⟨#[]⟩ v m (.slice none 0 0))) w:=by
 refine run_build w 30 _ _ ?_
 have hz:∃ z:List Value,(Tryz.prog.info? 30).bind (·.zero)=some (.agg (List.toArray (.string ⟨#[]⟩::(z++[.slice none 0 0]))))∧z.length=39:=⟨vx Vd.zero++mx Md.zero,by kernel_rfl,by kernel_rfl⟩
 obtain ⟨z,hz,hl⟩:=hz
 have hp:(Tryz.prog.fieldsOf 30).toList.mapM (fun f=>(Tryz.prog.info? f.type).map fun i=>(f.offset,i.size))=some [(0,1),(1,35),(36,4),(40,1)]:=by kernel_rfl
 have hu2:Tryz.prog.underlying 30=some (.struct (Tryz.prog.fieldsOf 30)):=by kernel_rfl
 unfold Program.built
 cases hi:Tryz.prog.info? 30 with
 | none=>rw [hi] at hz;cases hz
 | some it=>
  rw [hi] at hz
  simp only [Option.bind_some] at hz
  simp only [hu2,hz,hp]
  show Instr.fill _ (List.toArray _) _=_
  have hx:=jg v
  have hm:=qt m
  rw [kV _ _ 1 1 35 _ (vx v) _ rfl rfl hx (by simp;omega),kV _ _ 2 36 4 _ (mx m) _ rfl rfl hm (by simp [over,hx];omega),Instr.fill]
  simp only [over,nc,hx,hm]
  refine congrArg some (congrArg List.toArray ?_)
  simp only [List.take_succ_cons,List.take_zero,List.cons_append,List.nil_append,List.drop_succ_cons,Nat.reduceAdd]
  have t1:∀ r:List Value,(vx v++r).take 35=vx v:=fun r=>by
   rw [List.take_append_of_le_length (by omega),List.take_of_length_le (by omega)]
  have t2:((vx v++(z++[Value.slice none 0 0]).drop 35).drop 39)=[Value.slice none 0 0]:=by
   rw [List.drop_append,hx,List.drop_of_length_le (by omega),List.drop_drop,List.nil_append,List.drop_append,hl,List.drop_of_length_le (by omega)]
   rfl
  rw [t1,t2]
  simp
theorem aX {o:Oper} {a:Act} (parts:Array (Nat × Operand)) (ho:o.op=.build 30 parts) (v:Vd) (m:Md)
  (hp:(parts.map fun (p:Nat × Operand)=>(p.1,a.eval p.2))=#[(1,.agg (vx v).toArray),(2,.agg (mx m).toArray)]) (w:World):(execOp a.eval o).run Tryz.prog w=.ok (.value (.agg (nc ⟨#[]⟩ v m (.slice none 0 0)))) w:=by
 unfold execOp
 simp only [ho]
 have:(parts.map fun (x:Nat × Operand)=>match x with | (i,x)=>(i,a.eval x))=#[(1,.agg (vx v).toArray),(2,.agg (mx m).toArray)]:=hp
 rw [this]
 simp only [Sem.run_bind,build30 v m w,Result.andThen_ok,Sem.run_pure]
theorem kq {base e size g n cap:Nat}:∀ (vs:List Value) (o:Nat) (w:World) (xs:List Value),w.ownsRow base e size (.slice (some ⟨g,0,none⟩) n cap) n xs→o+vs.length≤xs.length→
  (w.setCells g o vs).ownsRow base e size (.slice (some ⟨g,0,none⟩) n cap) n (over xs o vs)∧w.grownBy (w.setCells g o vs) (some g)
 | [],o,w,xs,h,_=>⟨by simpa [over,World.setCells] using h,⟨rfl,rfl,rfl,Nat.le_refl _,fun _ _ _=>rfl⟩⟩
 | v::r,o,w,xs,h,hl=>by
  simp only [List.length_cons] at hl
  obtain ⟨h1,h2⟩:=h.stored o v
  obtain ⟨h3,h4⟩:=kq r (o+1) _ _ h1 (by simp;omega)
  refine ⟨?_,h2.trans h4⟩
  have:over (xs.set o v) (o+1) r=over xs o (v::r):=by
   unfold over
   rw [dc _ _ _ (by omega)]
   have h1:(xs.take o).length=o:=by simp;omega
   have e1:(xs.take o++v::xs.drop (o+1)).take (o+1)=xs.take o++[v]:=by
    rw [List.take_append,h1,show o+1-o=1 by omega,List.take_of_length_le (by omega)]
    rfl
   have e2:(xs.take o++v::xs.drop (o+1)).drop (o+1+r.length)=xs.drop (o+(r.length+1)):=by
    rw [List.drop_append,h1,List.drop_of_length_le (l:=xs.take o) (by omega),show o+1+r.length-o=r.length+1 by omega,List.drop_succ_cons,List.drop_drop]
    simp only [List.nil_append]
    congr 1
    omega
   rw [e1,e2]
   simp
  rw [this] at h3
  exact h3
theorem aK {w:World} {base e size g n cap:Nat} {xs:List Value} (h:w.ownsRow base e size (.slice (some ⟨g,0,none⟩) n cap) n xs) (o k:Nat) (hk:o+k≤xs.length):w.there g o k:=fun j hj=>by
 refine ⟨?_,h.frozenAt _⟩
 have:=h.cells (g:=g) rfl (o+j) (xs[o+j]'(by omega)) (by simp)
 rw [Addr.add_mid,Nat.zero_add] at this
 rw [this];rfl
theorem yr {o:Oper} {a:Act} (x y:Operand) (ho:o.op=.store 30 x y) (g f:Nat) (c:Array Value) (hx:a.eval x=.pointer (some ⟨g,f,none⟩)) (hy:a.eval y=.agg c) (w:World) (ht:w.there g f 41)
  (hs:c.size=41) (h1:c.all (·.oneCell')=true):(execOp a.eval o).run Tryz.prog w=.ok .skip (w.setCells g f c.toList):=by
 unfold execOp
 simp only [ho,hx,hy,Sem.run_bind,Sem.run_pure,Result.andThen_ok,run_storeAt_mid (P:=Tryz.prog) w g f 30 c (by rw [hs];exact ht) (by rw [yQ,hs]) h1]
theorem eJ {o:Oper} {a:Act} (s x:Operand) (ho:o.op=.call { callee:=.builtin .append,args:=#[s,x],argTypes:=#[28,28] }) (base k:Nat) (v:Value) (xs:List Value) (w:World) (hs:a.eval s=v) (hown:w.ownsRow base 30 41 v k xs)
  (ad:Addr) (c:Array Value) (hx:a.eval x=.slice (some ad) 1 1) (hc:c.size=41) (hl:∀ j u,c[j]?=some u→w.cell? (ad.add j)=some u) (h1:c.all (·.oneCell')=true) (hk:k≤100000) (hb:base≤w.heap.size):
  ∃ g cap w',(execOp a.eval o).run Tryz.prog w=.ok (.value (.slice (some ⟨g,0,none⟩) (k+1) cap)) w'∧w'.ownsRow base 30 41 (.slice (some ⟨g,0,none⟩) (k+1) cap) (k+1) (xs++c.toList)∧w.grownBy w' v.ownBlock∧(v.ownBlock=some g∨g=w.heap.size):=by
 obtain ⟨i0,hi,hz0,hz1,hz2⟩:=info_parts lL
 obtain ⟨v',w',hr,h2,h3,_,h5⟩:=run_append_own_at (P:=Tryz.prog) w base 28 o.type 30 i0 (.agg z30) 41 128 Tryz.underlying28 hi hz0 hz1 hz2 jV (by decide) v k xs hown ad 1 1 c.toList (by simpa using hc) (fun j u hj=>hl j u (by simpa using hj)) (fun u hu=>(Array.all_eq_true_iff_forall_mem.1 h1) u (by simpa using hu)) (by unfold maxLen;omega) (by omega) hb
 obtain ⟨g,cap,rfl⟩:=bD h2
 refine ⟨g,cap,w',?_,h2,h3,?_⟩
 ·unfold execOp
  simp only [ho,resolve,invoke,builtin,Sem.run_bind,Sem.run_pure,Result.andThen_ok,List.map_toArray,List.map_cons,List.map_nil,hs,hx,hr]
 ·rcases h5 with h5 | h5
  ·exact .inl h5.symm
  ·exact .inr (by simpa [Value.ownBlock] using h5)
section
variable {ops:Array Oper} {Q:Exit→Act→World→Prop} {n l:Nat}
theorem iG {id:Nat} {a:Act} {w:World} (h:∀ ops' Q',ops'=ops→Q'=Q→wpAnyIn (Fence.wide.inRound l) n Tryz.prog .any ops' Q' ops.size (Array.replicate ops.size false) a w.drew):(Code.region id ops true).wpIn (Fence.wide.inRound l) n Tryz.prog Q a w:=
 wpIn_region_any (by kernel_rfl) (h ops Q rfl rfl)
theorem jw (i d:Nat) (v:Value) (w':World) {oi:Oper} {fuel:Nat} {listed:Array Bool} {a:Act} {w:World} {rs:List Nat} (hi:ops[i]?=some oi) (hd:oi.dst=some d) (hw:Region.wanted oi (yielded ops a.tmps)=true) (hn:∀ c,oi.op≠.defer c)
  (hx:(execOp a.eval oi).run Tryz.prog w=.ok (.value v) w') (h:wpAnyIn (Fence.wide.inRound l) n Tryz.prog .any ops Q fuel (listed.setIfInBounds i true) (a.put (some d) v) w')
  (hs:AllReadyIn (Fence.wide.inRound l) n Tryz.prog .any ops Q fuel listed a w rs):AllReadyIn (Fence.wide.inRound l) n Tryz.prog .any ops Q fuel listed a w (i::rs):=by
 refine AllReadyIn.cons hi (fun K hK=>?_) hs
 rw [if_pos hw]
 refine ⟨fun _ _=>trivial,?_⟩
 rw [Oper.semAt_plain _ _ _ hn,hx,Oper.uponIn_value,hd]
 exact hK _ _ h
theorem mV (i:Nat) (w':World) {oi:Oper} {fuel:Nat} {listed:Array Bool} {a:Act} {w:World} {rs:List Nat} (hi:ops[i]?=some oi) (hd:oi.dst=none) (hw:Region.wanted oi (yielded ops a.tmps)=true) (hn:∀ c,oi.op≠.defer c)
  (hx:(execOp a.eval oi).run Tryz.prog w=.ok .skip w') (h:wpAnyIn (Fence.wide.inRound l) n Tryz.prog .any ops Q fuel (listed.setIfInBounds i true) a w')
  (hs:AllReadyIn (Fence.wide.inRound l) n Tryz.prog .any ops Q fuel listed a w rs):AllReadyIn (Fence.wide.inRound l) n Tryz.prog .any ops Q fuel listed a w (i::rs):=by
 refine AllReadyIn.cons hi (fun K hK=>?_) hs
 rw [if_pos hw]
 refine ⟨fun _ _=>trivial,?_⟩
 rw [Oper.semAt_plain _ _ _ hn,hx,Oper.uponIn_skip,hd]
 exact hK _ _ h
end
theorem qw {F:Fence} {n:Nat} {ops:Array Oper} {rest:List Oper} {o:Oper} {a:Act} {w:World} {Q:Exit→Act→World→Prop} (v:Value) (w':World) (hg:o.guard=none)
  (he:(execOp a.eval o).run Tryz.prog w=.ok (.value v) w') (hn:∀ c,o.op≠.defer c) (ha:∀ f,o.about Tryz.prog w a.eval=some f→F.fn f) (h:wpListIn F n Tryz.prog ops Q rest (a.put o.dst v) w'):wpListIn F n Tryz.prog ops Q (o::rest) a w:=by
 refine wpListIn_plain hg fun K hK=>?_
 refine ⟨ha,?_⟩
 rw [Oper.semAt_plain _ _ _ hn,he,Oper.uponIn_value]
 exact hK _ _ h
theorem yR {F:Fence} {n:Nat} {ops:Array Oper} {rest:List Oper} {o:Oper} {a:Act} {w:World} {Q:Exit→Act→World→Prop} (w':World) (hg:o.guard=none)
  (he:(execOp a.eval o).run Tryz.prog w=.ok .skip w') (hn:∀ c,o.op≠.defer c) (ha:∀ f,o.about Tryz.prog w a.eval=some f→F.fn f) (h:wpListIn F n Tryz.prog ops Q rest (a.put o.dst undef) w'):wpListIn F n Tryz.prog ops Q (o::rest) a w:=by
 refine wpListIn_plain hg fun K hK=>?_
 refine ⟨ha,?_⟩
 rw [Oper.semAt_plain _ _ _ hn,he,Oper.uponIn_skip]
 exact hK _ _ h
section
variable {ops:Array Oper} {Q:Exit→Act→World→Prop} {n:Nat}
theorem storeI (i:Nat) (w':World) {oi:Oper} {fuel:Nat} {listed:Array Bool} {a:Act} {w:World} {rs:List Nat} (hi:ops[i]?=some oi) (hd:oi.dst=none) (hw:Region.wanted oi (yielded ops a.tmps)=true)
  (hx:(execOp a.eval oi).run Tryz.prog w=.ok .skip w') (h:wpAnyIn Fence.wide n Tryz.prog .any ops Q fuel (listed.setIfInBounds i true) a w')
  (hs:AllReadyIn Fence.wide n Tryz.prog .any ops Q fuel listed a w rs):AllReadyIn Fence.wide n Tryz.prog .any ops Q fuel listed a w (i::rs):=by
 refine AllReadyIn.cons hi (fun K hK=>?_) hs
 rw [if_pos hw]
 refine ⟨fun _ _=>trivial,?_⟩
 rw [show (Fence.wide).round=none from rfl,Oper.semAt_none,hx,Oper.uponIn_skip,hd]
 exact hK _ _ h
end
end Go.Proofs.YtjikkhbcbfpocaaGreatDoor
namespace Go.Proofs.YtjikkhbcbfpocaaGreatDoor
open Go.RowKit
end Go.Proofs.YtjikkhbcbfpocaaGreatDoor
