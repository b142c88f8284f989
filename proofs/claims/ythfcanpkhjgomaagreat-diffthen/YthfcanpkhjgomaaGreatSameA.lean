import Derived.Test.YthfcanpkhjgomaaGreatVt
import Derived.Test.YthfcanpkhjgomaaGreatSameV
import Derived.Test.YthfcanpkhjgomaaGreatGrowsI
set_option maxRecDepth 100000
set_option maxHeartbeats 2000000
namespace Go.Proofs.YthfcanpkhjgomaaGreat
open Go.RowKit Go.Shelf
attribute [local go_sem] Oper.semAt_some
abbrev KidIP (w0:World) (S:Kid→Prop):Type:={ x:Kid // AtT w0 x.p x.v x.m x.k∧S x }
abbrev kidsP {w0:World} {S:Kid→Prop} (ys:List (KidIP w0 S)):List Kid:=ys.map (·.1)
theorem pre3P {w0:World} {S:Kid→Prop} {ys qq:List (KidIP w0 S)} {x:KidIP w0 S} {ah be:K} {q:Nat} (hys:kidsP ys=ah.items) (hq:kidsP qq <+: be.items):kidsP (ys++x::qq) <+: (K.node q x.1.p x.1.nm x.1.v x.1.m x.1.k ah be).items:=by
 obtain ⟨t,ht⟩:=hq
 refine ⟨t,?_⟩
 rw [K.items,← hys,← ht]
 simp
theorem pre2P {w0:World} {S:Kid→Prop} {ys:List (KidIP w0 S)} {x:KidIP w0 S} {ah be:K} {q:Nat} (hys:kidsP ys=ah.items):kidsP (ys++[x]) <+: (K.node q x.1.p x.1.nm x.1.v x.1.m x.1.k ah be).items:=by
 refine ⟨be.items,?_⟩
 rw [K.items,← hys]
 simp
theorem each_inP (w0:World) (S:Kid→Prop) (l N:Nat) (J Jx:List (KidIP w0 S)→World→Prop) (hJD:∀ pre W,J pre W→J pre W.drew)
  (hY:∀ m pre (x:KidIP w0 S) W,J pre W→pre.length<N→YieldAt Fence.wide m Tryz.prog l #[.string x.1.nm,.pointer (some ⟨x.1.p,0,none⟩)] W fun e W'=>
   (e=.returned (.bool true)∧J (pre++[x]) W'∧Below w0.heap.size W W')∨(e=.returned (.bool false)∧Jx (pre++[x]) W')) (k:K):
  ∀ (n:Nat) (u:Value) (pre:List (KidIP w0 S)) (W:World),At w0 k u→(∀ x∈k.items,S x)→G w0 W→J pre W→pre.length+k.items.length≤N→
   CallsIn Fence.wide n Tryz.prog 90 #[u,.func (.yield l) #[] #[]] W fun e W'=>
    (e=.returned (.bool true)∧∃ ys,kidsP ys=k.items∧J (pre++ys) W'∧G w0 W')∨(e=.returned (.bool false)∧∃ q,kidsP q <+: k.items∧Jx (pre++q) W'):=by
 induction k with
 | nil=>
  intro n u pre W ht _ hG hJ _
  obtain rfl:u=.pointer none:=ht
  have HG:Hid (G w0 W.drew):=hG.trans (G.drew W)
  have HJ:Hid (J pre W.drew):=hJD pre W hJ
  refine callsIn_of_wp Tryz.func90 rfl trivial ?_ rfl
  simp only [Tryz.ntmps90,List.size_toArray,List.length_cons,List.length_nil,Nat.reduceAdd,Nat.reduceSub,Array.replicate_succ,Array.replicate_zero,List.push_toArray,List.append_toArray,List.nil_append,List.cons_append]
  gi_wp2
  refine wp_region_I ?_
  refine takeI 0 5 (.pointer none) rfl rfl (by kernel_rfl) (by kernel_rfl) (by kernel_rfl) (fun _ _ _ h=>h) (by kernel_rfl) (fun _=>rfl) (fun wz=>?_) ?_
  ·rfl
  try simp only [Act.put,sA,sB,sC]
  refine takeI 1 6 (.bool true) rfl rfl (by kernel_rfl) (by kernel_rfl) (by kernel_rfl) (fun _ _ _ h=>h) (by kernel_rfl) (fun _=>rfl) (fun wz=>?_) ?_
  ·go_simp
  try simp only [Act.put,sA,sB,sC]
  refine takeI 2 7 (.bool true) rfl rfl (by kernel_rfl) (by kernel_rfl) (by kernel_rfl) (fun _ _ _ h=>h) (by kernel_rfl) (fun _=>rfl) (fun wz=>?_) ?_
  ·rfl
  try simp only [Act.put,sA,sB,sC]
  refine skipI 3 8 rfl rfl (by kernel_rfl) (by kernel_rfl) (by kernel_rfl) (fun _ _ _ h=>h) (by kernel_rfl) (fun _=>rfl) ?_
  try simp only [Act.put,sA,sB,sC]
  refine skipI 4 9 rfl rfl (by kernel_rfl) (by kernel_rfl) (by kernel_rfl) (fun _ _ _ h=>h) (by kernel_rfl) (fun _=>rfl) ?_
  try simp only [Act.put,sA,sB,sC]
  refine skipI 5 10 rfl rfl (by kernel_rfl) (by kernel_rfl) (by kernel_rfl) (fun _ _ _ h=>h) (by kernel_rfl) (fun _=>rfl) ?_
  try simp only [Act.put,sA,sB,sC]
  refine skipI 6 11 rfl rfl (by kernel_rfl) (by kernel_rfl) (by kernel_rfl) (fun _ _ _ h=>h) (by kernel_rfl) (fun _=>rfl) ?_
  try simp only [Act.put,sA,sB,sC]
  refine skipI 7 12 rfl rfl (by kernel_rfl) (by kernel_rfl) (by kernel_rfl) (fun _ _ _ h=>h) (by kernel_rfl) (fun _=>rfl) ?_
  try simp only [Act.put,sA,sB,sC]
  refine wpAnyIn_ready (rs:=[8]) (by kernel_rfl) (by simp) ?_
  refine skipCallI 8 13 rfl rfl (by kernel_rfl) ?_ AllReadyIn.nil
  try simp only [Act.put,sA,sB,sC]
  refine skipI 9 14 rfl rfl (by kernel_rfl) (by kernel_rfl) (by kernel_rfl) (fun _ _ _ h=>h) (by kernel_rfl) (fun _=>rfl) ?_
  try simp only [Act.put,sA,sB,sC]
  refine skipI 10 15 rfl rfl (by kernel_rfl) (by kernel_rfl) (by kernel_rfl) (fun _ _ _ h=>h) (by kernel_rfl) (fun _=>rfl) ?_
  try simp only [Act.put,sA,sB,sC]
  refine skipI 11 16 rfl rfl (by kernel_rfl) (by kernel_rfl) (by kernel_rfl) (fun _ _ _ h=>h) (by kernel_rfl) (fun _=>rfl) ?_
  try simp only [Act.put,sA,sB,sC]
  refine skipI 12 17 rfl rfl (by kernel_rfl) (by kernel_rfl) (by kernel_rfl) (fun _ _ _ h=>h) (by kernel_rfl) (fun _=>rfl) ?_
  try simp only [Act.put,sA,sB,sC]
  refine skipI 13 18 rfl rfl (by kernel_rfl) (by kernel_rfl) (by kernel_rfl) (fun _ _ _ h=>h) (by kernel_rfl) (fun _=>rfl) ?_
  try simp only [Act.put,sA,sB,sC]
  refine skipI 14 19 rfl rfl (by kernel_rfl) (by kernel_rfl) (by kernel_rfl) (fun _ _ _ h=>h) (by kernel_rfl) (fun _=>rfl) ?_
  try simp only [Act.put,sA,sB,sC]
  refine skipI 15 20 rfl rfl (by kernel_rfl) (by kernel_rfl) (by kernel_rfl) (fun _ _ _ h=>h) (by kernel_rfl) (fun _=>rfl) ?_
  try simp only [Act.put,sA,sB,sC]
  refine skipI 16 21 rfl rfl (by kernel_rfl) (by kernel_rfl) (by kernel_rfl) (fun _ _ _ h=>h) (by kernel_rfl) (fun _=>rfl) ?_
  try simp only [Act.put,sA,sB,sC]
  refine skipI 17 22 rfl rfl (by kernel_rfl) (by kernel_rfl) (by kernel_rfl) (fun _ _ _ h=>h) (by kernel_rfl) (fun _=>rfl) ?_
  try simp only [Act.put,sA,sB,sC]
  refine skipI 18 23 rfl rfl (by kernel_rfl) (by kernel_rfl) (by kernel_rfl) (fun _ _ _ h=>h) (by kernel_rfl) (fun _=>rfl) ?_
  try simp only [Act.put,sA,sB,sC]
  refine skipI 19 24 rfl rfl (by kernel_rfl) (by kernel_rfl) (by kernel_rfl) (fun _ _ _ h=>h) (by kernel_rfl) (fun _=>rfl) ?_
  try simp only [Act.put,sA,sB,sC]
  refine skipI 20 25 rfl rfl (by kernel_rfl) (by kernel_rfl) (by kernel_rfl) (fun _ _ _ h=>h) (by kernel_rfl) (fun _=>rfl) ?_
  try simp only [Act.put,sA,sB,sC]
  refine wpAnyIn_ready (rs:=[21]) (by kernel_rfl) (by simp) ?_
  refine skipCallI 21 26 rfl rfl (by kernel_rfl) ?_ AllReadyIn.nil
  try simp only [Act.put,sA,sB,sC]
  refine skipI 22 27 rfl rfl (by kernel_rfl) (by kernel_rfl) (by kernel_rfl) (fun _ _ _ h=>h) (by kernel_rfl) (fun _=>rfl) ?_
  try simp only [Act.put,sA,sB,sC]
  refine skipI 23 28 rfl rfl (by kernel_rfl) (by kernel_rfl) (by kernel_rfl) (fun _ _ _ h=>h) (by kernel_rfl) (fun _=>rfl) ?_
  try simp only [Act.put,sA,sB,sC]
  refine skipI 24 29 rfl rfl (by kernel_rfl) (by kernel_rfl) (by kernel_rfl) (fun _ _ _ h=>h) (by kernel_rfl) (fun _=>rfl) ?_
  try simp only [Act.put,sA,sB,sC]
  refine skipI 25 30 rfl rfl (by kernel_rfl) (by kernel_rfl) (by kernel_rfl) (fun _ _ _ h=>h) (by kernel_rfl) (fun _=>rfl) ?_
  try simp only [Act.put,sA,sB,sC]
  refine skipI 26 31 rfl rfl (by kernel_rfl) (by kernel_rfl) (by kernel_rfl) (fun _ _ _ h=>h) (by kernel_rfl) (fun _=>rfl) ?_
  try simp only [Act.put,sA,sB,sC]
  refine skipI 27 32 rfl rfl (by kernel_rfl) (by kernel_rfl) (by kernel_rfl) (fun _ _ _ h=>h) (by kernel_rfl) (fun _=>rfl) ?_
  try simp only [Act.put,sA,sB,sC]
  refine skipI 28 33 rfl rfl (by kernel_rfl) (by kernel_rfl) (by kernel_rfl) (fun _ _ _ h=>h) (by kernel_rfl) (fun _=>rfl) ?_
  try simp only [Act.put,sA,sB,sC]
  refine wpAnyIn_ready (rs:=[29]) (by kernel_rfl) (by simp) ?_
  refine skipCallI 29 34 rfl rfl (by kernel_rfl) ?_ AllReadyIn.nil
  try simp only [Act.put,sA,sB,sC]
  refine skipI 30 35 rfl rfl (by kernel_rfl) (by kernel_rfl) (by kernel_rfl) (fun _ _ _ h=>h) (by kernel_rfl) (fun _=>rfl) ?_
  try simp only [Act.put,sA,sB,sC]
  refine takeI 31 36 (.bool true) rfl rfl (by kernel_rfl) (by kernel_rfl) (by kernel_rfl) (fun _ _ _ h=>h) (by kernel_rfl) (fun _=>rfl) (fun wz=>?_) ?_
  ·go_simp
  try simp only [Act.put,sA,sB,sC]
  refine takeI 32 4 (.bool true) rfl rfl (by kernel_rfl) (by kernel_rfl) (by kernel_rfl) (fun _ _ _ h=>h) (by kernel_rfl) (fun _=>rfl) (fun wz=>?_) ?_
  ·rfl
  try simp only [Act.put,sA,sB,sC]
  refine wpAnyIn_done (by kernel_rfl) ?_ _
  gi_wp2
  go_ret
  exact .inl ⟨rfl,[],rfl,by simpa using HJ.out,HG.out⟩
 | node q p nm v m kk ah be ihk iha ihb=>
  intro n u pre W ht hS hG hJ hN
  obtain ⟨rfl,pk,pa,pb,⟨h2,h3⟩,hk,ha,hb⟩:=ht
  have c0:=lies_cell h2 0 (.string nm) rfl
  have c1:=lies_cell h2 1 (.pointer (some ⟨p,0,none⟩)) rfl
  have c2:=lies_cell h2 2 pa rfl
  have c3:=lies_cell h2 3 pb rfl
  have hN':pre.length+(ah.items.length+(be.items.length+1))≤N:=by simpa [K.items] using hN
  have HX:Hid (AtT w0 p v m kk∧S ⟨nm,p,v,m,kk⟩):=⟨⟨pk,h3,hk⟩,hS _ (by simp [K.items])⟩
  obtain ⟨aa,rfl⟩:=ha.form
  obtain ⟨ab,rfl⟩:=hb.form
  generalize hpa:(Value.pointer aa)=pa at *
  generalize hpb:(Value.pointer ab)=pb at *
  have HG0:Hid (G w0 W.drew):=hG.trans (G.drew W)
  have HJ0:Hid (J pre W.drew):=hJD pre W hJ
  have IA:=hid (fun (n:Nat) (W:World) (hG:G w0 W) (hJ:J pre W)=>iha n pa pre W ha (fun x hx=>hS x (by simp [K.items,hx])) hG hJ (by omega))
  have IB:=hid (fun (n:Nat) (W:World) (pre':List (KidIP w0 S)) (hG:G w0 W) (hJ:J pre' W) (hN:pre'.length+be.items.length≤N)=>ihb n pb pre' W hb (fun x hx=>hS x (by simp [K.items,hx])) hG hJ hN)
  have HY:=hid (fun (W:World) (ys:List (KidIP w0 S)) (hJ:J (pre++ys) W) (hys:kidsP ys=ah.items)=>hY (n-1) (pre++ys) ⟨⟨nm,p,v,m,kk⟩,HX.out⟩ W hJ (by have:=congrArg List.length hys;simp at this;simp;omega))
  clear ihk iha ihb hk ha hb h2 h3 hN hS
  rw [← hpa] at c2
  rw [← hpb] at c3
  rw [hpa] at c2
  rw [hpb] at c3
  refine callsIn_of_wp Tryz.func90 rfl trivial ?_ rfl
  simp only [Tryz.ntmps90,List.size_toArray,List.length_cons,List.length_nil,Nat.reduceAdd,Nat.reduceSub,Array.replicate_succ,Array.replicate_zero,List.push_toArray,List.append_toArray,List.nil_append,List.cons_append]
  gi_wp2
  refine wp_region_I ?_
  have HG:=HG0
  have HJ:=HJ0
  generalize W.drew=W2 at *
  subst hpa hpb
  refine takeI 0 5 (.pointer (some ⟨q,0,none⟩)) rfl rfl (by kernel_rfl) (by kernel_rfl) (by kernel_rfl) (fun _ _ _ h=>h) (by kernel_rfl) (fun _=>rfl) (fun wz=>?_) ?_
  ·rfl
  try simp only [Act.put,sA,sB,sC]
  refine takeI 1 6 (.bool false) rfl rfl (by kernel_rfl) (by kernel_rfl) (by kernel_rfl) (fun _ _ _ h=>h) (by kernel_rfl) (fun _=>rfl) (fun wz=>?_) ?_
  ·go_simp
  try simp only [Act.put,sA,sB,sC]
  refine takeI 2 7 (.bool false) rfl rfl (by kernel_rfl) (by kernel_rfl) (by kernel_rfl) (fun _ _ _ h=>h) (by kernel_rfl) (fun _=>rfl) (fun wz=>?_) ?_
  ·rfl
  try simp only [Act.put,sA,sB,sC]
  refine takeI 3 8 (.pointer (some ⟨q,0,none⟩)) rfl rfl (by kernel_rfl) (by kernel_rfl) (by kernel_rfl) (fun _ _ _ h=>h) (by kernel_rfl) (fun _=>rfl) (fun wz=>?_) ?_
  ·rfl
  try simp only [Act.put,sA,sB,sC]
  refine takeI 4 9 (.pointer (some ⟨q,0,none⟩)) rfl rfl (by kernel_rfl) (by kernel_rfl) (by kernel_rfl) (fun _ _ _ h=>h) (by kernel_rfl) (fun _=>rfl) (fun wz=>?_) ?_
  ·go_simp
  try simp only [Act.put,sA,sB,sC]
  refine takeI 5 10 (.pointer (some ⟨q,2,none⟩)) rfl rfl (by kernel_rfl) (by kernel_rfl) (by kernel_rfl) (fun _ _ _ h=>h) (by kernel_rfl) (fun _=>rfl) (fun wz=>?_) ?_
  ·go_simp
  try simp only [Act.put,sA,sB,sC]
  refine takeI 7 12 (.func (.yield l) #[] #[]) rfl rfl (by kernel_rfl) (by kernel_rfl) (by kernel_rfl) (fun _ _ _ h=>h) (by kernel_rfl) (fun _=>rfl) (fun wz=>?_) ?_
  ·rfl
  try simp only [Act.put,sA,sB,sC]
  refine wpAnyIn_ready (rs:=[6]) (by kernel_rfl) (by simp) ?_
  refine valueI 6 11 (.pointer aa) W2 rfl rfl (by kernel_rfl) (by have y:=HG.out.cell c2;go_simp) ?_ AllReadyIn.nil
  try simp only [Act.put,sA,sB,sC]
  refine wpAnyIn_ready (rs:=[8]) (by kernel_rfl) (by simp) ?_
  refine callI 8 13 90 #[.pointer aa,.func (.yield l) #[] #[]] rfl rfl (by kernel_rfl) (by go_simp) ((IA.out (n-1) W2 HG.out HJ.out).mono ?_) AllReadyIn.nil
  rintro e W3 (⟨rfl,ys,hys,hJ3,hG3⟩ | ⟨rfl,qq,hqq,hx3⟩)
  ·have HG3:Hid (G w0 W3):=hG3
   refine ⟨_,rfl,?_⟩
   try simp only [Act.put,sA,sB,sC]
   refine takeI 9 14 (.bool true) rfl rfl (by kernel_rfl) (by kernel_rfl) (by kernel_rfl) (fun _ _ _ h=>h) (by kernel_rfl) (fun _=>rfl) (fun wz=>?_) ?_
   ·rfl
   try simp only [Act.put,sA,sB,sC]
   refine takeI 10 15 (.func (.yield l) #[] #[]) rfl rfl (by kernel_rfl) (by kernel_rfl) (by kernel_rfl) (fun _ _ _ h=>h) (by kernel_rfl) (fun _=>rfl) (fun wz=>?_) ?_
   ·rfl
   try simp only [Act.put,sA,sB,sC]
   refine takeI 11 16 (.pointer (some ⟨q,0,none⟩)) rfl rfl (by kernel_rfl) (by kernel_rfl) (by kernel_rfl) (fun _ _ _ h=>h) (by kernel_rfl) (fun _=>rfl) (fun wz=>?_) ?_
   ·rfl
   try simp only [Act.put,sA,sB,sC]
   refine takeI 12 17 (.pointer (some ⟨q,0,none⟩)) rfl rfl (by kernel_rfl) (by kernel_rfl) (by kernel_rfl) (fun _ _ _ h=>h) (by kernel_rfl) (fun _=>rfl) (fun wz=>?_) ?_
   ·go_simp
   try simp only [Act.put,sA,sB,sC]
   refine takeI 13 18 (.pointer (some ⟨q,0,none⟩)) rfl rfl (by kernel_rfl) (by kernel_rfl) (by kernel_rfl) (fun _ _ _ h=>h) (by kernel_rfl) (fun _=>rfl) (fun wz=>?_) ?_
   ·go_simp
   try simp only [Act.put,sA,sB,sC]
   refine takeI 14 19 (.pointer (some ⟨q,0,none⟩)) rfl rfl (by kernel_rfl) (by kernel_rfl) (by kernel_rfl) (fun _ _ _ h=>h) (by kernel_rfl) (fun _=>rfl) (fun wz=>?_) ?_
   ·go_simp
   try simp only [Act.put,sA,sB,sC]
   refine takeI 16 21 (.pointer (some ⟨q,0,none⟩)) rfl rfl (by kernel_rfl) (by kernel_rfl) (by kernel_rfl) (fun _ _ _ h=>h) (by kernel_rfl) (fun _=>rfl) (fun wz=>?_) ?_
   ·rfl
   try simp only [Act.put,sA,sB,sC]
   refine takeI 17 22 (.pointer (some ⟨q,0,none⟩)) rfl rfl (by kernel_rfl) (by kernel_rfl) (by kernel_rfl) (fun _ _ _ h=>h) (by kernel_rfl) (fun _=>rfl) (fun wz=>?_) ?_
   ·go_simp
   try simp only [Act.put,sA,sB,sC]
   refine takeI 18 23 (.pointer (some ⟨q,0,none⟩)) rfl rfl (by kernel_rfl) (by kernel_rfl) (by kernel_rfl) (fun _ _ _ h=>h) (by kernel_rfl) (fun _=>rfl) (fun wz=>?_) ?_
   ·go_simp
   try simp only [Act.put,sA,sB,sC]
   refine takeI 19 24 (.pointer (some ⟨q,1,none⟩)) rfl rfl (by kernel_rfl) (by kernel_rfl) (by kernel_rfl) (fun _ _ _ h=>h) (by kernel_rfl) (fun _=>rfl) (fun wz=>?_) ?_
   ·go_simp
   try simp only [Act.put,sA,sB,sC]
   refine wpAnyIn_ready (rs:=[15,20]) (by kernel_rfl) (by simp) ?_
   refine valueI 15 20 (.string nm) W3 rfl rfl (by kernel_rfl) (by have y:=HG3.out.cell c0;go_simp) ?_ (valueI 20 25 (.pointer (some ⟨p,0,none⟩)) W3 rfl rfl (by kernel_rfl) (by have y:=HG3.out.cell c1;go_simp) ?_ AllReadyIn.nil)
   all_goals try simp only [Act.put,sA,sB,sC]
   ·refine wpAnyIn_ready (rs:=[20]) (by kernel_rfl) (by simp) ?_
    refine valueI 20 25 (.pointer (some ⟨p,0,none⟩)) W3 rfl rfl (by kernel_rfl) (by have y:=HG3.out.cell c1;go_simp) ?_ AllReadyIn.nil
    try simp only [Act.put,sA,sB,sC]
    obtain ⟨fn,tmps,assign,body,hy,hR⟩:=HY.out W3 ys hJ3 hys
    try dsimp only at hy
    refine wpAnyIn_ready (rs:=[21]) (by kernel_rfl) (by simp) ?_
    refine roundI 21 26 l fn tmps assign body rfl rfl (by kernel_rfl) (by go_simp) (hR.mono ?_) AllReadyIn.nil
    clear hy hR
    rintro e W4 (⟨rfl,hJ4,hB4⟩ | ⟨rfl,hx4⟩)
    ·refine ⟨_,rfl,?_⟩
     try simp only [Act.put,sA,sB,sC]
     have hG4:G w0 W4:=HG3.out.trans' hB4
     refine takeI 22 27 (.bool true) rfl rfl (by kernel_rfl) (by kernel_rfl) (by kernel_rfl) (fun _ _ _ h=>h) (by kernel_rfl) (fun _=>rfl) (fun wz=>?_) ?_
     ·go_simp
     try simp only [Act.put,sA,sB,sC]
     refine takeI 23 28 (.bool true) rfl rfl (by kernel_rfl) (by kernel_rfl) (by kernel_rfl) (fun _ _ _ h=>h) (by kernel_rfl) (fun _=>rfl) (fun wz=>?_) ?_
     ·rfl
     try simp only [Act.put,sA,sB,sC]
     refine takeI 24 29 (.pointer (some ⟨q,0,none⟩)) rfl rfl (by kernel_rfl) (by kernel_rfl) (by kernel_rfl) (fun _ _ _ h=>h) (by kernel_rfl) (fun _=>rfl) (fun wz=>?_) ?_
     ·rfl
     try simp only [Act.put,sA,sB,sC]
     refine takeI 25 30 (.pointer (some ⟨q,0,none⟩)) rfl rfl (by kernel_rfl) (by kernel_rfl) (by kernel_rfl) (fun _ _ _ h=>h) (by kernel_rfl) (fun _=>rfl) (fun wz=>?_) ?_
     ·go_simp
     try simp only [Act.put,sA,sB,sC]
     refine takeI 26 31 (.pointer (some ⟨q,3,none⟩)) rfl rfl (by kernel_rfl) (by kernel_rfl) (by kernel_rfl) (fun _ _ _ h=>h) (by kernel_rfl) (fun _=>rfl) (fun wz=>?_) ?_
     ·go_simp
     try simp only [Act.put,sA,sB,sC]
     refine takeI 28 33 (.func (.yield l) #[] #[]) rfl rfl (by kernel_rfl) (by kernel_rfl) (by kernel_rfl) (fun _ _ _ h=>h) (by kernel_rfl) (fun _=>rfl) (fun wz=>?_) ?_
     ·rfl
     try simp only [Act.put,sA,sB,sC]
     refine wpAnyIn_ready (rs:=[27]) (by kernel_rfl) (by simp) ?_
     refine valueI 27 32 (.pointer ab) W4 rfl rfl (by kernel_rfl) (by have y:=hG4.cell c3;go_simp) ?_ AllReadyIn.nil
     try simp only [Act.put,sA,sB,sC]
     refine wpAnyIn_ready (rs:=[29]) (by kernel_rfl) (by simp) ?_
     refine callI 29 34 90 #[.pointer ab,.func (.yield l) #[] #[]] rfl rfl (by kernel_rfl) (by go_simp) ((IB.out (n-1) W4 _ hG4 hJ4 (by simp;have:=congrArg List.length hys;simp at this;omega)).mono ?_) AllReadyIn.nil
     rintro e W5 (⟨rfl,zs,hzs,hJ5,hG5⟩ | ⟨rfl,qq,hqq,hx5⟩)
     ·refine ⟨_,rfl,?_⟩
      try simp only [Act.put,sA,sB,sC]
      refine takeI 30 35 (.bool true) rfl rfl (by kernel_rfl) (by kernel_rfl) (by kernel_rfl) (fun _ _ _ h=>h) (by kernel_rfl) (fun _=>rfl) (fun wz=>?_) ?_
      ·go_simp
      try simp only [Act.put,sA,sB,sC]
      refine takeI 31 36 (.bool true) rfl rfl (by kernel_rfl) (by kernel_rfl) (by kernel_rfl) (fun _ _ _ h=>h) (by kernel_rfl) (fun _=>rfl) (fun wz=>?_) ?_
      ·go_simp
      try simp only [Act.put,sA,sB,sC]
      refine takeI 32 4 (.bool true) rfl rfl (by kernel_rfl) (by kernel_rfl) (by kernel_rfl) (fun _ _ _ h=>h) (by kernel_rfl) (fun _=>rfl) (fun wz=>?_) ?_
      ·rfl
      try simp only [Act.put,sA,sB,sC]
      refine wpAnyIn_done (by kernel_rfl) ?_ _
      gi_wp2
      go_ret
      exact .inl ⟨rfl,ys++⟨⟨nm,p,v,m,kk⟩,HX.out⟩::zs,by simp [kidsP,K.items,hys,hzs] ,by simpa using hJ5,hG5⟩
     ·refine ⟨_,rfl,?_⟩
      try simp only [Act.put,sA,sB,sC]
      refine takeI 30 35 (.bool false) rfl rfl (by kernel_rfl) (by kernel_rfl) (by kernel_rfl) (fun _ _ _ h=>h) (by kernel_rfl) (fun _=>rfl) (fun wz=>?_) ?_
      ·go_simp
      try simp only [Act.put,sA,sB,sC]
      refine takeI 31 36 (.bool false) rfl rfl (by kernel_rfl) (by kernel_rfl) (by kernel_rfl) (fun _ _ _ h=>h) (by kernel_rfl) (fun _=>rfl) (fun wz=>?_) ?_
      ·go_simp
      try simp only [Act.put,sA,sB,sC]
      refine takeI 32 4 (.bool false) rfl rfl (by kernel_rfl) (by kernel_rfl) (by kernel_rfl) (fun _ _ _ h=>h) (by kernel_rfl) (fun _=>rfl) (fun wz=>?_) ?_
      ·rfl
      try simp only [Act.put,sA,sB,sC]
      refine wpAnyIn_done (by kernel_rfl) ?_ _
      gi_wp2
      go_ret
      exact .inr ⟨rfl,ys++⟨⟨nm,p,v,m,kk⟩,HX.out⟩::qq,pre3P hys hqq,by simpa using hx5⟩
    ·refine ⟨_,rfl,?_⟩
     try simp only [Act.put,sA,sB,sC]
     refine takeI 22 27 (.bool false) rfl rfl (by kernel_rfl) (by kernel_rfl) (by kernel_rfl) (fun _ _ _ h=>h) (by kernel_rfl) (fun _=>rfl) (fun wz=>?_) ?_
     ·go_simp
     try simp only [Act.put,sA,sB,sC]
     refine takeI 23 28 (.bool false) rfl rfl (by kernel_rfl) (by kernel_rfl) (by kernel_rfl) (fun _ _ _ h=>h) (by kernel_rfl) (fun _=>rfl) (fun wz=>?_) ?_
     ·rfl
     try simp only [Act.put,sA,sB,sC]
     refine skipI 24 29 rfl rfl (by kernel_rfl) (by kernel_rfl) (by kernel_rfl) (fun _ _ _ h=>h) (by kernel_rfl) (fun _=>rfl) ?_
     try simp only [Act.put,sA,sB,sC]
     refine skipI 25 30 rfl rfl (by kernel_rfl) (by kernel_rfl) (by kernel_rfl) (fun _ _ _ h=>h) (by kernel_rfl) (fun _=>rfl) ?_
     try simp only [Act.put,sA,sB,sC]
     refine skipI 26 31 rfl rfl (by kernel_rfl) (by kernel_rfl) (by kernel_rfl) (fun _ _ _ h=>h) (by kernel_rfl) (fun _=>rfl) ?_
     try simp only [Act.put,sA,sB,sC]
     refine skipI 27 32 rfl rfl (by kernel_rfl) (by kernel_rfl) (by kernel_rfl) (fun _ _ _ h=>h) (by kernel_rfl) (fun _=>rfl) ?_
     try simp only [Act.put,sA,sB,sC]
     refine skipI 28 33 rfl rfl (by kernel_rfl) (by kernel_rfl) (by kernel_rfl) (fun _ _ _ h=>h) (by kernel_rfl) (fun _=>rfl) ?_
     try simp only [Act.put,sA,sB,sC]
     refine wpAnyIn_ready (rs:=[29]) (by kernel_rfl) (by simp) ?_
     refine skipCallI 29 34 rfl rfl (by kernel_rfl) ?_ AllReadyIn.nil
     try simp only [Act.put,sA,sB,sC]
     refine takeI 30 35 (.bool false) rfl rfl (by kernel_rfl) (by kernel_rfl) (by kernel_rfl) (fun _ _ _ h=>h) (by kernel_rfl) (fun _=>rfl) (fun wz=>?_) ?_
     ·go_simp
     try simp only [Act.put,sA,sB,sC]
     refine takeI 31 36 (.bool false) rfl rfl (by kernel_rfl) (by kernel_rfl) (by kernel_rfl) (fun _ _ _ h=>h) (by kernel_rfl) (fun _=>rfl) (fun wz=>?_) ?_
     ·go_simp
     try simp only [Act.put,sA,sB,sC]
     refine takeI 32 4 (.bool false) rfl rfl (by kernel_rfl) (by kernel_rfl) (by kernel_rfl) (fun _ _ _ h=>h) (by kernel_rfl) (fun _=>rfl) (fun wz=>?_) ?_
     ·rfl
     try simp only [Act.put,sA,sB,sC]
     refine wpAnyIn_done (by kernel_rfl) ?_ _
     gi_wp2
     go_ret
     exact .inr ⟨rfl,ys++[⟨⟨nm,p,v,m,kk⟩,HX.out⟩],pre2P hys,by simpa using hx4⟩
   ·refine wpAnyIn_ready (rs:=[15]) (by kernel_rfl) (by simp) ?_
    refine valueI 15 20 (.string nm) W3 rfl rfl (by kernel_rfl) (by have y:=HG3.out.cell c0;go_simp) ?_ AllReadyIn.nil
    try simp only [Act.put,sA,sB,sC]
    obtain ⟨fn,tmps,assign,body,hy,hR⟩:=HY.out W3 ys hJ3 hys
    try dsimp only at hy
    refine wpAnyIn_ready (rs:=[21]) (by kernel_rfl) (by simp) ?_
    refine roundI 21 26 l fn tmps assign body rfl rfl (by kernel_rfl) (by go_simp) (hR.mono ?_) AllReadyIn.nil
    clear hy hR
    rintro e W4 (⟨rfl,hJ4,hB4⟩ | ⟨rfl,hx4⟩)
    ·refine ⟨_,rfl,?_⟩
     try simp only [Act.put,sA,sB,sC]
     have hG4:G w0 W4:=HG3.out.trans' hB4
     refine takeI 22 27 (.bool true) rfl rfl (by kernel_rfl) (by kernel_rfl) (by kernel_rfl) (fun _ _ _ h=>h) (by kernel_rfl) (fun _=>rfl) (fun wz=>?_) ?_
     ·go_simp
     try simp only [Act.put,sA,sB,sC]
     refine takeI 23 28 (.bool true) rfl rfl (by kernel_rfl) (by kernel_rfl) (by kernel_rfl) (fun _ _ _ h=>h) (by kernel_rfl) (fun _=>rfl) (fun wz=>?_) ?_
     ·rfl
     try simp only [Act.put,sA,sB,sC]
     refine takeI 24 29 (.pointer (some ⟨q,0,none⟩)) rfl rfl (by kernel_rfl) (by kernel_rfl) (by kernel_rfl) (fun _ _ _ h=>h) (by kernel_rfl) (fun _=>rfl) (fun wz=>?_) ?_
     ·rfl
     try simp only [Act.put,sA,sB,sC]
     refine takeI 25 30 (.pointer (some ⟨q,0,none⟩)) rfl rfl (by kernel_rfl) (by kernel_rfl) (by kernel_rfl) (fun _ _ _ h=>h) (by kernel_rfl) (fun _=>rfl) (fun wz=>?_) ?_
     ·go_simp
     try simp only [Act.put,sA,sB,sC]
     refine takeI 26 31 (.pointer (some ⟨q,3,none⟩)) rfl rfl (by kernel_rfl) (by kernel_rfl) (by kernel_rfl) (fun _ _ _ h=>h) (by kernel_rfl) (fun _=>rfl) (fun wz=>?_) ?_
     ·go_simp
     try simp only [Act.put,sA,sB,sC]
     refine takeI 28 33 (.func (.yield l) #[] #[]) rfl rfl (by kernel_rfl) (by kernel_rfl) (by kernel_rfl) (fun _ _ _ h=>h) (by kernel_rfl) (fun _=>rfl) (fun wz=>?_) ?_
     ·rfl
     try simp only [Act.put,sA,sB,sC]
     refine wpAnyIn_ready (rs:=[27]) (by kernel_rfl) (by simp) ?_
     refine valueI 27 32 (.pointer ab) W4 rfl rfl (by kernel_rfl) (by have y:=hG4.cell c3;go_simp) ?_ AllReadyIn.nil
     try simp only [Act.put,sA,sB,sC]
     refine wpAnyIn_ready (rs:=[29]) (by kernel_rfl) (by simp) ?_
     refine callI 29 34 90 #[.pointer ab,.func (.yield l) #[] #[]] rfl rfl (by kernel_rfl) (by go_simp) ((IB.out (n-1) W4 _ hG4 hJ4 (by simp;have:=congrArg List.length hys;simp at this;omega)).mono ?_) AllReadyIn.nil
     rintro e W5 (⟨rfl,zs,hzs,hJ5,hG5⟩ | ⟨rfl,qq,hqq,hx5⟩)
     ·refine ⟨_,rfl,?_⟩
      try simp only [Act.put,sA,sB,sC]
      refine takeI 30 35 (.bool true) rfl rfl (by kernel_rfl) (by kernel_rfl) (by kernel_rfl) (fun _ _ _ h=>h) (by kernel_rfl) (fun _=>rfl) (fun wz=>?_) ?_
      ·go_simp
      try simp only [Act.put,sA,sB,sC]
      refine takeI 31 36 (.bool true) rfl rfl (by kernel_rfl) (by kernel_rfl) (by kernel_rfl) (fun _ _ _ h=>h) (by kernel_rfl) (fun _=>rfl) (fun wz=>?_) ?_
      ·go_simp
      try simp only [Act.put,sA,sB,sC]
      refine takeI 32 4 (.bool true) rfl rfl (by kernel_rfl) (by kernel_rfl) (by kernel_rfl) (fun _ _ _ h=>h) (by kernel_rfl) (fun _=>rfl) (fun wz=>?_) ?_
      ·rfl
      try simp only [Act.put,sA,sB,sC]
      refine wpAnyIn_done (by kernel_rfl) ?_ _
      gi_wp2
      go_ret
      exact .inl ⟨rfl,ys++⟨⟨nm,p,v,m,kk⟩,HX.out⟩::zs,by simp [kidsP,K.items,hys,hzs] ,by simpa using hJ5,hG5⟩
     ·refine ⟨_,rfl,?_⟩
      try simp only [Act.put,sA,sB,sC]
      refine takeI 30 35 (.bool false) rfl rfl (by kernel_rfl) (by kernel_rfl) (by kernel_rfl) (fun _ _ _ h=>h) (by kernel_rfl) (fun _=>rfl) (fun wz=>?_) ?_
      ·go_simp
      try simp only [Act.put,sA,sB,sC]
      refine takeI 31 36 (.bool false) rfl rfl (by kernel_rfl) (by kernel_rfl) (by kernel_rfl) (fun _ _ _ h=>h) (by kernel_rfl) (fun _=>rfl) (fun wz=>?_) ?_
      ·go_simp
      try simp only [Act.put,sA,sB,sC]
      refine takeI 32 4 (.bool false) rfl rfl (by kernel_rfl) (by kernel_rfl) (by kernel_rfl) (fun _ _ _ h=>h) (by kernel_rfl) (fun _=>rfl) (fun wz=>?_) ?_
      ·rfl
      try simp only [Act.put,sA,sB,sC]
      refine wpAnyIn_done (by kernel_rfl) ?_ _
      gi_wp2
      go_ret
      exact .inr ⟨rfl,ys++⟨⟨nm,p,v,m,kk⟩,HX.out⟩::qq,pre3P hys hqq,by simpa using hx5⟩
    ·refine ⟨_,rfl,?_⟩
     try simp only [Act.put,sA,sB,sC]
     refine takeI 22 27 (.bool false) rfl rfl (by kernel_rfl) (by kernel_rfl) (by kernel_rfl) (fun _ _ _ h=>h) (by kernel_rfl) (fun _=>rfl) (fun wz=>?_) ?_
     ·go_simp
     try simp only [Act.put,sA,sB,sC]
     refine takeI 23 28 (.bool false) rfl rfl (by kernel_rfl) (by kernel_rfl) (by kernel_rfl) (fun _ _ _ h=>h) (by kernel_rfl) (fun _=>rfl) (fun wz=>?_) ?_
     ·rfl
     try simp only [Act.put,sA,sB,sC]
     refine skipI 24 29 rfl rfl (by kernel_rfl) (by kernel_rfl) (by kernel_rfl) (fun _ _ _ h=>h) (by kernel_rfl) (fun _=>rfl) ?_
     try simp only [Act.put,sA,sB,sC]
     refine skipI 25 30 rfl rfl (by kernel_rfl) (by kernel_rfl) (by kernel_rfl) (fun _ _ _ h=>h) (by kernel_rfl) (fun _=>rfl) ?_
     try simp only [Act.put,sA,sB,sC]
     refine skipI 26 31 rfl rfl (by kernel_rfl) (by kernel_rfl) (by kernel_rfl) (fun _ _ _ h=>h) (by kernel_rfl) (fun _=>rfl) ?_
     try simp only [Act.put,sA,sB,sC]
     refine skipI 27 32 rfl rfl (by kernel_rfl) (by kernel_rfl) (by kernel_rfl) (fun _ _ _ h=>h) (by kernel_rfl) (fun _=>rfl) ?_
     try simp only [Act.put,sA,sB,sC]
     refine skipI 28 33 rfl rfl (by kernel_rfl) (by kernel_rfl) (by kernel_rfl) (fun _ _ _ h=>h) (by kernel_rfl) (fun _=>rfl) ?_
     try simp only [Act.put,sA,sB,sC]
     refine wpAnyIn_ready (rs:=[29]) (by kernel_rfl) (by simp) ?_
     refine skipCallI 29 34 rfl rfl (by kernel_rfl) ?_ AllReadyIn.nil
     try simp only [Act.put,sA,sB,sC]
     refine takeI 30 35 (.bool false) rfl rfl (by kernel_rfl) (by kernel_rfl) (by kernel_rfl) (fun _ _ _ h=>h) (by kernel_rfl) (fun _=>rfl) (fun wz=>?_) ?_
     ·go_simp
     try simp only [Act.put,sA,sB,sC]
     refine takeI 31 36 (.bool false) rfl rfl (by kernel_rfl) (by kernel_rfl) (by kernel_rfl) (fun _ _ _ h=>h) (by kernel_rfl) (fun _=>rfl) (fun wz=>?_) ?_
     ·go_simp
     try simp only [Act.put,sA,sB,sC]
     refine takeI 32 4 (.bool false) rfl rfl (by kernel_rfl) (by kernel_rfl) (by kernel_rfl) (fun _ _ _ h=>h) (by kernel_rfl) (fun _=>rfl) (fun wz=>?_) ?_
     ·rfl
     try simp only [Act.put,sA,sB,sC]
     refine wpAnyIn_done (by kernel_rfl) ?_ _
     gi_wp2
     go_ret
     exact .inr ⟨rfl,ys++[⟨⟨nm,p,v,m,kk⟩,HX.out⟩],pre2P hys,by simpa using hx4⟩
  ·refine ⟨_,rfl,?_⟩
   try simp only [Act.put,sA,sB,sC]
   refine takeI 9 14 (.bool false) rfl rfl (by kernel_rfl) (by kernel_rfl) (by kernel_rfl) (fun _ _ _ h=>h) (by kernel_rfl) (fun _=>rfl) (fun wz=>?_) ?_
   ·rfl
   try simp only [Act.put,sA,sB,sC]
   refine skipI 10 15 rfl rfl (by kernel_rfl) (by kernel_rfl) (by kernel_rfl) (fun _ _ _ h=>h) (by kernel_rfl) (fun _=>rfl) ?_
   try simp only [Act.put,sA,sB,sC]
   refine skipI 11 16 rfl rfl (by kernel_rfl) (by kernel_rfl) (by kernel_rfl) (fun _ _ _ h=>h) (by kernel_rfl) (fun _=>rfl) ?_
   try simp only [Act.put,sA,sB,sC]
   refine skipI 12 17 rfl rfl (by kernel_rfl) (by kernel_rfl) (by kernel_rfl) (fun _ _ _ h=>h) (by kernel_rfl) (fun _=>rfl) ?_
   try simp only [Act.put,sA,sB,sC]
   refine skipI 13 18 rfl rfl (by kernel_rfl) (by kernel_rfl) (by kernel_rfl) (fun _ _ _ h=>h) (by kernel_rfl) (fun _=>rfl) ?_
   try simp only [Act.put,sA,sB,sC]
   refine skipI 14 19 rfl rfl (by kernel_rfl) (by kernel_rfl) (by kernel_rfl) (fun _ _ _ h=>h) (by kernel_rfl) (fun _=>rfl) ?_
   try simp only [Act.put,sA,sB,sC]
   refine skipI 15 20 rfl rfl (by kernel_rfl) (by kernel_rfl) (by kernel_rfl) (fun _ _ _ h=>h) (by kernel_rfl) (fun _=>rfl) ?_
   try simp only [Act.put,sA,sB,sC]
   refine skipI 16 21 rfl rfl (by kernel_rfl) (by kernel_rfl) (by kernel_rfl) (fun _ _ _ h=>h) (by kernel_rfl) (fun _=>rfl) ?_
   try simp only [Act.put,sA,sB,sC]
   refine skipI 17 22 rfl rfl (by kernel_rfl) (by kernel_rfl) (by kernel_rfl) (fun _ _ _ h=>h) (by kernel_rfl) (fun _=>rfl) ?_
   try simp only [Act.put,sA,sB,sC]
   refine skipI 18 23 rfl rfl (by kernel_rfl) (by kernel_rfl) (by kernel_rfl) (fun _ _ _ h=>h) (by kernel_rfl) (fun _=>rfl) ?_
   try simp only [Act.put,sA,sB,sC]
   refine skipI 19 24 rfl rfl (by kernel_rfl) (by kernel_rfl) (by kernel_rfl) (fun _ _ _ h=>h) (by kernel_rfl) (fun _=>rfl) ?_
   try simp only [Act.put,sA,sB,sC]
   refine skipI 20 25 rfl rfl (by kernel_rfl) (by kernel_rfl) (by kernel_rfl) (fun _ _ _ h=>h) (by kernel_rfl) (fun _=>rfl) ?_
   try simp only [Act.put,sA,sB,sC]
   refine wpAnyIn_ready (rs:=[21]) (by kernel_rfl) (by simp) ?_
   refine skipCallI 21 26 rfl rfl (by kernel_rfl) ?_ AllReadyIn.nil
   try simp only [Act.put,sA,sB,sC]
   refine takeI 22 27 (.bool false) rfl rfl (by kernel_rfl) (by kernel_rfl) (by kernel_rfl) (fun _ _ _ h=>h) (by kernel_rfl) (fun _=>rfl) (fun wz=>?_) ?_
   ·go_simp
   try simp only [Act.put,sA,sB,sC]
   refine takeI 23 28 (.bool false) rfl rfl (by kernel_rfl) (by kernel_rfl) (by kernel_rfl) (fun _ _ _ h=>h) (by kernel_rfl) (fun _=>rfl) (fun wz=>?_) ?_
   ·rfl
   try simp only [Act.put,sA,sB,sC]
   refine skipI 24 29 rfl rfl (by kernel_rfl) (by kernel_rfl) (by kernel_rfl) (fun _ _ _ h=>h) (by kernel_rfl) (fun _=>rfl) ?_
   try simp only [Act.put,sA,sB,sC]
   refine skipI 25 30 rfl rfl (by kernel_rfl) (by kernel_rfl) (by kernel_rfl) (fun _ _ _ h=>h) (by kernel_rfl) (fun _=>rfl) ?_
   try simp only [Act.put,sA,sB,sC]
   refine skipI 26 31 rfl rfl (by kernel_rfl) (by kernel_rfl) (by kernel_rfl) (fun _ _ _ h=>h) (by kernel_rfl) (fun _=>rfl) ?_
   try simp only [Act.put,sA,sB,sC]
   refine skipI 27 32 rfl rfl (by kernel_rfl) (by kernel_rfl) (by kernel_rfl) (fun _ _ _ h=>h) (by kernel_rfl) (fun _=>rfl) ?_
   try simp only [Act.put,sA,sB,sC]
   refine skipI 28 33 rfl rfl (by kernel_rfl) (by kernel_rfl) (by kernel_rfl) (fun _ _ _ h=>h) (by kernel_rfl) (fun _=>rfl) ?_
   try simp only [Act.put,sA,sB,sC]
   refine wpAnyIn_ready (rs:=[29]) (by kernel_rfl) (by simp) ?_
   refine skipCallI 29 34 rfl rfl (by kernel_rfl) ?_ AllReadyIn.nil
   try simp only [Act.put,sA,sB,sC]
   refine takeI 30 35 (.bool false) rfl rfl (by kernel_rfl) (by kernel_rfl) (by kernel_rfl) (fun _ _ _ h=>h) (by kernel_rfl) (fun _=>rfl) (fun wz=>?_) ?_
   ·go_simp
   try simp only [Act.put,sA,sB,sC]
   refine takeI 31 36 (.bool false) rfl rfl (by kernel_rfl) (by kernel_rfl) (by kernel_rfl) (fun _ _ _ h=>h) (by kernel_rfl) (fun _=>rfl) (fun wz=>?_) ?_
   ·go_simp
   try simp only [Act.put,sA,sB,sC]
   refine takeI 32 4 (.bool false) rfl rfl (by kernel_rfl) (by kernel_rfl) (by kernel_rfl) (fun _ _ _ h=>h) (by kernel_rfl) (fun _=>rfl) (fun wz=>?_) ?_
   ·rfl
   try simp only [Act.put,sA,sB,sC]
   refine wpAnyIn_done (by kernel_rfl) ?_ _
   gi_wp2
   go_ret
   exact .inr ⟨rfl,qq,hqq.trans (by simp [K.items]),hx3⟩
theorem children1_inP (n:Nat) (w0:World) (S:Kid→Prop) (l Bt p:Nat) (v:Vd) (m:Md) (k:K) (J Jx:List (KidIP w0 S)→World→Prop) (hJD:∀ pre W,J pre W→J pre W.drew)
  (hY:∀ pre (x:KidIP w0 S) W,J pre W→pre.length<k.items.length→YieldAt Fence.wide (n-1) Tryz.prog l #[.string x.1.nm,.pointer (some ⟨x.1.p,0,none⟩)] W fun e W'=>
   (e=.returned (.bool true)∧J (pre++[x]) W'∧Below w0.heap.size W W')∨(e=.returned (.bool false)∧Jx (pre++[x]) W'))
  (W:World) (hBt:W.cell? ⟨Bt,0,none⟩=some (.pointer (some ⟨p,0,none⟩))) (hT:AtT w0 p v m k) (hS:(∀ x∈k.items,S x)) (hG:G w0 W) (h0:J [] W):
  CallsIn Fence.wide n Tryz.prog 89 #[.func (.yield l) #[] #[],.pointer (some ⟨Bt,0,none⟩)] W fun e W'=>(∃ v,e=.returned v)∧
   ((∃ ys:List (KidIP w0 S),kidsP ys=k.items∧J ys W')∨(∃ pre:List (KidIP w0 S),kidsP pre <+: k.items∧Jx pre W')):=by
 obtain ⟨pk,h1,h2⟩:=hT
 have c39:=hG.cell (lies_cell h1 39 _ (tc_kids ..))
 have hp:=each_inP w0 S l k.items.length J Jx hJD (fun m pre x W hj hl=>yieldAny rfl m (hY pre x W hj hl)) k (n-1) pk [] W h2 hS hG h0 (by simp)
 obtain ⟨a,rfl⟩:=h2.form
 clear h1 h2 hY
 refine callsIn_of_wp Tryz.func89 rfl trivial ?_ rfl
 simp only [Tryz.ntmps89,List.size_toArray,List.length_cons,List.length_nil,Nat.reduceAdd,Nat.reduceSub,Array.replicate_succ,Array.replicate_zero,List.push_toArray,List.append_toArray,List.nil_append,List.cons_append]
 gi_wp2_with (refine ⟨trivial,fun h=>(by cases h),?_⟩;gi_at_call 90;refine hp.mono ?_;clear hp;rintro e W1 (⟨rfl,ys,hys,hJ1,_⟩ | ⟨rfl,q,hq,hx⟩))
 ·go_end0
  exact ⟨⟨_,rfl⟩,.inl ⟨ys,hys,by simpa using hJ1⟩⟩
 ·go_end0
  exact ⟨⟨_,rfl⟩,.inr ⟨q,hq,by simpa using hx⟩⟩
theorem children_stopsP (n:Nat) (w0:World) (S:Kid→Prop) (Bt p:Nat) (v:Vd) (m:Md) (k:K) (w:World) (hBt:Bt<w.heap.size) (hc:w.cell? ⟨Bt,0,none⟩=some (.pointer (some ⟨p,0,none⟩))) (hT:AtT w0 p v m k) (hS:(∀ x∈k.items,S x)) (hG:G w0 w):
  SeqStopsK Fence.wide n Tryz.prog 89 #[.pointer (some ⟨Bt,0,none⟩)] (fun x:KidIP w0 S=>#[Value.string x.1.nm,.pointer (some ⟨x.1.p,0,none⟩)]) (Below w0.heap.size) (fun ys=>kidsP ys=k.items) (fun pre=>kidsP pre <+: k.items) k.items.length w:=fun l J Jx W hW hJ _ hY h0=>
 children1_inP n w0 S l Bt p v m k J Jx (fun pre A h=>hJ _ _ _ none h ⟨rfl,rfl,rfl,Nat.le_refl _,fun _ _ _=>rfl⟩ (fun r e=>by cases e)) hY W ((hW.cell (p:=⟨Bt,0,none⟩) hBt).trans hc) hT hS (hG.trans hW) h0
end Go.Proofs.YthfcanpkhjgomaaGreat
namespace Go.Proofs.YthfcanpkhjgomaaGreat
open Go.RowKit Go.Shelf
def SV (W:World) (B:Nat) (au:Option Addr) (o b:Bool):Prop:=W.heap[B]?=some (.cells #[.pointer au] 34 (0,0))∧W.heap[B+1]?=some (.cells #[.bool o] 4 (0,0))∧W.heap[B+2]?=some (.cells #[.bool b] 4 (0,0))
theorem SV.lt {W:World} {B:Nat} {au:Option Addr} {o b:Bool} (h:SV W B au o b):B+2<W.heap.size:=(Array.getElem?_eq_some_iff.1 h.2.2).1
theorem SV.grow {W W':World} {B:Nat} {au:Option Addr} {o b:Bool} (h:SV W B au o b) (hg:G W W'):SV W' B au o b:=by
 have:=h.lt
 exact ⟨(hg.block B (by omega)).trans h.1,(hg.block (B+1) (by omega)).trans h.2.1,(hg.block (B+2) (by omega)).trans h.2.2⟩
theorem cell_of_block0 {W:World} {B:Nat} {x:Value} {ty:TypeId} (h:W.heap[B]?=some (.cells #[x] ty (0,0))):W.cell? ⟨B,0,none⟩=some x:=by
 simp only [World.cell?,h]
 rfl
theorem SV.c0 {W:World} {B:Nat} {au:Option Addr} {o b:Bool} (h:SV W B au o b):W.cell? ⟨B,0,none⟩=some (.pointer au):=cell_of_block0 h.1
theorem SV.c1 {W:World} {B:Nat} {au:Option Addr} {o b:Bool} (h:SV W B au o b):W.cell? ⟨B+1,0,none⟩=some (.bool o):=cell_of_block0 h.2.1
theorem SV.c2 {W:World} {B:Nat} {au:Option Addr} {o b:Bool} (h:SV W B au o b):W.cell? ⟨B+2,0,none⟩=some (.bool b):=cell_of_block0 h.2.2
theorem SV.f2 {W:World} {B:Nat} {au:Option Addr} {o b:Bool} (h:SV W B au o b):W.frozen? ⟨B+2,0,none⟩=false:=by
 have h':=h.2.2
 simp [World.frozen?,h']
theorem SV.set {W:World} {B:Nat} {au:Option Addr} {o b:Bool} (h:SV W B au o b) (b':Bool):SV (W.setCell ⟨B+2,0,none⟩ (.bool b')) B au o b':=by
 refine ⟨(Below.heap_setCell _ _ _ _ (by show B≠B+2;omega)).trans h.1,(Below.heap_setCell _ _ _ _ (by show B+1≠B+2;omega)).trans h.2.1,?_⟩
 have h':=h.2.2
 unfold World.setCell
 simp only []
 rw [Array.getElem?_modify]
 simp [h']
theorem SV.new (w:World) (au:Option Addr) (o:Bool):SV (((w.alloc (.cells #[.pointer au] 34)).alloc (.cells #[.bool o] 4)).alloc (.cells #[.bool false] 4)) w.heap.size au o false:=by
 refine ⟨?_,?_,?_⟩
 ·rw [Below.heap_alloc _ _ _ (by rw [World.size_alloc,World.size_alloc];omega),Below.heap_alloc _ _ _ (by rw [World.size_alloc];omega)];exact World.alloc_heap_new w _
 ·rw [Below.heap_alloc _ _ _ (by rw [World.size_alloc,World.size_alloc];omega)]
  have:=World.alloc_heap_new (w.alloc (.cells #[.pointer au] 34)) (.cells #[.bool o] 4)
  rwa [World.size_alloc] at this
 ·have:=World.alloc_heap_new ((w.alloc (.cells #[.pointer au] 34)).alloc (.cells #[.bool o] 4)) (.cells #[.bool false] 4)
  rwa [World.size_alloc,World.size_alloc] at this
theorem results_bool {fn:Func} {p:Tmp} (h:fn.results=#[.cell p 4]) (tmps:Array Value) (W:World) (g:Nat) (b:Bool) (hp:tmps.getD p undef=.pointer (some ⟨g,0,none⟩)) (hc:W.cell? ⟨g,0,none⟩=some (.bool b)):(results fn tmps).run Tryz.prog W=.ok (.bool b) W:=by
 have hp':tmps[p]?.getD undef=.pointer (some ⟨g,0,none⟩):=by simpa using hp
 have h4:=Tryz.isAgg4
 simp [results,h,hp',asAddr,go_sem,hc]
theorem info103:(Tryz.prog.info? 98).map (·.size)=some 40:=by kernel_rfl
theorem under55:Tryz.prog.underlying 34=some (.pointer 98):=by kernel_rfl
theorem exec_eq55 {o:Oper} {a:Act} (x y:Operand) (ho:o.op=.binOp .eql 34 x y 34) (p q:Nat) (hx:a.eval x=.pointer (some ⟨p,0,none⟩)) (hy:a.eval y=.pointer (some ⟨q,0,none⟩)) (hne:p≠q) (w:World) (h1:Tr w p) (h2:Tr w q):(execOp a.eval o).run Tryz.prog w=.ok (.value (.bool false)) w:=by
 have hi:=info103
 cases hj:Tryz.prog.info? 98 with
 | none=>rw [hj] at hi;cases hi
 | some j=>
  rw [hj] at hi
  obtain ⟨c1,h1⟩:=h1
  obtain ⟨c2,h2⟩:=h2
  have hsz:j.size≠0:=by simp at hi;omega
  unfold execOp
  have h':=run_eql_ptr_other w under55 hj hsz (a:=⟨p,0,none⟩) (b:=⟨q,0,none⟩) (by intro e;injection e with e;exact hne e) h1 h2
  simp only [ho,hx,hy,eqGuard,Sem.run_bind]
  simp [Result.andThen,h']
theorem exec_eq55s {o:Oper} {a:Act} (x y:Operand) (ho:o.op=.binOp .eql 34 x y 34) (p:Nat) (hx:a.eval x=.pointer (some ⟨p,0,none⟩)) (hy:a.eval y=.pointer (some ⟨p,0,none⟩)) (w:World):(execOp a.eval o).run Tryz.prog w=.ok (.value (.bool true)) w:=by
 have hi:=info103
 cases hj:Tryz.prog.info? 98 with
 | none=>rw [hj] at hi;cases hi
 | some j=>
  unfold execOp
  have h':=run_eql_ptr_same w ⟨p,0,none⟩ under55 hj
  simp only [ho,hx,hy,eqGuard,Sem.run_bind]
  simp [Result.andThen,h']
def UT (w:World) (au:Option Addr):Option (Vd × Md × K)→Prop
 | none=>au=none
 | some x=>∃ p,au=some ⟨p,0,none⟩∧AtT w p x.1 x.2.1 x.2.2∧x.2.2.plain w∧Tr w p∧x.2.2.flat.rises∧x.2.2.flat.size≤100000
def sameK (o:Bool) (t:Vd × Md × K):Option (Vd × Md × K)→Bool
 | none=>false
 | some u=>sameT o (t.1,t.2.1,t.2.2.flat) (u.1,u.2.1,u.2.2.flat)
def SameOk (k:K):Prop:=∀ (o:Bool) (p:Nat) (v:Vd) (m:Md) (au:Option Addr) (ou:Option (Vd × Md × K)) (w:World),AtT w p v m k→k.plain w→Tr w p→k.flat.rises→k.flat.size≤100000→UT w au ou→
  Calls Tryz.prog 21 #[.pointer (some ⟨p,0,none⟩),.pointer au,.bool o] w fun e w'=>e=.returned (.bool (sameK o (v,m,k) ou))∧G w w'
theorem K.find_plain {w:World} {nm:ByteArray} {p:Nat} {v:Vd} {m:Md} {kk:K}:∀ {k:K},k.plain w→k.find nm=some (p,v,m,kk)→Tr w p∧kk.plain w
 | .nil,_,h=>by cases h
 | .node _ _ n _ _ _ _ _,⟨a2,a3,a4,a5⟩,h=>by
  rw [K.find] at h
  split at h
  ·cases h;exact ⟨a2,a3⟩
  split at h
  ·exact K.find_plain a4 h
  ·exact K.find_plain a5 h
def subK (k:K) (nm:ByteArray):Option (Vd × Md × K):=(k.find nm).map fun x=>(x.2.1,x.2.2.1,x.2.2.2)
def addrOf:Option (Nat × Vd × Md × K)→Option Addr
 | none=>none
 | some (p,_)=>some ⟨p,0,none⟩
theorem ptrOf_addr (x:Option (Nat × Vd × Md × K)):ptrOf x=.pointer (addrOf x):=by cases x<;>rfl
theorem UT.find {w:World} {k:K} {ak:Option Addr} (h:At w k (.pointer ak)) (hp:k.plain w) (hr:k.flat.rises) (hs:k.flat.size≤100000) (nm:ByteArray):UT w (addrOf (k.find nm)) (subK k nm):=by
 unfold subK
 have hg:=K.find_get (nm:=nm) hr
 cases hf:k.find nm with
 | none=>rfl
 | some x=>
  obtain ⟨p,v,m,kk⟩:=x
  rw [hf] at hg
  have h1:=F.rises_get hr hg.symm
  have h2:=K.find_plain hp hf
  exact ⟨p,rfl,K.find_at h p v m kk hf,h2.2,h2.1,h1.1,by have:=h1.2;simp only at this;show kk.flat.size≤_;omega⟩
theorem UT.grow {w w':World} {au:Option Addr} {ou:Option (Vd × Md × K)} (h:UT w au ou) (hg:G w w'):UT w' au ou:=by
 cases ou with
 | none=>exact h
 | some x=>obtain ⟨p,h1,h2,h3,h4,h5⟩:=h;exact ⟨p,h1,h2.grow hg,K.plain_grow hg h3,h4.grow hg,h5⟩
theorem sameK_get {o:Bool} {t:Vd × Md × K} {k:K} (hr:k.flat.rises) (nm:ByteArray):sameK o t (subK k nm)=(match k.flat.get nm with | none=>false | some s=>sameT o (t.1,t.2.1,t.2.2.flat) s):=by
 rw [← K.find_get hr]
 unfold subK
 cases k.find nm<;>rfl
theorem allF_app {o:Bool} {g:F}:∀ {f f':F},allF o (f.app f') g=(allF o f g&&allF o f' g)
 | .nil,f'=>by simp [F.app,allF]
 | .cons n v m k r,f'=>by rw [F.app,allF,allF,allF_app,Bool.and_assoc]
structure Gd (w:World) (S:Nat) (x:Kid):Prop where
 plain:x.k.plain w
 tr:Tr w x.p
 rises:x.k.flat.rises
 size:x.k.flat.size<S
theorem Gd.all {w:World} {S:Nat}:∀ {k:K},k.plain w→k.flat.rises→k.flat.size≤S→∀ x∈k.items,Gd w S x
 | .nil,_,_,_,x,hx=>by cases hx
 | .node q p nm v m kids ah be,⟨h1,h2,h3,h4⟩,hr,hs,x,hx=>by
  rw [K.flat,F.rises_app] at hr
  obtain ⟨r1,_,_,r4,r5,_⟩:=hr
  rw [K.flat,F.app_size,F.size] at hs
  rw [K.items,List.mem_append,List.mem_cons] at hx
  rcases hx with hx | rfl | hx
  ·exact Gd.all h3 r1 (by omega) x hx
  ·exact ⟨h2,h1,r4,by show kids.flat.size<S;omega⟩
  ·exact Gd.all h4 r5 (by omega) x hx
theorem SV.own {w:World} {B B5:Nat} {au:Option Addr} {o:Bool} {β:Type} (C:β→Prop) (hB:w.heap.size≤B5):OwnFrom B5 (fun (pre:β) W=>SV W B au o false∧G w W∧C pre):=by
 intro s W W' row ⟨h1,h2,h3⟩ hg hr
 have hc:∀ (b:Nat) (x:Obj),W.heap[b]?=some x→x.isCells=true→W'.heap[b]?=W.heap[b]?:=fun b x hb hx=>hg.block b (Array.getElem?_eq_some_iff.1 hb).1 fun e=>by
  obtain ⟨_,x',hx',hc'⟩:=hr b e.symm
  rw [hb] at hx'
  cases hx'
  rw [hx] at hc'
  cases hc'
 refine ⟨⟨(hc _ _ h1.1 rfl).trans h1.1,(hc _ _ h1.2.1 rfl).trans h1.2.1,(hc _ _ h1.2.2 rfl).trans h1.2.2⟩,?_,h3⟩
 exact Below.trans (B:=w.heap.size) h2 ⟨hg.os,hg.tape,hg.output,hg.size,fun b hb=>hg.block b (by have:=h2.size;omega) fun e=>by have:=(hr b e.symm).1;omega⟩
theorem keeps_of {W W':World} (h:G W W'):KeepsOthers W W':=⟨h.size,fun k _ hk _=>(h.block k (Array.getElem?_eq_some_iff.1 hk).1).trans hk⟩
theorem keeps_set {W W':World} (h:G W W') {B:Nat} {au:Option Addr} {o b:Bool} (hs:SV W' B au o b) (x:Value):KeepsOthers W (W'.setCell ⟨B+2,0,none⟩ x):=by
 refine ⟨by have:=h.size;simpa [World.setCell] using this,fun k ob hk hc=>?_⟩
 have h1:=(h.block k (Array.getElem?_eq_some_iff.1 hk).1).trans hk
 refine (Below.heap_setCell _ _ _ k ?_).trans h1
 intro e
 have e:k=B+2:=e
 subst e
 rw [hs.2.2] at h1
 cases h1
 cases hc
theorem same_none (o:Bool) (p:Nat) (w:World):Calls Tryz.prog 21 #[.pointer (some ⟨p,0,none⟩),.pointer none,.bool o] w fun e w'=>e=.returned (.bool false)∧G w w':=by
 have HS:=hid (SV.new w none o)
 have HG:Hid (G w (((w.alloc (.cells #[.pointer none] 34)).alloc (.cells #[.bool o] 4)).alloc (.cells #[.bool false] 4))):=((G.alloc _ _).trans (G.alloc _ _)).trans (G.alloc _ _)
 go_enter Tryz.func21,Tryz.ntmps21
 go_upto_region 1 with fail
 try simp only [World.size_alloc]
 generalize ((w.alloc (.cells #[.pointer none] 34)).alloc (.cells #[.bool o] 4)).alloc (.cells #[.bool false] 4)=w1 at *
 generalize hB:w.heap.size=B at *
 have HB:=hid hB
 have c0:=HS.out.c0
 have c2:=HS.out.c2
 have f2:=HS.out.f2
 clear hB
 go_wp2_with fail
 refine bodyPost_ret (results_bool (p:=6) rfl _ _ (B+2) false rfl (HS.out.set false).c2) rfl ⟨rfl,?_⟩
 have hBw:=HB.out
 exact Below.setCell (p:=⟨B+2,0,none⟩) HG.out (by show w.heap.size≤B+2;omega) _
theorem same_self (o:Bool) (p:Nat) (w:World):Calls Tryz.prog 21 #[.pointer (some ⟨p,0,none⟩),.pointer (some ⟨p,0,none⟩),.bool o] w fun e w'=>e=.returned (.bool true)∧G w w':=by
 have HS:=hid (SV.new w (some ⟨p,0,none⟩) o)
 have HG:Hid (G w (((w.alloc (.cells #[.pointer (some ⟨p,0,none⟩)] 34)).alloc (.cells #[.bool o] 4)).alloc (.cells #[.bool false] 4))):=((G.alloc _ _).trans (G.alloc _ _)).trans (G.alloc _ _)
 go_enter Tryz.func21,Tryz.ntmps21
 go_upto_region 1 with fail
 try simp only [World.size_alloc]
 generalize ((w.alloc (.cells #[.pointer (some ⟨p,0,none⟩)] 34)).alloc (.cells #[.bool o] 4)).alloc (.cells #[.bool false] 4)=w1 at *
 generalize hB:w.heap.size=B at *
 have HB:=hid hB
 have c0:=HS.out.c0
 have c2:=HS.out.c2
 have f2:=HS.out.f2
 clear hB
 go_wp2_with ((with_reducible refine wpList_exec (.bool true) ?_ ?_ ?_);exact exec_eq55s _ _ rfl p rfl rfl _;kernel_rfl)
 refine bodyPost_ret (results_bool (p:=6) rfl _ _ (B+2) true rfl (HS.out.set true).c2) rfl ⟨rfl,?_⟩
 have hBw:=HB.out
 exact Below.setCell (p:=⟨B+2,0,none⟩) HG.out (by show w.heap.size≤B+2;omega) _
end Go.Proofs.YthfcanpkhjgomaaGreat
