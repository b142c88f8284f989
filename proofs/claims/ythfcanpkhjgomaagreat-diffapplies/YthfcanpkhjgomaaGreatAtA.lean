import Derived.Test.YthfcanpkhjgomaaGreatCopy
import Derived.Test.YthfcanpkhjgomaaGreatVa
set_option maxRecDepth 100000
set_option maxHeartbeats 2000000
namespace Go.Proofs.YthfcanpkhjgomaaGreat
open Go.RowKit Go.Shelf
section
variable {ops:Array Oper} {Q:Exit→Act→World→Prop} {md:Region.Mode} {n:Nat}
theorem wp_region_I {id:Nat} {a:Act} {w:World} (h:wpAnyIn Fence.wide n Tryz.prog .any ops Q ops.size (Array.replicate ops.size false) a w.drew):(Code.region id ops true).wpIn Fence.wide n Tryz.prog Q a w:=
 wpIn_region_any (by kernel_rfl) h
theorem takeI (i d:Nat) (v:Value) {oi:Oper} {fuel:Nat} {listed:Array Bool} {a:Act} {w:World} (hi:ops[i]?=some oi) (hd:oi.dst=some d)
  (hs:Region.noSelect ops=true) (hf:Region.free md ops listed i=true) (hr:(Region.ready md ops listed).contains i=true)
  (hQ:∀ c a w,Q (.panic c) (a.put (some d) v) w→Q (.panic c) a w) (hw:Region.wanted oi (yielded ops a.tmps)=true) (ha:∀ w,oi.about Tryz.prog w a.eval=none) (hy:∀ w,(execOp a.eval oi).run Tryz.prog w=.ok (.value v) w)
  (h:wpAnyIn Fence.wide n Tryz.prog md ops Q fuel (listed.setIfInBounds i true) (a.put (some d) v) w):wpAnyIn Fence.wide n Tryz.prog md ops Q (fuel+1) listed a w:=
 wpAnyIn_take rfl hi hs hf hr (by rw [hd];exact hQ) ⟨.inl ⟨hw,hy⟩,ha⟩ (by rw [hd];exact h)
theorem skipI (i d:Nat) {oi:Oper} {fuel:Nat} {listed:Array Bool} {a:Act} {w:World} (hi:ops[i]?=some oi) (hd:oi.dst=some d)
  (hs:Region.noSelect ops=true) (hf:Region.free md ops listed i=true) (hr:(Region.ready md ops listed).contains i=true)
  (hQ:∀ c a w,Q (.panic c) (a.put (some d) undef) w→Q (.panic c) a w) (hw:Region.wanted oi (yielded ops a.tmps)=false) (ha:∀ w,oi.about Tryz.prog w a.eval=none)
  (h:wpAnyIn Fence.wide n Tryz.prog md ops Q fuel (listed.setIfInBounds i true) (a.put (some d) undef) w):wpAnyIn Fence.wide n Tryz.prog md ops Q (fuel+1) listed a w:=
 wpAnyIn_take rfl hi hs hf hr (by rw [hd];exact hQ) ⟨.inr ⟨hw,rfl⟩,ha⟩ (by rw [hd];exact h)
theorem valueI (i d:Nat) (v:Value) (w':World) {oi:Oper} {fuel:Nat} {listed:Array Bool} {a:Act} {w:World} {rs:List Nat} (hi:ops[i]?=some oi) (hd:oi.dst=some d) (hw:Region.wanted oi (yielded ops a.tmps)=true)
  (hx:(execOp a.eval oi).run Tryz.prog w=.ok (.value v) w') (h:wpAnyIn Fence.wide n Tryz.prog md ops Q fuel (listed.setIfInBounds i true) (a.put (some d) v) w')
  (hs:AllReadyIn Fence.wide n Tryz.prog md ops Q fuel listed a w rs):AllReadyIn Fence.wide n Tryz.prog md ops Q fuel listed a w (i::rs):=by
 refine AllReadyIn.cons hi (fun K hK=>?_) hs
 rw [if_pos hw]
 refine ⟨fun _ _=>trivial,?_⟩
 rw [show (Fence.wide).round=none from rfl,Oper.semAt_none,hx,Oper.uponIn_value,hd]
 exact hK _ _ h
theorem skipCallI (i d:Nat) {oi:Oper} {fuel:Nat} {listed:Array Bool} {a:Act} {w:World} {rs:List Nat} (hi:ops[i]?=some oi) (hd:oi.dst=some d) (hw:Region.wanted oi (yielded ops a.tmps)=false)
  (h:wpAnyIn Fence.wide n Tryz.prog md ops Q fuel (listed.setIfInBounds i true) (a.put (some d) undef) w)
  (hs:AllReadyIn Fence.wide n Tryz.prog md ops Q fuel listed a w rs):AllReadyIn Fence.wide n Tryz.prog md ops Q fuel listed a w (i::rs):=by
 refine AllReadyIn.cons hi (fun K hK=>?_) hs
 rw [if_neg (by rw [hw];simp),hd]
 exact ⟨fun _ _=>trivial,hK _ _ h⟩
theorem callI (i d:Nat) (f:FuncId) (args:Array Value) {oi:Oper} {fuel:Nat} {listed:Array Bool} {a:Act} {w:World} {rs:List Nat} (hi:ops[i]?=some oi) (hd:oi.dst=some d) (hw:Region.wanted oi (yielded ops a.tmps)=true)
  (hx:(execOp a.eval oi).run Tryz.prog w=.ok (.enter f args) w) (hc:CallsIn Fence.wide (n-1) Tryz.prog f args w fun e w'=>∃ v,e=.returned v∧wpAnyIn Fence.wide n Tryz.prog md ops Q fuel (listed.setIfInBounds i true) (a.put (some d) v) w')
  (hs:AllReadyIn Fence.wide n Tryz.prog md ops Q fuel listed a w rs):AllReadyIn Fence.wide n Tryz.prog md ops Q fuel listed a w (i::rs):=by
 refine AllReadyIn.cons hi (fun K hK=>?_) hs
 rw [if_pos hw]
 refine ⟨fun _ _=>trivial,?_⟩
 rw [show (Fence.wide).round=none from rfl,Oper.semAt_none,hx,Oper.uponIn_enter,hd]
 refine ⟨fun h=>(by cases h),hc.mono ?_⟩
 rintro e w' ⟨v,rfl,h⟩
 exact hK _ _ h
theorem roundI (i d l:Nat) {oi:Oper} {fuel:Nat} {listed:Array Bool} {a:Act} {w:World} {rs:List Nat} (f:FuncId) (tmps:Array Value) (assign body:Code) (hi:ops[i]?=some oi) (hd:oi.dst=some d) (hw:Region.wanted oi (yielded ops a.tmps)=true)
  (hx:(execOp a.eval oi).run Tryz.prog w=.ok (.round l f tmps assign body) w) (hc:RoundIn Fence.wide (n-1) Tryz.prog l f tmps assign body w fun e w'=>∃ v,e=.returned v∧wpAnyIn Fence.wide n Tryz.prog md ops Q fuel (listed.setIfInBounds i true) (a.put (some d) v) w')
  (hs:AllReadyIn Fence.wide n Tryz.prog md ops Q fuel listed a w rs):AllReadyIn Fence.wide n Tryz.prog md ops Q fuel listed a w (i::rs):=by
 refine AllReadyIn.cons hi (fun K hK=>?_) hs
 rw [if_pos hw]
 refine ⟨fun _ _=>trivial,?_⟩
 rw [show (Fence.wide).round=none from rfl,Oper.semAt_none,hx,Oper.uponIn_round,hd]
 refine ⟨fun h=>(by cases h),hc.mono ?_⟩
 rintro e w' ⟨v,rfl,h⟩
 exact hK _ _ h
end
attribute [local go_sem] Oper.semAt_some
structure Kid where
 nm:ByteArray
 p:Nat
 v:Vd
 m:Md
 k:K
def K.items:K→List Kid
 | .nil=>[]
 | .node _ p nm v m kids ah be=>ah.items++⟨nm,p,v,m,kids⟩::be.items
abbrev KidIn (w0:World) (S:Nat):Type:={ x:Kid // AtT w0 x.p x.v x.m x.k∧x.k.flat.size<S }
abbrev kids {w0:World} {S:Nat} (ys:List (KidIn w0 S)):List Kid:=ys.map (·.1)
theorem roomNone {F:Fence} (hd:F.depth=none) (k:Nat):F.room k:=fun d h=>by rw [hd] at h;cases h
theorem roundAny {F:Fence} (hd:F.depth=none) {m m':Nat} {P:Program} {l:Nat} {f:FuncId} {tmps:Array Value} {assign body:Code} {w:World} {R:Ending→World→Prop}
  (h:RoundIn F m P l f tmps assign body w R):RoundIn F m' P l f tmps assign body w R:=⟨h.1,fun c cs _=>h.2 c cs (roomNone hd _)⟩
theorem yieldAny {F:Fence} (hd:F.depth=none) {m:Nat} (m':Nat) {P:Program} {l:Nat} {args:Array Value} {W:World} {R:Ending→World→Prop} (h:YieldAt F m P l args W R):YieldAt F m' P l args W R:=by
 obtain ⟨fn,tmps,assign,body,hy,hR⟩:=h
 exact ⟨fn,tmps,assign,body,hy,roundAny hd hR⟩
theorem G.trans' {w0 W W':World} (h:G w0 W) (hb:Below w0.heap.size W W'):G w0 W':=Below.trans (B:=w0.heap.size) h hb
theorem pre3 {w0:World} {S:Nat} {ys qq:List (KidIn w0 S)} {x:KidIn w0 S} {ah be:K} {q:Nat} (hys:kids ys=ah.items) (hq:kids qq <+: be.items):kids (ys++x::qq) <+: (K.node q x.1.p x.1.nm x.1.v x.1.m x.1.k ah be).items:=by
 obtain ⟨t,ht⟩:=hq
 refine ⟨t,?_⟩
 rw [K.items,← hys,← ht]
 simp
theorem pre2 {w0:World} {S:Nat} {ys:List (KidIn w0 S)} {x:KidIn w0 S} {ah be:K} {q:Nat} (hys:kids ys=ah.items):kids (ys++[x]) <+: (K.node q x.1.p x.1.nm x.1.v x.1.m x.1.k ah be).items:=by
 refine ⟨be.items,?_⟩
 rw [K.items,← hys]
 simp
theorem each_in (w0:World) (S l N:Nat) (J Jx:List (KidIn w0 S)→World→Prop) (hJD:∀ pre W,J pre W→J pre W.drew)
  (hY:∀ m pre (x:KidIn w0 S) W,J pre W→pre.length<N→YieldAt Fence.wide m Tryz.prog l #[.string x.1.nm,.pointer (some ⟨x.1.p,0,none⟩)] W fun e W'=>
   (e=.returned (.bool true)∧J (pre++[x]) W'∧Below w0.heap.size W W')∨(e=.returned (.bool false)∧Jx (pre++[x]) W')) (k:K):
  ∀ (n:Nat) (u:Value) (pre:List (KidIn w0 S)) (W:World),At w0 k u→k.flat.size≤S→G w0 W→J pre W→pre.length+k.items.length≤N→
   CallsIn Fence.wide n Tryz.prog 90 #[u,.func (.yield l) #[] #[]] W fun e W'=>
    (e=.returned (.bool true)∧∃ ys,kids ys=k.items∧J (pre++ys) W'∧G w0 W')∨(e=.returned (.bool false)∧∃ q,kids q <+: k.items∧Jx (pre++q) W'):=by
 induction k with
 | nil=>
  intro n u pre W ht _ hG hJ _
  obtain rfl:u=.pointer none:=ht
  have HG:Hid (G w0 W.drew):=hG.trans (G.drew W)
  have HJ:Hid (J pre W.drew):=hJD pre W hJ
  refine callsIn_of_wp Tryz.func90 rfl trivial ?_ rfl
  simp only [Tryz.ntmps90,List.size_toArray,List.length_cons,List.length_nil,Nat.reduceAdd,Nat.reduceSub,Array.replicate_succ,Array.replicate_zero,List.push_toArray,List.append_toArray,List.nil_append,List.cons_append]
  gi_wp2
  refine wp_region_I ?_
  refine takeI 0 5 (.pointer none) rfl rfl (by kernel_rfl) (by kernel_rfl) (by kernel_rfl) (fun _ _ _ h=>h) (by kernel_rfl) (fun _=>rfl) (fun wz=>?_) ?_
  ·rfl
  try simp only [Act.put,sA,sB,sC]
  refine takeI 1 6 (.bool true) rfl rfl (by kernel_rfl) (by kernel_rfl) (by kernel_rfl) (fun _ _ _ h=>h) (by kernel_rfl) (fun _=>rfl) (fun wz=>?_) ?_
  ·go_simp
  try simp only [Act.put,sA,sB,sC]
  refine takeI 2 7 (.bool true) rfl rfl (by kernel_rfl) (by kernel_rfl) (by kernel_rfl) (fun _ _ _ h=>h) (by kernel_rfl) (fun _=>rfl) (fun wz=>?_) ?_
  ·rfl
  try simp only [Act.put,sA,sB,sC]
  refine skipI 3 8 rfl rfl (by kernel_rfl) (by kernel_rfl) (by kernel_rfl) (fun _ _ _ h=>h) (by kernel_rfl) (fun _=>rfl) ?_
  try simp only [Act.put,sA,sB,sC]
  refine skipI 4 9 rfl rfl (by kernel_rfl) (by kernel_rfl) (by kernel_rfl) (fun _ _ _ h=>h) (by kernel_rfl) (fun _=>rfl) ?_
  try simp only [Act.put,sA,sB,sC]
  refine skipI 5 10 rfl rfl (by kernel_rfl) (by kernel_rfl) (by kernel_rfl) (fun _ _ _ h=>h) (by kernel_rfl) (fun _=>rfl) ?_
  try simp only [Act.put,sA,sB,sC]
  refine skipI 6 11 rfl rfl (by kernel_rfl) (by kernel_rfl) (by kernel_rfl) (fun _ _ _ h=>h) (by kernel_rfl) (fun _=>rfl) ?_
  try simp only [Act.put,sA,sB,sC]
  refine skipI 7 12 rfl rfl (by kernel_rfl) (by kernel_rfl) (by kernel_rfl) (fun _ _ _ h=>h) (by kernel_rfl) (fun _=>rfl) ?_
  try simp only [Act.put,sA,sB,sC]
  refine wpAnyIn_ready (rs:=[8]) (by kernel_rfl) (by simp) ?_
  refine skipCallI 8 13 rfl rfl (by kernel_rfl) ?_ AllReadyIn.nil
  try simp only [Act.put,sA,sB,sC]
  refine skipI 9 14 rfl rfl (by kernel_rfl) (by kernel_rfl) (by kernel_rfl) (fun _ _ _ h=>h) (by kernel_rfl) (fun _=>rfl) ?_
  try simp only [Act.put,sA,sB,sC]
  refine skipI 10 15 rfl rfl (by kernel_rfl) (by kernel_rfl) (by kernel_rfl) (fun _ _ _ h=>h) (by kernel_rfl) (fun _=>rfl) ?_
  try simp only [Act.put,sA,sB,sC]
  refine skipI 11 16 rfl rfl (by kernel_rfl) (by kernel_rfl) (by kernel_rfl) (fun _ _ _ h=>h) (by kernel_rfl) (fun _=>rfl) ?_
  try simp only [Act.put,sA,sB,sC]
  refine skipI 12 17 rfl rfl (by kernel_rfl) (by kernel_rfl) (by kernel_rfl) (fun _ _ _ h=>h) (by kernel_rfl) (fun _=>rfl) ?_
  try simp only [Act.put,sA,sB,sC]
  refine skipI 13 18 rfl rfl (by kernel_rfl) (by kernel_rfl) (by kernel_rfl) (fun _ _ _ h=>h) (by kernel_rfl) (fun _=>rfl) ?_
  try simp only [Act.put,sA,sB,sC]
  refine skipI 14 19 rfl rfl (by kernel_rfl) (by kernel_rfl) (by kernel_rfl) (fun _ _ _ h=>h) (by kernel_rfl) (fun _=>rfl) ?_
  try simp only [Act.put,sA,sB,sC]
  refine skipI 15 20 rfl rfl (by kernel_rfl) (by kernel_rfl) (by kernel_rfl) (fun _ _ _ h=>h) (by kernel_rfl) (fun _=>rfl) ?_
  try simp only [Act.put,sA,sB,sC]
  refine skipI 16 21 rfl rfl (by kernel_rfl) (by kernel_rfl) (by kernel_rfl) (fun _ _ _ h=>h) (by kernel_rfl) (fun _=>rfl) ?_
  try simp only [Act.put,sA,sB,sC]
  refine skipI 17 22 rfl rfl (by kernel_rfl) (by kernel_rfl) (by kernel_rfl) (fun _ _ _ h=>h) (by kernel_rfl) (fun _=>rfl) ?_
  try simp only [Act.put,sA,sB,sC]
  refine skipI 18 23 rfl rfl (by kernel_rfl) (by kernel_rfl) (by kernel_rfl) (fun _ _ _ h=>h) (by kernel_rfl) (fun _=>rfl) ?_
  try simp only [Act.put,sA,sB,sC]
  refine skipI 19 24 rfl rfl (by kernel_rfl) (by kernel_rfl) (by kernel_rfl) (fun _ _ _ h=>h) (by kernel_rfl) (fun _=>rfl) ?_
  try simp only [Act.put,sA,sB,sC]
  refine skipI 20 25 rfl rfl (by kernel_rfl) (by kernel_rfl) (by kernel_rfl) (fun _ _ _ h=>h) (by kernel_rfl) (fun _=>rfl) ?_
  try simp only [Act.put,sA,sB,sC]
  refine wpAnyIn_ready (rs:=[21]) (by kernel_rfl) (by simp) ?_
  refine skipCallI 21 26 rfl rfl (by kernel_rfl) ?_ AllReadyIn.nil
  try simp only [Act.put,sA,sB,sC]
  refine skipI 22 27 rfl rfl (by kernel_rfl) (by kernel_rfl) (by kernel_rfl) (fun _ _ _ h=>h) (by kernel_rfl) (fun _=>rfl) ?_
  try simp only [Act.put,sA,sB,sC]
  refine skipI 23 28 rfl rfl (by kernel_rfl) (by kernel_rfl) (by kernel_rfl) (fun _ _ _ h=>h) (by kernel_rfl) (fun _=>rfl) ?_
  try simp only [Act.put,sA,sB,sC]
  refine skipI 24 29 rfl rfl (by kernel_rfl) (by kernel_rfl) (by kernel_rfl) (fun _ _ _ h=>h) (by kernel_rfl) (fun _=>rfl) ?_
  try simp only [Act.put,sA,sB,sC]
  refine skipI 25 30 rfl rfl (by kernel_rfl) (by kernel_rfl) (by kernel_rfl) (fun _ _ _ h=>h) (by kernel_rfl) (fun _=>rfl) ?_
  try simp only [Act.put,sA,sB,sC]
  refine skipI 26 31 rfl rfl (by kernel_rfl) (by kernel_rfl) (by kernel_rfl) (fun _ _ _ h=>h) (by kernel_rfl) (fun _=>rfl) ?_
  try simp only [Act.put,sA,sB,sC]
  refine skipI 27 32 rfl rfl (by kernel_rfl) (by kernel_rfl) (by kernel_rfl) (fun _ _ _ h=>h) (by kernel_rfl) (fun _=>rfl) ?_
  try simp only [Act.put,sA,sB,sC]
  refine skipI 28 33 rfl rfl (by kernel_rfl) (by kernel_rfl) (by kernel_rfl) (fun _ _ _ h=>h) (by kernel_rfl) (fun _=>rfl) ?_
  try simp only [Act.put,sA,sB,sC]
  refine wpAnyIn_ready (rs:=[29]) (by kernel_rfl) (by simp) ?_
  refine skipCallI 29 34 rfl rfl (by kernel_rfl) ?_ AllReadyIn.nil
  try simp only [Act.put,sA,sB,sC]
  refine skipI 30 35 rfl rfl (by kernel_rfl) (by kernel_rfl) (by kernel_rfl) (fun _ _ _ h=>h) (by kernel_rfl) (fun _=>rfl) ?_
  try simp only [Act.put,sA,sB,sC]
  refine takeI 31 36 (.bool true) rfl rfl (by kernel_rfl) (by kernel_rfl) (by kernel_rfl) (fun _ _ _ h=>h) (by kernel_rfl) (fun _=>rfl) (fun wz=>?_) ?_
  ·go_simp
  try simp only [Act.put,sA,sB,sC]
  refine takeI 32 4 (.bool true) rfl rfl (by kernel_rfl) (by kernel_rfl) (by kernel_rfl) (fun _ _ _ h=>h) (by kernel_rfl) (fun _=>rfl) (fun wz=>?_) ?_
  ·rfl
  try simp only [Act.put,sA,sB,sC]
  refine wpAnyIn_done (by kernel_rfl) ?_ _
  gi_wp2
  go_ret
  exact .inl ⟨rfl,[],rfl,by simpa using HJ.out,HG.out⟩
 | node q p nm v m kk ah be ihk iha ihb=>
  intro n u pre W ht hS hG hJ hN
  obtain ⟨rfl,pk,pa,pb,⟨h2,h3⟩,hk,ha,hb⟩:=ht
  have c0:=jG h2 0 (.string nm) rfl
  have c1:=jG h2 1 (.pointer (some ⟨p,0,none⟩)) rfl
  have c2:=jG h2 2 pa rfl
  have c3:=jG h2 3 pb rfl
  have hsz:(K.node q p nm v m kk ah be).flat.size=ah.flat.size+(kk.flat.size+be.flat.size+1):=by rw [K.flat,F.app_size,F.size]
  have hN':pre.length+(ah.items.length+(be.items.length+1))≤N:=by simpa [K.items] using hN
  have HX:Hid (AtT w0 p v m kk∧kk.flat.size<S):=⟨⟨pk,h3,hk⟩,by omega⟩
  obtain ⟨aa,rfl⟩:=ha.form
  obtain ⟨ab,rfl⟩:=hb.form
  generalize hpa:(Value.pointer aa)=pa at *
  generalize hpb:(Value.pointer ab)=pb at *
  have HG0:Hid (G w0 W.drew):=hG.trans (G.drew W)
  have HJ0:Hid (J pre W.drew):=hJD pre W hJ
  have IA:=hid (fun (n:Nat) (W:World) (hG:G w0 W) (hJ:J pre W)=>iha n pa pre W ha (by omega) hG hJ (by omega))
  have IB:=hid (fun (n:Nat) (W:World) (pre':List (KidIn w0 S)) (hG:G w0 W) (hJ:J pre' W) (hN:pre'.length+be.items.length≤N)=>ihb n pb pre' W hb (by omega) hG hJ hN)
  have HY:=hid (fun (W:World) (ys:List (KidIn w0 S)) (hJ:J (pre++ys) W) (hys:kids ys=ah.items)=>hY (n-1) (pre++ys) ⟨⟨nm,p,v,m,kk⟩,HX.out⟩ W hJ (by have:=congrArg List.length hys;simp at this;simp;omega))
  clear ihk iha ihb hk ha hb h2 h3 hN hsz hS
  rw [← hpa] at c2
  rw [← hpb] at c3
  rw [hpa] at c2
  rw [hpb] at c3
  refine callsIn_of_wp Tryz.func90 rfl trivial ?_ rfl
  simp only [Tryz.ntmps90,List.size_toArray,List.length_cons,List.length_nil,Nat.reduceAdd,Nat.reduceSub,Array.replicate_succ,Array.replicate_zero,List.push_toArray,List.append_toArray,List.nil_append,List.cons_append]
  gi_wp2
  refine wp_region_I ?_
  have HG:=HG0
  have HJ:=HJ0
  generalize W.drew=W2 at *
  subst hpa hpb
  refine takeI 0 5 (.pointer (some ⟨q,0,none⟩)) rfl rfl (by kernel_rfl) (by kernel_rfl) (by kernel_rfl) (fun _ _ _ h=>h) (by kernel_rfl) (fun _=>rfl) (fun wz=>?_) ?_
  ·rfl
  try simp only [Act.put,sA,sB,sC]
  refine takeI 1 6 (.bool false) rfl rfl (by kernel_rfl) (by kernel_rfl) (by kernel_rfl) (fun _ _ _ h=>h) (by kernel_rfl) (fun _=>rfl) (fun wz=>?_) ?_
  ·go_simp
  try simp only [Act.put,sA,sB,sC]
  refine takeI 2 7 (.bool false) rfl rfl (by kernel_rfl) (by kernel_rfl) (by kernel_rfl) (fun _ _ _ h=>h) (by kernel_rfl) (fun _=>rfl) (fun wz=>?_) ?_
  ·rfl
  try simp only [Act.put,sA,sB,sC]
  refine takeI 3 8 (.pointer (some ⟨q,0,none⟩)) rfl rfl (by kernel_rfl) (by kernel_rfl) (by kernel_rfl) (fun _ _ _ h=>h) (by kernel_rfl) (fun _=>rfl) (fun wz=>?_) ?_
  ·rfl
  try simp only [Act.put,sA,sB,sC]
  refine takeI 4 9 (.pointer (some ⟨q,0,none⟩)) rfl rfl (by kernel_rfl) (by kernel_rfl) (by kernel_rfl) (fun _ _ _ h=>h) (by kernel_rfl) (fun _=>rfl) (fun wz=>?_) ?_
  ·go_simp
  try simp only [Act.put,sA,sB,sC]
  refine takeI 5 10 (.pointer (some ⟨q,2,none⟩)) rfl rfl (by kernel_rfl) (by kernel_rfl) (by kernel_rfl) (fun _ _ _ h=>h) (by kernel_rfl) (fun _=>rfl) (fun wz=>?_) ?_
  ·go_simp
  try simp only [Act.put,sA,sB,sC]
  refine takeI 7 12 (.func (.yield l) #[] #[]) rfl rfl (by kernel_rfl) (by kernel_rfl) (by kernel_rfl) (fun _ _ _ h=>h) (by kernel_rfl) (fun _=>rfl) (fun wz=>?_) ?_
  ·rfl
  try simp only [Act.put,sA,sB,sC]
  refine wpAnyIn_ready (rs:=[6]) (by kernel_rfl) (by simp) ?_
  refine valueI 6 11 (.pointer aa) W2 rfl rfl (by kernel_rfl) (by have y:=HG.out.cell c2;go_simp) ?_ AllReadyIn.nil
  try simp only [Act.put,sA,sB,sC]
  refine wpAnyIn_ready (rs:=[8]) (by kernel_rfl) (by simp) ?_
  refine callI 8 13 90 #[.pointer aa,.func (.yield l) #[] #[]] rfl rfl (by kernel_rfl) (by go_simp) ((IA.out (n-1) W2 HG.out HJ.out).mono ?_) AllReadyIn.nil
  rintro e W3 (⟨rfl,ys,hys,hJ3,hG3⟩ | ⟨rfl,qq,hqq,hx3⟩)
  ·have HG3:Hid (G w0 W3):=hG3
   refine ⟨_,rfl,?_⟩
   try simp only [Act.put,sA,sB,sC]
   refine takeI 9 14 (.bool true) rfl rfl (by kernel_rfl) (by kernel_rfl) (by kernel_rfl) (fun _ _ _ h=>h) (by kernel_rfl) (fun _=>rfl) (fun wz=>?_) ?_
   ·rfl
   try simp only [Act.put,sA,sB,sC]
   refine takeI 10 15 (.func (.yield l) #[] #[]) rfl rfl (by kernel_rfl) (by kernel_rfl) (by kernel_rfl) (fun _ _ _ h=>h) (by kernel_rfl) (fun _=>rfl) (fun wz=>?_) ?_
   ·rfl
   try simp only [Act.put,sA,sB,sC]
   refine takeI 11 16 (.pointer (some ⟨q,0,none⟩)) rfl rfl (by kernel_rfl) (by kernel_rfl) (by kernel_rfl) (fun _ _ _ h=>h) (by kernel_rfl) (fun _=>rfl) (fun wz=>?_) ?_
   ·rfl
   try simp only [Act.put,sA,sB,sC]
   refine takeI 12 17 (.pointer (some ⟨q,0,none⟩)) rfl rfl (by kernel_rfl) (by kernel_rfl) (by kernel_rfl) (fun _ _ _ h=>h) (by kernel_rfl) (fun _=>rfl) (fun wz=>?_) ?_
   ·go_simp
   try simp only [Act.put,sA,sB,sC]
   refine takeI 13 18 (.pointer (some ⟨q,0,none⟩)) rfl rfl (by kernel_rfl) (by kernel_rfl) (by kernel_rfl) (fun _ _ _ h=>h) (by kernel_rfl) (fun _=>rfl) (fun wz=>?_) ?_
   ·go_simp
   try simp only [Act.put,sA,sB,sC]
   refine takeI 14 19 (.pointer (some ⟨q,0,none⟩)) rfl rfl (by kernel_rfl) (by kernel_rfl) (by kernel_rfl) (fun _ _ _ h=>h) (by kernel_rfl) (fun _=>rfl) (fun wz=>?_) ?_
   ·go_simp
   try simp only [Act.put,sA,sB,sC]
   refine takeI 16 21 (.pointer (some ⟨q,0,none⟩)) rfl rfl (by kernel_rfl) (by kernel_rfl) (by kernel_rfl) (fun _ _ _ h=>h) (by kernel_rfl) (fun _=>rfl) (fun wz=>?_) ?_
   ·rfl
   try simp only [Act.put,sA,sB,sC]
   refine takeI 17 22 (.pointer (some ⟨q,0,none⟩)) rfl rfl (by kernel_rfl) (by kernel_rfl) (by kernel_rfl) (fun _ _ _ h=>h) (by kernel_rfl) (fun _=>rfl) (fun wz=>?_) ?_
   ·go_simp
   try simp only [Act.put,sA,sB,sC]
   refine takeI 18 23 (.pointer (some ⟨q,0,none⟩)) rfl rfl (by kernel_rfl) (by kernel_rfl) (by kernel_rfl) (fun _ _ _ h=>h) (by kernel_rfl) (fun _=>rfl) (fun wz=>?_) ?_
   ·go_simp
   try simp only [Act.put,sA,sB,sC]
   refine takeI 19 24 (.pointer (some ⟨q,1,none⟩)) rfl rfl (by kernel_rfl) (by kernel_rfl) (by kernel_rfl) (fun _ _ _ h=>h) (by kernel_rfl) (fun _=>rfl) (fun wz=>?_) ?_
   ·go_simp
   try simp only [Act.put,sA,sB,sC]
   refine wpAnyIn_ready (rs:=[15,20]) (by kernel_rfl) (by simp) ?_
   refine valueI 15 20 (.string nm) W3 rfl rfl (by kernel_rfl) (by have y:=HG3.out.cell c0;go_simp) ?_ (valueI 20 25 (.pointer (some ⟨p,0,none⟩)) W3 rfl rfl (by kernel_rfl) (by have y:=HG3.out.cell c1;go_simp) ?_ AllReadyIn.nil)
   all_goals try simp only [Act.put,sA,sB,sC]
   ·refine wpAnyIn_ready (rs:=[20]) (by kernel_rfl) (by simp) ?_
    refine valueI 20 25 (.pointer (some ⟨p,0,none⟩)) W3 rfl rfl (by kernel_rfl) (by have y:=HG3.out.cell c1;go_simp) ?_ AllReadyIn.nil
    try simp only [Act.put,sA,sB,sC]
    obtain ⟨fn,tmps,assign,body,hy,hR⟩:=HY.out W3 ys hJ3 hys
    try dsimp only at hy
    refine wpAnyIn_ready (rs:=[21]) (by kernel_rfl) (by simp) ?_
    refine roundI 21 26 l fn tmps assign body rfl rfl (by kernel_rfl) (by go_simp) (hR.mono ?_) AllReadyIn.nil
    clear hy hR
    rintro e W4 (⟨rfl,hJ4,hB4⟩ | ⟨rfl,hx4⟩)
    ·refine ⟨_,rfl,?_⟩
     try simp only [Act.put,sA,sB,sC]
     have hG4:G w0 W4:=HG3.out.trans' hB4
     refine takeI 22 27 (.bool true) rfl rfl (by kernel_rfl) (by kernel_rfl) (by kernel_rfl) (fun _ _ _ h=>h) (by kernel_rfl) (fun _=>rfl) (fun wz=>?_) ?_
     ·go_simp
     try simp only [Act.put,sA,sB,sC]
     refine takeI 23 28 (.bool true) rfl rfl (by kernel_rfl) (by kernel_rfl) (by kernel_rfl) (fun _ _ _ h=>h) (by kernel_rfl) (fun _=>rfl) (fun wz=>?_) ?_
     ·rfl
     try simp only [Act.put,sA,sB,sC]
     refine takeI 24 29 (.pointer (some ⟨q,0,none⟩)) rfl rfl (by kernel_rfl) (by kernel_rfl) (by kernel_rfl) (fun _ _ _ h=>h) (by kernel_rfl) (fun _=>rfl) (fun wz=>?_) ?_
     ·rfl
     try simp only [Act.put,sA,sB,sC]
     refine takeI 25 30 (.pointer (some ⟨q,0,none⟩)) rfl rfl (by kernel_rfl) (by kernel_rfl) (by kernel_rfl) (fun _ _ _ h=>h) (by kernel_rfl) (fun _=>rfl) (fun wz=>?_) ?_
     ·go_simp
     try simp only [Act.put,sA,sB,sC]
     refine takeI 26 31 (.pointer (some ⟨q,3,none⟩)) rfl rfl (by kernel_rfl) (by kernel_rfl) (by kernel_rfl) (fun _ _ _ h=>h) (by kernel_rfl) (fun _=>rfl) (fun wz=>?_) ?_
     ·go_simp
     try simp only [Act.put,sA,sB,sC]
     refine takeI 28 33 (.func (.yield l) #[] #[]) rfl rfl (by kernel_rfl) (by kernel_rfl) (by kernel_rfl) (fun _ _ _ h=>h) (by kernel_rfl) (fun _=>rfl) (fun wz=>?_) ?_
     ·rfl
     try simp only [Act.put,sA,sB,sC]
     refine wpAnyIn_ready (rs:=[27]) (by kernel_rfl) (by simp) ?_
     refine valueI 27 32 (.pointer ab) W4 rfl rfl (by kernel_rfl) (by have y:=hG4.cell c3;go_simp) ?_ AllReadyIn.nil
     try simp only [Act.put,sA,sB,sC]
     refine wpAnyIn_ready (rs:=[29]) (by kernel_rfl) (by simp) ?_
     refine callI 29 34 90 #[.pointer ab,.func (.yield l) #[] #[]] rfl rfl (by kernel_rfl) (by go_simp) ((IB.out (n-1) W4 _ hG4 hJ4 (by simp;have:=congrArg List.length hys;simp at this;omega)).mono ?_) AllReadyIn.nil
     rintro e W5 (⟨rfl,zs,hzs,hJ5,hG5⟩ | ⟨rfl,qq,hqq,hx5⟩)
     ·refine ⟨_,rfl,?_⟩
      try simp only [Act.put,sA,sB,sC]
      refine takeI 30 35 (.bool true) rfl rfl (by kernel_rfl) (by kernel_rfl) (by kernel_rfl) (fun _ _ _ h=>h) (by kernel_rfl) (fun _=>rfl) (fun wz=>?_) ?_
      ·go_simp
      try simp only [Act.put,sA,sB,sC]
      refine takeI 31 36 (.bool true) rfl rfl (by kernel_rfl) (by kernel_rfl) (by kernel_rfl) (fun _ _ _ h=>h) (by kernel_rfl) (fun _=>rfl) (fun wz=>?_) ?_
      ·go_simp
      try simp only [Act.put,sA,sB,sC]
      refine takeI 32 4 (.bool true) rfl rfl (by kernel_rfl) (by kernel_rfl) (by kernel_rfl) (fun _ _ _ h=>h) (by kernel_rfl) (fun _=>rfl) (fun wz=>?_) ?_
      ·rfl
      try simp only [Act.put,sA,sB,sC]
      refine wpAnyIn_done (by kernel_rfl) ?_ _
      gi_wp2
      go_ret
      exact .inl ⟨rfl,ys++⟨⟨nm,p,v,m,kk⟩,HX.out⟩::zs,by simp [kids,K.items,hys,hzs] ,by simpa using hJ5,hG5⟩
     ·refine ⟨_,rfl,?_⟩
      try simp only [Act.put,sA,sB,sC]
      refine takeI 30 35 (.bool false) rfl rfl (by kernel_rfl) (by kernel_rfl) (by kernel_rfl) (fun _ _ _ h=>h) (by kernel_rfl) (fun _=>rfl) (fun wz=>?_) ?_
      ·go_simp
      try simp only [Act.put,sA,sB,sC]
      refine takeI 31 36 (.bool false) rfl rfl (by kernel_rfl) (by kernel_rfl) (by kernel_rfl) (fun _ _ _ h=>h) (by kernel_rfl) (fun _=>rfl) (fun wz=>?_) ?_
      ·go_simp
      try simp only [Act.put,sA,sB,sC]
      refine takeI 32 4 (.bool false) rfl rfl (by kernel_rfl) (by kernel_rfl) (by kernel_rfl) (fun _ _ _ h=>h) (by kernel_rfl) (fun _=>rfl) (fun wz=>?_) ?_
      ·rfl
      try simp only [Act.put,sA,sB,sC]
      refine wpAnyIn_done (by kernel_rfl) ?_ _
      gi_wp2
      go_ret
      exact .inr ⟨rfl,ys++⟨⟨nm,p,v,m,kk⟩,HX.out⟩::qq,pre3 hys hqq,by simpa using hx5⟩
    ·refine ⟨_,rfl,?_⟩
     try simp only [Act.put,sA,sB,sC]
     refine takeI 22 27 (.bool false) rfl rfl (by kernel_rfl) (by kernel_rfl) (by kernel_rfl) (fun _ _ _ h=>h) (by kernel_rfl) (fun _=>rfl) (fun wz=>?_) ?_
     ·go_simp
     try simp only [Act.put,sA,sB,sC]
     refine takeI 23 28 (.bool false) rfl rfl (by kernel_rfl) (by kernel_rfl) (by kernel_rfl) (fun _ _ _ h=>h) (by kernel_rfl) (fun _=>rfl) (fun wz=>?_) ?_
     ·rfl
     try simp only [Act.put,sA,sB,sC]
     refine skipI 24 29 rfl rfl (by kernel_rfl) (by kernel_rfl) (by kernel_rfl) (fun _ _ _ h=>h) (by kernel_rfl) (fun _=>rfl) ?_
     try simp only [Act.put,sA,sB,sC]
     refine skipI 25 30 rfl rfl (by kernel_rfl) (by kernel_rfl) (by kernel_rfl) (fun _ _ _ h=>h) (by kernel_rfl) (fun _=>rfl) ?_
     try simp only [Act.put,sA,sB,sC]
     refine skipI 26 31 rfl rfl (by kernel_rfl) (by kernel_rfl) (by kernel_rfl) (fun _ _ _ h=>h) (by kernel_rfl) (fun _=>rfl) ?_
     try simp only [Act.put,sA,sB,sC]
     refine skipI 27 32 rfl rfl (by kernel_rfl) (by kernel_rfl) (by kernel_rfl) (fun _ _ _ h=>h) (by kernel_rfl) (fun _=>rfl) ?_
     try simp only [Act.put,sA,sB,sC]
     refine skipI 28 33 rfl rfl (by kernel_rfl) (by kernel_rfl) (by kernel_rfl) (fun _ _ _ h=>h) (by kernel_rfl) (fun _=>rfl) ?_
     try simp only [Act.put,sA,sB,sC]
     refine wpAnyIn_ready (rs:=[29]) (by kernel_rfl) (by simp) ?_
     refine skipCallI 29 34 rfl rfl (by kernel_rfl) ?_ AllReadyIn.nil
     try simp only [Act.put,sA,sB,sC]
     refine takeI 30 35 (.bool false) rfl rfl (by kernel_rfl) (by kernel_rfl) (by kernel_rfl) (fun _ _ _ h=>h) (by kernel_rfl) (fun _=>rfl) (fun wz=>?_) ?_
     ·go_simp
     try simp only [Act.put,sA,sB,sC]
     refine takeI 31 36 (.bool false) rfl rfl (by kernel_rfl) (by kernel_rfl) (by kernel_rfl) (fun _ _ _ h=>h) (by kernel_rfl) (fun _=>rfl) (fun wz=>?_) ?_
     ·go_simp
     try simp only [Act.put,sA,sB,sC]
     refine takeI 32 4 (.bool false) rfl rfl (by kernel_rfl) (by kernel_rfl) (by kernel_rfl) (fun _ _ _ h=>h) (by kernel_rfl) (fun _=>rfl) (fun wz=>?_) ?_
     ·rfl
     try simp only [Act.put,sA,sB,sC]
     refine wpAnyIn_done (by kernel_rfl) ?_ _
     gi_wp2
     go_ret
     exact .inr ⟨rfl,ys++[⟨⟨nm,p,v,m,kk⟩,HX.out⟩],pre2 hys,by simpa using hx4⟩
   ·refine wpAnyIn_ready (rs:=[15]) (by kernel_rfl) (by simp) ?_
    refine valueI 15 20 (.string nm) W3 rfl rfl (by kernel_rfl) (by have y:=HG3.out.cell c0;go_simp) ?_ AllReadyIn.nil
    try simp only [Act.put,sA,sB,sC]
    obtain ⟨fn,tmps,assign,body,hy,hR⟩:=HY.out W3 ys hJ3 hys
    try dsimp only at hy
    refine wpAnyIn_ready (rs:=[21]) (by kernel_rfl) (by simp) ?_
    refine roundI 21 26 l fn tmps assign body rfl rfl (by kernel_rfl) (by go_simp) (hR.mono ?_) AllReadyIn.nil
    clear hy hR
    rintro e W4 (⟨rfl,hJ4,hB4⟩ | ⟨rfl,hx4⟩)
    ·refine ⟨_,rfl,?_⟩
     try simp only [Act.put,sA,sB,sC]
     have hG4:G w0 W4:=HG3.out.trans' hB4
     refine takeI 22 27 (.bool true) rfl rfl (by kernel_rfl) (by kernel_rfl) (by kernel_rfl) (fun _ _ _ h=>h) (by kernel_rfl) (fun _=>rfl) (fun wz=>?_) ?_
     ·go_simp
     try simp only [Act.put,sA,sB,sC]
     refine takeI 23 28 (.bool true) rfl rfl (by kernel_rfl) (by kernel_rfl) (by kernel_rfl) (fun _ _ _ h=>h) (by kernel_rfl) (fun _=>rfl) (fun wz=>?_) ?_
     ·rfl
     try simp only [Act.put,sA,sB,sC]
     refine takeI 24 29 (.pointer (some ⟨q,0,none⟩)) rfl rfl (by kernel_rfl) (by kernel_rfl) (by kernel_rfl) (fun _ _ _ h=>h) (by kernel_rfl) (fun _=>rfl) (fun wz=>?_) ?_
     ·rfl
     try simp only [Act.put,sA,sB,sC]
     refine takeI 25 30 (.pointer (some ⟨q,0,none⟩)) rfl rfl (by kernel_rfl) (by kernel_rfl) (by kernel_rfl) (fun _ _ _ h=>h) (by kernel_rfl) (fun _=>rfl) (fun wz=>?_) ?_
     ·go_simp
     try simp only [Act.put,sA,sB,sC]
     refine takeI 26 31 (.pointer (some ⟨q,3,none⟩)) rfl rfl (by kernel_rfl) (by kernel_rfl) (by kernel_rfl) (fun _ _ _ h=>h) (by kernel_rfl) (fun _=>rfl) (fun wz=>?_) ?_
     ·go_simp
     try simp only [Act.put,sA,sB,sC]
     refine takeI 28 33 (.func (.yield l) #[] #[]) rfl rfl (by kernel_rfl) (by kernel_rfl) (by kernel_rfl) (fun _ _ _ h=>h) (by kernel_rfl) (fun _=>rfl) (fun wz=>?_) ?_
     ·rfl
     try simp only [Act.put,sA,sB,sC]
     refine wpAnyIn_ready (rs:=[27]) (by kernel_rfl) (by simp) ?_
     refine valueI 27 32 (.pointer ab) W4 rfl rfl (by kernel_rfl) (by have y:=hG4.cell c3;go_simp) ?_ AllReadyIn.nil
     try simp only [Act.put,sA,sB,sC]
     refine wpAnyIn_ready (rs:=[29]) (by kernel_rfl) (by simp) ?_
     refine callI 29 34 90 #[.pointer ab,.func (.yield l) #[] #[]] rfl rfl (by kernel_rfl) (by go_simp) ((IB.out (n-1) W4 _ hG4 hJ4 (by simp;have:=congrArg List.length hys;simp at this;omega)).mono ?_) AllReadyIn.nil
     rintro e W5 (⟨rfl,zs,hzs,hJ5,hG5⟩ | ⟨rfl,qq,hqq,hx5⟩)
     ·refine ⟨_,rfl,?_⟩
      try simp only [Act.put,sA,sB,sC]
      refine takeI 30 35 (.bool true) rfl rfl (by kernel_rfl) (by kernel_rfl) (by kernel_rfl) (fun _ _ _ h=>h) (by kernel_rfl) (fun _=>rfl) (fun wz=>?_) ?_
      ·go_simp
      try simp only [Act.put,sA,sB,sC]
      refine takeI 31 36 (.bool true) rfl rfl (by kernel_rfl) (by kernel_rfl) (by kernel_rfl) (fun _ _ _ h=>h) (by kernel_rfl) (fun _=>rfl) (fun wz=>?_) ?_
      ·go_simp
      try simp only [Act.put,sA,sB,sC]
      refine takeI 32 4 (.bool true) rfl rfl (by kernel_rfl) (by kernel_rfl) (by kernel_rfl) (fun _ _ _ h=>h) (by kernel_rfl) (fun _=>rfl) (fun wz=>?_) ?_
      ·rfl
      try simp only [Act.put,sA,sB,sC]
      refine wpAnyIn_done (by kernel_rfl) ?_ _
      gi_wp2
      go_ret
      exact .inl ⟨rfl,ys++⟨⟨nm,p,v,m,kk⟩,HX.out⟩::zs,by simp [kids,K.items,hys,hzs] ,by simpa using hJ5,hG5⟩
     ·refine ⟨_,rfl,?_⟩
      try simp only [Act.put,sA,sB,sC]
      refine takeI 30 35 (.bool false) rfl rfl (by kernel_rfl) (by kernel_rfl) (by kernel_rfl) (fun _ _ _ h=>h) (by kernel_rfl) (fun _=>rfl) (fun wz=>?_) ?_
      ·go_simp
      try simp only [Act.put,sA,sB,sC]
      refine takeI 31 36 (.bool false) rfl rfl (by kernel_rfl) (by kernel_rfl) (by kernel_rfl) (fun _ _ _ h=>h) (by kernel_rfl) (fun _=>rfl) (fun wz=>?_) ?_
      ·go_simp
      try simp only [Act.put,sA,sB,sC]
      refine takeI 32 4 (.bool false) rfl rfl (by kernel_rfl) (by kernel_rfl) (by kernel_rfl) (fun _ _ _ h=>h) (by kernel_rfl) (fun _=>rfl) (fun wz=>?_) ?_
      ·rfl
      try simp only [Act.put,sA,sB,sC]
      refine wpAnyIn_done (by kernel_rfl) ?_ _
      gi_wp2
      go_ret
      exact .inr ⟨rfl,ys++⟨⟨nm,p,v,m,kk⟩,HX.out⟩::qq,pre3 hys hqq,by simpa using hx5⟩
    ·refine ⟨_,rfl,?_⟩
     try simp only [Act.put,sA,sB,sC]
     refine takeI 22 27 (.bool false) rfl rfl (by kernel_rfl) (by kernel_rfl) (by kernel_rfl) (fun _ _ _ h=>h) (by kernel_rfl) (fun _=>rfl) (fun wz=>?_) ?_
     ·go_simp
     try simp only [Act.put,sA,sB,sC]
     refine takeI 23 28 (.bool false) rfl rfl (by kernel_rfl) (by kernel_rfl) (by kernel_rfl) (fun _ _ _ h=>h) (by kernel_rfl) (fun _=>rfl) (fun wz=>?_) ?_
     ·rfl
     try simp only [Act.put,sA,sB,sC]
     refine skipI 24 29 rfl rfl (by kernel_rfl) (by kernel_rfl) (by kernel_rfl) (fun _ _ _ h=>h) (by kernel_rfl) (fun _=>rfl) ?_
     try simp only [Act.put,sA,sB,sC]
     refine skipI 25 30 rfl rfl (by kernel_rfl) (by kernel_rfl) (by kernel_rfl) (fun _ _ _ h=>h) (by kernel_rfl) (fun _=>rfl) ?_
     try simp only [Act.put,sA,sB,sC]
     refine skipI 26 31 rfl rfl (by kernel_rfl) (by kernel_rfl) (by kernel_rfl) (fun _ _ _ h=>h) (by kernel_rfl) (fun _=>rfl) ?_
     try simp only [Act.put,sA,sB,sC]
     refine skipI 27 32 rfl rfl (by kernel_rfl) (by kernel_rfl) (by kernel_rfl) (fun _ _ _ h=>h) (by kernel_rfl) (fun _=>rfl) ?_
     try simp only [Act.put,sA,sB,sC]
     refine skipI 28 33 rfl rfl (by kernel_rfl) (by kernel_rfl) (by kernel_rfl) (fun _ _ _ h=>h) (by kernel_rfl) (fun _=>rfl) ?_
     try simp only [Act.put,sA,sB,sC]
     refine wpAnyIn_ready (rs:=[29]) (by kernel_rfl) (by simp) ?_
     refine skipCallI 29 34 rfl rfl (by kernel_rfl) ?_ AllReadyIn.nil
     try simp only [Act.put,sA,sB,sC]
     refine takeI 30 35 (.bool false) rfl rfl (by kernel_rfl) (by kernel_rfl) (by kernel_rfl) (fun _ _ _ h=>h) (by kernel_rfl) (fun _=>rfl) (fun wz=>?_) ?_
     ·go_simp
     try simp only [Act.put,sA,sB,sC]
     refine takeI 31 36 (.bool false) rfl rfl (by kernel_rfl) (by kernel_rfl) (by kernel_rfl) (fun _ _ _ h=>h) (by kernel_rfl) (fun _=>rfl) (fun wz=>?_) ?_
     ·go_simp
     try simp only [Act.put,sA,sB,sC]
     refine takeI 32 4 (.bool false) rfl rfl (by kernel_rfl) (by kernel_rfl) (by kernel_rfl) (fun _ _ _ h=>h) (by kernel_rfl) (fun _=>rfl) (fun wz=>?_) ?_
     ·rfl
     try simp only [Act.put,sA,sB,sC]
     refine wpAnyIn_done (by kernel_rfl) ?_ _
     gi_wp2
     go_ret
     exact .inr ⟨rfl,ys++[⟨⟨nm,p,v,m,kk⟩,HX.out⟩],pre2 hys,by simpa using hx4⟩
  ·refine ⟨_,rfl,?_⟩
   try simp only [Act.put,sA,sB,sC]
   refine takeI 9 14 (.bool false) rfl rfl (by kernel_rfl) (by kernel_rfl) (by kernel_rfl) (fun _ _ _ h=>h) (by kernel_rfl) (fun _=>rfl) (fun wz=>?_) ?_
   ·rfl
   try simp only [Act.put,sA,sB,sC]
   refine skipI 10 15 rfl rfl (by kernel_rfl) (by kernel_rfl) (by kernel_rfl) (fun _ _ _ h=>h) (by kernel_rfl) (fun _=>rfl) ?_
   try simp only [Act.put,sA,sB,sC]
   refine skipI 11 16 rfl rfl (by kernel_rfl) (by kernel_rfl) (by kernel_rfl) (fun _ _ _ h=>h) (by kernel_rfl) (fun _=>rfl) ?_
   try simp only [Act.put,sA,sB,sC]
   refine skipI 12 17 rfl rfl (by kernel_rfl) (by kernel_rfl) (by kernel_rfl) (fun _ _ _ h=>h) (by kernel_rfl) (fun _=>rfl) ?_
   try simp only [Act.put,sA,sB,sC]
   refine skipI 13 18 rfl rfl (by kernel_rfl) (by kernel_rfl) (by kernel_rfl) (fun _ _ _ h=>h) (by kernel_rfl) (fun _=>rfl) ?_
   try simp only [Act.put,sA,sB,sC]
   refine skipI 14 19 rfl rfl (by kernel_rfl) (by kernel_rfl) (by kernel_rfl) (fun _ _ _ h=>h) (by kernel_rfl) (fun _=>rfl) ?_
   try simp only [Act.put,sA,sB,sC]
   refine skipI 15 20 rfl rfl (by kernel_rfl) (by kernel_rfl) (by kernel_rfl) (fun _ _ _ h=>h) (by kernel_rfl) (fun _=>rfl) ?_
   try simp only [Act.put,sA,sB,sC]
   refine skipI 16 21 rfl rfl (by kernel_rfl) (by kernel_rfl) (by kernel_rfl) (fun _ _ _ h=>h) (by kernel_rfl) (fun _=>rfl) ?_
   try simp only [Act.put,sA,sB,sC]
   refine skipI 17 22 rfl rfl (by kernel_rfl) (by kernel_rfl) (by kernel_rfl) (fun _ _ _ h=>h) (by kernel_rfl) (fun _=>rfl) ?_
   try simp only [Act.put,sA,sB,sC]
   refine skipI 18 23 rfl rfl (by kernel_rfl) (by kernel_rfl) (by kernel_rfl) (fun _ _ _ h=>h) (by kernel_rfl) (fun _=>rfl) ?_
   try simp only [Act.put,sA,sB,sC]
   refine skipI 19 24 rfl rfl (by kernel_rfl) (by kernel_rfl) (by kernel_rfl) (fun _ _ _ h=>h) (by kernel_rfl) (fun _=>rfl) ?_
   try simp only [Act.put,sA,sB,sC]
   refine skipI 20 25 rfl rfl (by kernel_rfl) (by kernel_rfl) (by kernel_rfl) (fun _ _ _ h=>h) (by kernel_rfl) (fun _=>rfl) ?_
   try simp only [Act.put,sA,sB,sC]
   refine wpAnyIn_ready (rs:=[21]) (by kernel_rfl) (by simp) ?_
   refine skipCallI 21 26 rfl rfl (by kernel_rfl) ?_ AllReadyIn.nil
   try simp only [Act.put,sA,sB,sC]
   refine takeI 22 27 (.bool false) rfl rfl (by kernel_rfl) (by kernel_rfl) (by kernel_rfl) (fun _ _ _ h=>h) (by kernel_rfl) (fun _=>rfl) (fun wz=>?_) ?_
   ·go_simp
   try simp only [Act.put,sA,sB,sC]
   refine takeI 23 28 (.bool false) rfl rfl (by kernel_rfl) (by kernel_rfl) (by kernel_rfl) (fun _ _ _ h=>h) (by kernel_rfl) (fun _=>rfl) (fun wz=>?_) ?_
   ·rfl
   try simp only [Act.put,sA,sB,sC]
   refine skipI 24 29 rfl rfl (by kernel_rfl) (by kernel_rfl) (by kernel_rfl) (fun _ _ _ h=>h) (by kernel_rfl) (fun _=>rfl) ?_
   try simp only [Act.put,sA,sB,sC]
   refine skipI 25 30 rfl rfl (by kernel_rfl) (by kernel_rfl) (by kernel_rfl) (fun _ _ _ h=>h) (by kernel_rfl) (fun _=>rfl) ?_
   try simp only [Act.put,sA,sB,sC]
   refine skipI 26 31 rfl rfl (by kernel_rfl) (by kernel_rfl) (by kernel_rfl) (fun _ _ _ h=>h) (by kernel_rfl) (fun _=>rfl) ?_
   try simp only [Act.put,sA,sB,sC]
   refine skipI 27 32 rfl rfl (by kernel_rfl) (by kernel_rfl) (by kernel_rfl) (fun _ _ _ h=>h) (by kernel_rfl) (fun _=>rfl) ?_
   try simp only [Act.put,sA,sB,sC]
   refine skipI 28 33 rfl rfl (by kernel_rfl) (by kernel_rfl) (by kernel_rfl) (fun _ _ _ h=>h) (by kernel_rfl) (fun _=>rfl) ?_
   try simp only [Act.put,sA,sB,sC]
   refine wpAnyIn_ready (rs:=[29]) (by kernel_rfl) (by simp) ?_
   refine skipCallI 29 34 rfl rfl (by kernel_rfl) ?_ AllReadyIn.nil
   try simp only [Act.put,sA,sB,sC]
   refine takeI 30 35 (.bool false) rfl rfl (by kernel_rfl) (by kernel_rfl) (by kernel_rfl) (fun _ _ _ h=>h) (by kernel_rfl) (fun _=>rfl) (fun wz=>?_) ?_
   ·go_simp
   try simp only [Act.put,sA,sB,sC]
   refine takeI 31 36 (.bool false) rfl rfl (by kernel_rfl) (by kernel_rfl) (by kernel_rfl) (fun _ _ _ h=>h) (by kernel_rfl) (fun _=>rfl) (fun wz=>?_) ?_
   ·go_simp
   try simp only [Act.put,sA,sB,sC]
   refine takeI 32 4 (.bool false) rfl rfl (by kernel_rfl) (by kernel_rfl) (by kernel_rfl) (fun _ _ _ h=>h) (by kernel_rfl) (fun _=>rfl) (fun wz=>?_) ?_
   ·rfl
   try simp only [Act.put,sA,sB,sC]
   refine wpAnyIn_done (by kernel_rfl) ?_ _
   gi_wp2
   go_ret
   exact .inr ⟨rfl,qq,hqq.trans (by simp [K.items]),hx3⟩
theorem K.items_len:∀ k:K,k.items.length=k.flat.len
 | .nil=>rfl
 | .node _ _ _ _ _ _ ah be=>by rw [K.items,K.flat,F.app_len,F.len,List.length_append,List.length_cons,K.items_len ah,K.items_len be]
theorem childrenF_any (p:Nat) (w:World):
  Calls Tryz.prog 55 #[.pointer (some ⟨p,0,none⟩)] w fun e w'=>e=.returned (.func (.func 89) #[] #[.pointer (some ⟨w.heap.size,0,none⟩)])∧w'=w.alloc (.cells #[.pointer (some ⟨p,0,none⟩)] 34):=by
 have hmf:∀ (fn:Fn) (first cap:Array Value) (w:World),(Instr.makeFunc fn first cap).run Tryz.prog w=.ok (.func fn first cap) w:=fun _ _ _ _=>rfl
 go_enter Tryz.func55,Tryz.ntmps55
 go_wp2
 go_ret
 exact ⟨rfl,rfl⟩
theorem children1_in (n:Nat) (w0:World) (S l Bt p:Nat) (v:Vd) (m:Md) (k:K) (J Jx:List (KidIn w0 S)→World→Prop) (hJD:∀ pre W,J pre W→J pre W.drew)
  (hY:∀ pre (x:KidIn w0 S) W,J pre W→pre.length<k.items.length→YieldAt Fence.wide (n-1) Tryz.prog l #[.string x.1.nm,.pointer (some ⟨x.1.p,0,none⟩)] W fun e W'=>
   (e=.returned (.bool true)∧J (pre++[x]) W'∧Below w0.heap.size W W')∨(e=.returned (.bool false)∧Jx (pre++[x]) W'))
  (W:World) (hBt:W.cell? ⟨Bt,0,none⟩=some (.pointer (some ⟨p,0,none⟩))) (hT:AtT w0 p v m k) (hS:k.flat.size≤S) (hG:G w0 W) (h0:J [] W):
  CallsIn Fence.wide n Tryz.prog 89 #[.func (.yield l) #[] #[],.pointer (some ⟨Bt,0,none⟩)] W fun e W'=>(∃ v,e=.returned v)∧
   ((∃ ys:List (KidIn w0 S),kids ys=k.items∧J ys W')∨(∃ pre:List (KidIn w0 S),kids pre <+: k.items∧Jx pre W')):=by
 obtain ⟨pk,h1,h2⟩:=hT
 have c39:=hG.cell (jG h1 39 _ (qK ..))
 have hp:=each_in w0 S l k.items.length J Jx hJD (fun m pre x W hj hl=>yieldAny rfl m (hY pre x W hj hl)) k (n-1) pk [] W h2 hS hG h0 (by simp)
 obtain ⟨a,rfl⟩:=h2.form
 clear h1 h2 hY
 refine callsIn_of_wp Tryz.func89 rfl trivial ?_ rfl
 simp only [Tryz.ntmps89,List.size_toArray,List.length_cons,List.length_nil,Nat.reduceAdd,Nat.reduceSub,Array.replicate_succ,Array.replicate_zero,List.push_toArray,List.append_toArray,List.nil_append,List.cons_append]
 gi_wp2_with (refine ⟨trivial,fun h=>(by cases h),?_⟩;gi_at_call 90;refine hp.mono ?_;clear hp;rintro e W1 (⟨rfl,ys,hys,hJ1,_⟩ | ⟨rfl,q,hq,hx⟩))
 ·go_end0
  exact ⟨⟨_,rfl⟩,.inl ⟨ys,hys,by simpa using hJ1⟩⟩
 ·go_end0
  exact ⟨⟨_,rfl⟩,.inr ⟨q,hq,by simpa using hx⟩⟩
theorem children_stops (n:Nat) (w0:World) (S Bt p:Nat) (v:Vd) (m:Md) (k:K) (w:World) (hBt:Bt<w.heap.size) (hc:w.cell? ⟨Bt,0,none⟩=some (.pointer (some ⟨p,0,none⟩))) (hT:AtT w0 p v m k) (hS:k.flat.size≤S) (hG:G w0 w):
  SeqStopsK Fence.wide n Tryz.prog 89 #[.pointer (some ⟨Bt,0,none⟩)] (fun x:KidIn w0 S=>#[Value.string x.1.nm,.pointer (some ⟨x.1.p,0,none⟩)]) (Below w0.heap.size) (fun ys=>kids ys=k.items) (fun pre=>kids pre <+: k.items) k.items.length w:=fun l J Jx W hW hJ _ hY h0=>
 children1_in n w0 S l Bt p v m k J Jx (fun pre A h=>hJ _ _ _ none h ⟨rfl,rfl,rfl,Nat.le_refl _,fun _ _ _=>rfl⟩ (fun r e=>by cases e)) hY W ((hW.cell (p:=⟨Bt,0,none⟩) hBt).trans hc) hT hS (hG.trans hW) h0
end Go.Proofs.YthfcanpkhjgomaaGreat
namespace Go.Proofs.YthfcanpkhjgomaaGreat
open Go.RowKit Go.Shelf
theorem build30 (v:Vd) (m:Md) (w:World):(Instr.build 30 #[(1,.agg (vx v).toArray),(2,.agg (mx m).toArray)]).run Tryz.prog w=.ok (.agg (nc ⟨#[]⟩ v m (.slice none 0 0))) w:=by
 refine run_build w 30 _ _ ?_
 have hz:∃ z:List Value,(Tryz.prog.info? 30).bind (·.zero)=some (.agg (List.toArray (.string ⟨#[]⟩::(z++[.slice none 0 0]))))∧z.length=39:=⟨vx Vd.zero++mx Md.zero,by kernel_rfl,by kernel_rfl⟩
 obtain ⟨z,hz,hl⟩:=hz
 have hp:(Tryz.prog.fieldsOf 30).toList.mapM (fun f=>(Tryz.prog.info? f.type).map fun i=>(f.offset,i.size))=some [(0,1),(1,35),(36,4),(40,1)]:=by kernel_rfl
 have hu2:Tryz.prog.underlying 30=some (.struct (Tryz.prog.fieldsOf 30)):=by kernel_rfl
 unfold Program.built
 cases hi:Tryz.prog.info? 30 with
 | none=>rw [hi] at hz;cases hz
 | some it=>
  rw [hi] at hz
  simp only [Option.bind_some] at hz
  simp only [hu2,hz,hp]
  show Instr.fill _ (List.toArray _) _=_
  have hx:=jQ v
  have hm:=ji m
  rw [fill_cons _ _ 1 1 35 _ (vx v) _ rfl rfl hx (by simp;omega),fill_cons _ _ 2 36 4 _ (mx m) _ rfl rfl hm (by simp [over,hx];omega),Instr.fill]
  simp only [over,nc,hx,hm]
  refine congrArg some (congrArg List.toArray ?_)
  simp only [List.take_succ_cons,List.take_zero,List.cons_append,List.nil_append,List.drop_succ_cons,Nat.reduceAdd]
  have t1:∀ r:List Value,(vx v++r).take 35=vx v:=fun r=>by
   rw [List.take_append_of_le_length (by omega),List.take_of_length_le (by omega)]
  have t2:((vx v++(z++[Value.slice none 0 0]).drop 35).drop 39)=[Value.slice none 0 0]:=by
   rw [List.drop_append,hx,List.drop_of_length_le (by omega),List.drop_drop,List.nil_append,List.drop_append,hl,List.drop_of_length_le (by omega)]
   rfl
  rw [t1,t2]
  simp
theorem exec_build30 {o:Oper} {a:Act} (parts:Array (Nat × Operand)) (ho:o.op=.build 30 parts) (v:Vd) (m:Md)
  (hp:(parts.map fun (p:Nat × Operand)=>(p.1,a.eval p.2))=#[(1,.agg (vx v).toArray),(2,.agg (mx m).toArray)]) (w:World):(execOp a.eval o).run Tryz.prog w=.ok (.value (.agg (nc ⟨#[]⟩ v m (.slice none 0 0)))) w:=by
 unfold execOp
 simp only [ho]
 have:(parts.map fun (x:Nat × Operand)=>match x with | (i,x)=>(i,a.eval x))=#[(1,.agg (vx v).toArray),(2,.agg (mx m).toArray)]:=hp
 rw [this]
 simp only [Sem.run_bind,build30 v m w,Result.andThen_ok,Sem.run_pure]
theorem qD {base e size g n cap:Nat}:∀ (vs:List Value) (o:Nat) (w:World) (xs:List Value),w.ownsRow base e size (.slice (some ⟨g,0,none⟩) n cap) n xs→o+vs.length≤xs.length→
  (w.setCells g o vs).ownsRow base e size (.slice (some ⟨g,0,none⟩) n cap) n (over xs o vs)∧w.grownBy (w.setCells g o vs) (some g)
 | [],o,w,xs,h,_=>⟨by simpa [over,World.setCells] using h,⟨rfl,rfl,rfl,Nat.le_refl _,fun _ _ _=>rfl⟩⟩
 | v::r,o,w,xs,h,hl=>by
  simp only [List.length_cons] at hl
  obtain ⟨h1,h2⟩:=h.stored o v
  obtain ⟨h3,h4⟩:=qD r (o+1) _ _ h1 (by simp;omega)
  refine ⟨?_,h2.trans h4⟩
  have:over (xs.set o v) (o+1) r=over xs o (v::r):=by
   unfold over
   rw [set_over _ _ _ (by omega)]
   have h1:(xs.take o).length=o:=by simp;omega
   have e1:(xs.take o++v::xs.drop (o+1)).take (o+1)=xs.take o++[v]:=by
    rw [List.take_append,h1,show o+1-o=1 by omega,List.take_of_length_le (by omega)]
    rfl
   have e2:(xs.take o++v::xs.drop (o+1)).drop (o+1+r.length)=xs.drop (o+(r.length+1)):=by
    rw [List.drop_append,h1,List.drop_of_length_le (l:=xs.take o) (by omega),show o+1+r.length-o=r.length+1 by omega,List.drop_succ_cons,List.drop_drop]
    simp only [List.nil_append]
    congr 1
    omega
   rw [e1,e2]
   simp
  rw [this] at h3
  exact h3
theorem owns_there {w:World} {base e size g n cap:Nat} {xs:List Value} (h:w.ownsRow base e size (.slice (some ⟨g,0,none⟩) n cap) n xs) (o k:Nat) (hk:o+k≤xs.length):w.there g o k:=fun j hj=>by
 refine ⟨?_,h.frozenAt _⟩
 have:=h.cells (g:=g) rfl (o+j) (xs[o+j]'(by omega)) (by simp)
 rw [Addr.add_mid,Nat.zero_add] at this
 rw [this];rfl
theorem exec_store30m {o:Oper} {a:Act} (x y:Operand) (ho:o.op=.store 30 x y) (g f:Nat) (c:Array Value) (hx:a.eval x=.pointer (some ⟨g,f,none⟩)) (hy:a.eval y=.agg c) (w:World) (ht:w.there g f 41)
  (hs:c.size=41) (h1:c.all (·.oneCell')=true):(execOp a.eval o).run Tryz.prog w=.ok .skip (w.setCells g f c.toList):=by
 unfold execOp
 simp only [ho,hx,hy,Sem.run_bind,Sem.run_pure,Result.andThen_ok,run_storeAt_mid (P:=Tryz.prog) w g f 30 c (by rw [hs];exact ht) (by rw [size30,hs]) h1]
theorem exec_append30 {o:Oper} {a:Act} (s x:Operand) (ho:o.op=.call { callee:=.builtin .append,args:=#[s,x],argTypes:=#[28,28] }) (base k:Nat) (v:Value) (xs:List Value) (w:World) (hs:a.eval s=v) (hown:w.ownsRow base 30 41 v k xs)
  (ad:Addr) (c:Array Value) (hx:a.eval x=.slice (some ad) 1 1) (hc:c.size=41) (hl:∀ j u,c[j]?=some u→w.cell? (ad.add j)=some u) (h1:c.all (·.oneCell')=true) (hk:k≤100000) (hb:base≤w.heap.size):
  ∃ g cap w',(execOp a.eval o).run Tryz.prog w=.ok (.value (.slice (some ⟨g,0,none⟩) (k+1) cap)) w'∧w'.ownsRow base 30 41 (.slice (some ⟨g,0,none⟩) (k+1) cap) (k+1) (xs++c.toList)∧w.grownBy w' v.ownBlock∧(v.ownBlock=some g∨g=w.heap.size):=by
 obtain ⟨i0,hi,hz0,hz1,hz2⟩:=info_parts info30
 obtain ⟨v',w',hr,h2,h3,_,h5⟩:=run_append_own_at (P:=Tryz.prog) w base 28 o.type 30 i0 (.agg z30) 41 128 Tryz.underlying28 hi hz0 hz1 hz2 jU (by decide) v k xs hown ad 1 1 c.toList (by simpa using hc) (fun j u hj=>hl j u (by simpa using hj)) (fun u hu=>(Array.all_eq_true_iff_forall_mem.1 h1) u (by simpa using hu)) (by unfold maxLen;omega) (by omega) hb
 obtain ⟨g,cap,rfl⟩:=row_form h2
 refine ⟨g,cap,w',?_,h2,h3,?_⟩
 ·unfold execOp
  simp only [ho,resolve,invoke,builtin,Sem.run_bind,Sem.run_pure,Result.andThen_ok,List.map_toArray,List.map_cons,List.map_nil,hs,hx,hr]
 ·rcases h5 with h5 | h5
  ·exact .inl h5.symm
  ·exact .inr (by simpa [Value.ownBlock] using h5)
section
variable {ops:Array Oper} {Q:Exit→Act→World→Prop} {n l:Nat}
theorem wp_region_R {id:Nat} {a:Act} {w:World} (h:∀ ops' Q',ops'=ops→Q'=Q→wpAnyIn (Fence.wide.inRound l) n Tryz.prog .any ops' Q' ops.size (Array.replicate ops.size false) a w.drew):(Code.region id ops true).wpIn (Fence.wide.inRound l) n Tryz.prog Q a w:=
 wpIn_region_any (by kernel_rfl) (h ops Q rfl rfl)
theorem valueR (i d:Nat) (v:Value) (w':World) {oi:Oper} {fuel:Nat} {listed:Array Bool} {a:Act} {w:World} {rs:List Nat} (hi:ops[i]?=some oi) (hd:oi.dst=some d) (hw:Region.wanted oi (yielded ops a.tmps)=true) (hn:∀ c,oi.op≠.defer c)
  (hx:(execOp a.eval oi).run Tryz.prog w=.ok (.value v) w') (h:wpAnyIn (Fence.wide.inRound l) n Tryz.prog .any ops Q fuel (listed.setIfInBounds i true) (a.put (some d) v) w')
  (hs:AllReadyIn (Fence.wide.inRound l) n Tryz.prog .any ops Q fuel listed a w rs):AllReadyIn (Fence.wide.inRound l) n Tryz.prog .any ops Q fuel listed a w (i::rs):=by
 refine AllReadyIn.cons hi (fun K hK=>?_) hs
 rw [if_pos hw]
 refine ⟨fun _ _=>trivial,?_⟩
 rw [Oper.semAt_plain _ _ _ hn,hx,Oper.uponIn_value,hd]
 exact hK _ _ h
theorem skipR (i:Nat) (w':World) {oi:Oper} {fuel:Nat} {listed:Array Bool} {a:Act} {w:World} {rs:List Nat} (hi:ops[i]?=some oi) (hd:oi.dst=none) (hw:Region.wanted oi (yielded ops a.tmps)=true) (hn:∀ c,oi.op≠.defer c)
  (hx:(execOp a.eval oi).run Tryz.prog w=.ok .skip w') (h:wpAnyIn (Fence.wide.inRound l) n Tryz.prog .any ops Q fuel (listed.setIfInBounds i true) a w')
  (hs:AllReadyIn (Fence.wide.inRound l) n Tryz.prog .any ops Q fuel listed a w rs):AllReadyIn (Fence.wide.inRound l) n Tryz.prog .any ops Q fuel listed a w (i::rs):=by
 refine AllReadyIn.cons hi (fun K hK=>?_) hs
 rw [if_pos hw]
 refine ⟨fun _ _=>trivial,?_⟩
 rw [Oper.semAt_plain _ _ _ hn,hx,Oper.uponIn_skip,hd]
 exact hK _ _ h
end
theorem jT {F:Fence} {n:Nat} {ops:Array Oper} {rest:List Oper} {o:Oper} {a:Act} {w:World} {Q:Exit→Act→World→Prop} (v:Value) (w':World) (hg:o.guard=none)
  (he:(execOp a.eval o).run Tryz.prog w=.ok (.value v) w') (hn:∀ c,o.op≠.defer c) (ha:∀ f,o.about Tryz.prog w a.eval=some f→F.fn f) (h:wpListIn F n Tryz.prog ops Q rest (a.put o.dst v) w'):wpListIn F n Tryz.prog ops Q (o::rest) a w:=by
 refine wpListIn_plain hg fun K hK=>?_
 refine ⟨ha,?_⟩
 rw [Oper.semAt_plain _ _ _ hn,he,Oper.uponIn_value]
 exact hK _ _ h
theorem wpListIn_skipW {F:Fence} {n:Nat} {ops:Array Oper} {rest:List Oper} {o:Oper} {a:Act} {w:World} {Q:Exit→Act→World→Prop} (w':World) (hg:o.guard=none)
  (he:(execOp a.eval o).run Tryz.prog w=.ok .skip w') (hn:∀ c,o.op≠.defer c) (ha:∀ f,o.about Tryz.prog w a.eval=some f→F.fn f) (h:wpListIn F n Tryz.prog ops Q rest (a.put o.dst undef) w'):wpListIn F n Tryz.prog ops Q (o::rest) a w:=by
 refine wpListIn_plain hg fun K hK=>?_
 refine ⟨ha,?_⟩
 rw [Oper.semAt_plain _ _ _ hn,he,Oper.uponIn_skip]
 exact hK _ _ h
section
variable {ops:Array Oper} {Q:Exit→Act→World→Prop} {n:Nat}
theorem storeI (i:Nat) (w':World) {oi:Oper} {fuel:Nat} {listed:Array Bool} {a:Act} {w:World} {rs:List Nat} (hi:ops[i]?=some oi) (hd:oi.dst=none) (hw:Region.wanted oi (yielded ops a.tmps)=true)
  (hx:(execOp a.eval oi).run Tryz.prog w=.ok .skip w') (h:wpAnyIn Fence.wide n Tryz.prog .any ops Q fuel (listed.setIfInBounds i true) a w')
  (hs:AllReadyIn Fence.wide n Tryz.prog .any ops Q fuel listed a w rs):AllReadyIn Fence.wide n Tryz.prog .any ops Q fuel listed a w (i::rs):=by
 refine AllReadyIn.cons hi (fun K hK=>?_) hs
 rw [if_pos hw]
 refine ⟨fun _ _=>trivial,?_⟩
 rw [show (Fence.wide).round=none from rfl,Oper.semAt_none,hx,Oper.uponIn_skip,hd]
 exact hK _ _ h
end
end Go.Proofs.YthfcanpkhjgomaaGreat
namespace Go.Proofs.YthfcanpkhjgomaaGreat
open Go.RowKit
variable {P R:Nat→Prop}
def Var24 (w:World) (g:Nat) (c:Array Value):Prop:=w.heap[g]?=some (.cells c 24 (0,0))
theorem Var24.lt {w:World} {g:Nat} {c:Array Value} (h:Var24 w g c):g<w.heap.size:=(Array.getElem?_eq_some_iff.1 h).1
theorem Var24.grow {w w':World} {g:Nat} {c:Array Value} (h:Var24 w g c) (hg:G w w'):Var24 w' g c:=(Below.block hg g h.lt).trans h
theorem vx_size (v:Vd):(vx v).toArray.size=35:=by simp [jQ]
theorem run_zero24 (w:World):(zeroValue 24).run Tryz.prog w=.ok (.agg (vx Vd.zero).toArray) w:=by
 have h:(Tryz.prog.info? 24).bind (·.zero)=some (.agg (vx Vd.zero).toArray):=by kernel_rfl
 cases hq:Tryz.prog.info? 24 with
 | none=>rw [hq] at h;cases h
 | some i=>
  rw [hq] at h
  simp only [Option.bind_some] at h
  simp [zeroValue,typeInfo,hq,h]
theorem exec_alloc24 {o:Oper} {a:Act} (ho:o.op=.alloc 24) (w:World):(execOp a.eval o).run Tryz.prog w=.ok (.value (.pointer (some ⟨w.heap.size,0,none⟩))) (w.alloc (.cells (vx Vd.zero).toArray 24)):=by
 unfold execOp
 simp only [ho,Instr.alloc,Sem.run_bind,run_zero24,Result.andThen_ok]
 simp [newVar,newRow,newObj,Value.cells]
 rfl
theorem exec_store24 {o:Oper} {a:Act} (x y:Operand) (ho:o.op=.store 24 x y) (g:Nat) (c old:Array Value) (hx:a.eval x=.pointer (some ⟨g,0,none⟩)) (hy:a.eval y=.agg c) (w:World) (hg:Var24 w g old)
  (hs:c.size=35) (hs':old.size=35) (h1:c.all (·.oneCell')=true):(execOp a.eval o).run Tryz.prog w=.ok .skip (w.setRow g c):=by
 unfold execOp
 simp only [ho,hx,hy,Instr.storeAt,Instr.sureAddr,Sem.run_bind,Sem.run_pure,Result.andThen_ok,run_storeVar_row (P:=Tryz.prog) w g 24 24 old c hg (by rw [size24,hs]) (by rw [hs,hs']) h1]
theorem vx_one (v:Vd):(vx v).toArray.all (·.oneCell')=true:=by
 rw [Array.all_eq_true_iff_forall_mem]
 intro x hx
 simp only [vx,List.mem_toArray,List.mem_cons,List.mem_map] at hx
 rcases hx with rfl | rfl | rfl | ⟨b,_,rfl⟩<;>rfl
theorem results_cell2 {fn:Func} {p u:Tmp} (h:fn.results=#[.cell p 24,.tmp u]) (tmps:Array Value) (w:World) (g:Nat) (cs:Array Value) (hp:tmps.getD p undef=.pointer (some ⟨g,0,none⟩)) (hg:Var24 w g cs) (hs:cs.size=35):
  (results fn tmps).run Tryz.prog w=.ok (.tuple #[.agg cs,tmps.getD u undef]) w:=by
 have hu:Tryz.prog.underlying 24=some (.struct (Tryz.prog.fieldsOf 24)):=by kernel_rfl
 rw [results_cell_tmp h,hp]
 simp only [asAddr,Sem.run_pure,Result.andThen_ok,run_loadVar_row (P:=Tryz.prog) w g 24 24 cs (0,0) _ hg hu rfl (by rw [size24,hs])]
def atV (t:T3) (s:ByteArray):Vd:=match subS t s with | none=>Vd.zero | some x=>x.1
theorem at_any (p:Nat) (t:T3) (s:ByteArray) (w:World) (ht:AtTF P R w p t.1 t.2.1 t.2.2) (hr:t.2.2.rises) (hs:s.size≤1048576):
  Calls Tryz.prog 82 #[.pointer (some ⟨p,0,none⟩),.string s] w fun e w'=>e=.returned (.tuple #[.agg (vx (atV t s)).toArray,.bool (subS t s).isSome])∧G w w':=by
 have hG:G w (w.alloc (.cells (vx Vd.zero).toArray 24)):=G.alloc _ _
 have C1:=sub_any p t s _ (ht.grow hG) hr hs
 have hV:Var24 (w.alloc (.cells (vx Vd.zero).toArray 24)) w.heap.size (vx Vd.zero).toArray:=World.alloc_heap_new w _
 have HV:=hid (⟨hV,hG⟩:_∧_)
 have hat:atV t s=(match subS t s with | none=>Vd.zero | some x=>x.1):=rfl
 cases hS:subS t s with
 | none=>
  rw [hS] at C1 hat
  rw [hat]
  clear hat hS ht hr hV hG
  go_enter Tryz.func82,Tryz.ntmps82
  go_upto_region 1 with ((with_reducible refine jJ (.pointer (some ⟨w.heap.size,0,none⟩)) (w.alloc (.cells (vx Vd.zero).toArray 24)) ?_ ?_ ?_);exact exec_alloc24 rfl _;kernel_rfl)
  generalize w.alloc (.cells (vx Vd.zero).toArray 24)=w1 at *
  generalize hB:w.heap.size=B at *
  have HB:=hid hB
  clear hB
  go_wp2_with (first
   | (go_at_call 84;refine C1.mono ?_;rintro e w2 ⟨u,rfl,hu,hg2⟩;have hu2:u=.pointer none:=hu;subst hu2;have HV2:=hid (⟨HV.out.1.grow hg2,HV.out.2.trans hg2⟩:Var24 w2 B (vx Vd.zero).toArray∧G w w2);clear hu hg2)
   | ((with_reducible refine jA (.agg (vx Vd.zero).toArray) ?_ ?_ ?_);exact exec_build 24 _ rfl _ _ _ rfl (run_build _ 24 _ _ (by kernel_rfl));kernel_rfl)
   | ((with_reducible refine jP (w2.setRow B (vx Vd.zero).toArray) ?_ ?_ ?_);exact exec_store24 _ _ rfl B _ (vx Vd.zero).toArray rfl rfl _ HV2.out.1 (vx_size _) (vx_size _) (vx_one _);kernel_rfl))
  refine bodyPost_ret (results_cell2 (p:=4) (u:=5) rfl _ _ B (vx Vd.zero).toArray rfl (setRow_heap _ _ _ _ 24 _ HV2.out.1) (vx_size _)) rfl ⟨rfl,?_⟩
  have hBw:=HB.out
  exact Below.trans (B:=w.heap.size) HV2.out.2 ⟨rfl,rfl,rfl,by simp,fun b hb=>setRow_other _ B b _ (by omega)⟩
 | some x=>
  rw [hS] at C1 hat
  rw [hat]
  clear hat hS ht hr hV hG
  go_enter Tryz.func82,Tryz.ntmps82
  go_upto_region 1 with ((with_reducible refine jJ (.pointer (some ⟨w.heap.size,0,none⟩)) (w.alloc (.cells (vx Vd.zero).toArray 24)) ?_ ?_ ?_);exact exec_alloc24 rfl _;kernel_rfl)
  generalize w.alloc (.cells (vx Vd.zero).toArray 24)=w1 at *
  generalize hB:w.heap.size=B at *
  have HB:=hid hB
  clear hB
  go_wp2_with (first
   | (go_at_call 84;refine C1.mono ?_;rintro e w2 ⟨u,rfl,⟨p2,hu,h2⟩,hg2⟩;subst hu;have HV2:=hid (⟨HV.out.1.grow hg2,HV.out.2.trans hg2⟩:Var24 w2 B (vx Vd.zero).toArray∧G w w2);obtain ⟨ak,hli,_⟩:=h2.kids;have HL:Hid (Lies w2 p2 0 (vx x.1).toArray):=fun j u hj=>hli j u (by rw [tc,List.getElem?_toArray,List.getElem?_append_left (by have:=(Array.getElem?_eq_some_iff.1 hj).1;simpa using this)];simpa using hj);clear h2 hg2 hli)
   | ((with_reducible refine jA (.agg (vx x.1).toArray) ?_ ?_ ?_);exact jE _ rfl p2 0 rfl _ (vx_size _) HL.out;kernel_rfl)
   | ((with_reducible refine jP (w2.setRow B (vx x.1).toArray) ?_ ?_ ?_);exact exec_store24 _ _ rfl B _ (vx Vd.zero).toArray rfl rfl _ HV2.out.1 (vx_size _) (vx_size _) (vx_one _);kernel_rfl))
  refine bodyPost_ret (results_cell2 (p:=4) (u:=5) rfl _ _ B (vx x.1).toArray rfl (setRow_heap _ _ _ _ 24 _ HV2.out.1) (vx_size _)) rfl ⟨rfl,?_⟩
  have hBw:=HB.out
  exact Below.trans (B:=w.heap.size) HV2.out.2 ⟨rfl,rfl,rfl,by simp,fun b hb=>setRow_other _ B b _ (by omega)⟩
end Go.Proofs.YthfcanpkhjgomaaGreat
