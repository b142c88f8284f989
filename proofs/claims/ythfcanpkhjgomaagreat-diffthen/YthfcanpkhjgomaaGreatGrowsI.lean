import Derived.Test.YthfcanpkhjgomaaGreatAtA
namespace Go.Proofs.YthfcanpkhjgomaaGreat
open Go.RowKit
def noDefer (ops:Array Oper):Bool:=ops.all fun o=>match o.op with | .defer _=>false | _=>true
theorem noDefer_spec {ops:Array Oper} (h:noDefer ops=true) {i:Nat} {o:Oper} (hi:ops[i]?=some o):∀ c,o.op≠.defer c:=fun c hc=>by
 unfold noDefer at h
 rw [Array.all_eq_true_iff_forall_mem] at h
 have:=h o (Array.mem_of_getElem? hi)
 rw [hc] at this
 cases this
section
variable {F:Fence} {n:Nat} {md:Region.Mode} {ops:Array Oper} {Q:Exit→Act→World→Prop}
def QuietI (F:Fence) (n:Nat) (o:Oper) (a:Act) (w:World) (v:Value):Prop:=(execOp a.eval o).run Tryz.prog w=.ok (.value v) w∨∃ f args,(execOp a.eval o).run Tryz.prog w=.ok (.enter f args) w∧CallsIn F (n-1) Tryz.prog f args w fun e w'=>e=.returned v∧G w w'
def YieldsI (F:Fence) (n:Nat) (ops:Array Oper) (w0:World) (o:Oper) (v:Value) (a:Act):Prop:=
 (Region.wanted o (yielded ops a.tmps)=true∧∀ w,G w0 w→QuietI F n o a w v)∨(Region.wanted o (yielded ops a.tmps)=false∧v=undef)
theorem YieldsI.of_same {w0:World} {o:Oper} {v:Value} {a a':Act} (h:YieldsI F n ops w0 o v a) (he:execOp a'.eval o=execOp a.eval o) (hw:Region.wanted o (yielded ops a'.tmps)=Region.wanted o (yielded ops a.tmps)):YieldsI F n ops w0 o v a':=by
 unfold YieldsI QuietI at *
 rw [he,hw]
 exact h
theorem YieldsI.mono {w0 w1:World} {o:Oper} {v:Value} {a:Act} (h:YieldsI F n ops w0 o v a) (hg:G w0 w1):YieldsI F n ops w1 o v a:=
 h.imp (fun h=>⟨h.1,fun w hw=>h.2 w (hg.trans hw)⟩) id
theorem YieldsI.wpOpIn (hF:∀ f,F.fn f) (hn:F.depth.isSome=true→1≤n) {w0 w:World} {i:Nat} {o:Oper} {v:Value} {a:Act} {K:Act→World→Prop} (h:YieldsI F n ops w0 o v a) (hi:ops[i]?=some o) (hd:∀ c,o.op≠.defer c) (hg:G w0 w) (hk:∀ w',G w w'→K (a.put o.dst v) w'):wpOpIn F n Tryz.prog ops Q i K a w:=by
 unfold Go.wpOpIn
 simp only [hi]
 rcases h with ⟨hw,h⟩ | ⟨hw,rfl⟩
 ·simp only [hw,if_true,Oper.wpIn]
  refine ⟨fun f _=>hF f,?_⟩
  rw [Oper.semAt_plain _ _ _ hd]
  rcases h w hg with h | ⟨f,args,h1,h2⟩
  ·rw [h,Oper.uponIn_value];exact hk _ (G.refl _)
  ·rw [h1,Oper.uponIn_enter]
   refine ⟨hn,h2.mono ?_⟩
   rintro e w' ⟨rfl,hg'⟩
   exact hk _ hg'
 ·simp only [hw,Bool.false_eq_true,if_false]
  exact ⟨fun f _=>hF f,hk _ (G.refl _)⟩
theorem wpOpIn_beforeI {w0:World} {j:Nat} {oi oj:Oper} {v:Value} (hj:ops[j]?=some oj) (hdj:∀ c,oj.op≠.defer c) (hap:oi.apart ops oj=true)
  (hsi:∀ cs b,oi.op≠.select cs b) (hsj:∀ cs b,oj.op≠.select cs b)
  (hQ:∀ c a w,Q (.panic c) (a.put oi.dst v) w→Q (.panic c) a w) {K:Act→World→Prop} {a:Act} {w:World}
  (hy:YieldsI F n ops w0 oi v a) (h:wpOpIn F n Tryz.prog ops Q j K (a.put oi.dst v) w):
  wpOpIn F n Tryz.prog ops Q j (fun a' w'=>YieldsI F n ops w0 oi v a'∧K (a'.put oi.dst v) w') a w:=by
 obtain ⟨h1,h2,h3⟩:=Oper.apart_spec hap
 have keep:∀ (a:Act),YieldsI F n ops w0 oi v a→∀ u,YieldsI F n ops w0 oi v (a.put oj.dst u):=fun a hy u=>
  hy.of_same (execOp_put oi hsi a oj.dst u h3) (wanted_put oi a oj.dst u h3)
 have keepD:∀ d,YieldsI F n ops w0 oi v { a with defers:=d::a.defers }:=fun d=>hy.of_same rfl rfl
 unfold wpOpIn at *
 simp only [hj] at *
 rw [wanted_put oj a oi.dst v h1,about_put oj w a oi.dst v h1] at h
 split
 ·rename_i hw
  simp only [hw,if_true] at h
  unfold Oper.wpIn at *
  rw [about_put oj w a oi.dst v h1] at h
  refine ⟨h.1,?_⟩
  have h:=h.2
  rw [Oper.semAt_plain _ _ _ hdj,execOp_put oj hsj a oi.dst v h1] at h
  rw [Oper.semAt_plain _ _ _ hdj]
  generalize (execOp a.eval oj).run Tryz.prog w=r at *
  cases r with
  | ok x w'=>
   cases x<;>simp only [Oper.uponIn] at h ⊢
   case value u=>exact ⟨keep a hy u,by rw [← Act.put_comm a v u h2];exact h⟩
   case skip=>exact ⟨keep a hy _,by rw [← Act.put_comm a v undef h2];exact h⟩
   case defer d=>
    refine ⟨keep _ (keepD d) _,?_⟩
    rw [← Act.put_comm _ v undef h2,← Act.put_defers]
    exact h
   case enter f args=>
    refine ⟨h.1,CallsIn.mono h.2 fun e w'' he=>?_⟩
    cases e with
    | returned u=>exact ⟨keep a hy u,by rw [← Act.put_comm a v u h2];exact he⟩
    | panicked c=>exact hQ _ _ _ he
    | outgrown=>exact he
   case row row args=>exact ⟨h.1,RowsIn.mono h.2 fun u w'' he=>⟨keep a hy u,by rw [← Act.put_comm a v u h2];exact he⟩⟩
   case round l f tmps assign body=>
    refine ⟨h.1,RoundIn.mono h.2 fun e w'' he=>?_⟩
    cases e with
    | returned u=>exact ⟨keep a hy u,by rw [← Act.put_comm a v u h2];exact he⟩
    | panicked c=>exact hQ _ _ _ he
    | outgrown=>exact he
  | halt x w'=>
   cases x<;>simp only [Oper.uponIn] at h ⊢
   case panic u=>exact hQ _ _ _ h
 ·rename_i hw
  simp only [hw] at h
  exact ⟨h.1,keep a hy _,by rw [← Act.put_comm a v undef h2];exact h.2⟩
def wpI (F:Fence) (n:Nat) (md:Region.Mode) (ops:Array Oper) (Q:Exit→Act→World→Prop):Nat→Array Bool→Act→World→Prop
 | 0,listed,a,w0=>∀ w,G w0 w→Region.ready md ops listed=[]∧Q .normal a w
 | k+1,listed,a,w0=>∀ w,G w0 w→(Region.ready md ops listed=[]→Q .normal a w)∧
  ∀ i∈Region.ready md ops listed,wpOpIn F n Tryz.prog ops Q i (fun a' w'=>G w w'∧wpI F n md ops Q k (listed.setIfInBounds i true) a' w') a w
theorem wpI.grow {k:Nat} {listed:Array Bool} {a:Act} {w w':World} (h:wpI F n md ops Q k listed a w) (hg:G w w'):wpI F n md ops Q k listed a w':=by
 cases k with
 | zero=>exact fun x hx=>h x (hg.trans hx)
 | succ k=>exact fun x hx=>h x (hg.trans hx)
theorem wpI.any:∀ (k:Nat) (listed:Array Bool) (a:Act) (w:World),wpI F n md ops Q k listed a w→wpAnyIn F n Tryz.prog md ops Q k listed a w
 | 0,_,_,w,h=>h w (G.refl w)
 | k+1,_,_,w,h=>⟨(h w (G.refl w)).1,fun i hi=>wpOpIn_mono (fun a' w' h'=>wpI.any k _ a' w' h'.2) ((h w (G.refl w)).2 i hi)⟩
theorem wpI_first (hF:∀ f,F.fn f) (hn:F.depth.isSome=true→1≤n) (hnd:noDefer ops=true) {i:Nat} {oi:Oper} {v:Value} (hi:ops[i]?=some oi) (hsel:∀ (j:Nat) (o:Oper) cs b,ops[j]?=some o→o.op≠.select cs b)
  (hQ:∀ c a w,Q (.panic c) (a.put oi.dst v) w→Q (.panic c) a w):
  ∀ (k:Nat) (listed:Array Bool) (a:Act) (w0:World),(∀ j oj,ops[j]?=some oj→j≠i→listed.getD j true=false→(∀ e∈oj.after,Region.binds md e=true→e.on≠i)→oi.apart ops oj=true)→
   i∈Region.ready md ops listed→YieldsI F n ops w0 oi v a→wpI F n md ops Q k (listed.setIfInBounds i true) (a.put oi.dst v) w0→wpI F n md ops Q (k+1) listed a w0:=by
 intro k
 induction k with
 | zero=>
  intro listed a w0 _ hr hy H w hg
  refine ⟨fun e=>(by rw [e] at hr;cases hr),fun j hj=>?_⟩
  by_cases hji:j=i
  ·subst hji
   exact hy.wpOpIn hF hn hi (noDefer_spec hnd hi) hg fun w' hg'=>⟨hg',fun x hx=>H x ((hg.trans hg').trans hx)⟩
  ·have:=ready_mono hj hji
   rw [(H w hg).1] at this
   cases this
 | succ k ih=>
  intro listed a w0 hfree hr hy H w hg
  refine ⟨fun e=>(by rw [e] at hr;cases hr),fun j hj=>?_⟩
  by_cases hji:j=i
  ·subst hji
   exact hy.wpOpIn hF hn hi (noDefer_spec hnd hi) hg fun w' hg'=>⟨hg',H.grow (hg.trans hg')⟩
  ·obtain ⟨hun,oj,hoj,hall⟩:=mem_ready.1 hj
   have hno:∀ e∈oj.after,Region.binds md e=true→e.on≠i:=fun e he hb heq=>by
    have h1:=hall e he hb
    rw [heq] at h1
    have h0:=(mem_ready.1 hr).1
    by_cases hlt:i<listed.size
    ·simp [Array.getD,hlt] at h0 h1
     rw [h0] at h1
     cases h1
    ·simp [Array.getD,hlt] at h1
   have h2:=wpOpIn_beforeI hoj (noDefer_spec hnd hoj) (hfree j oj hoj hji hun hno) (fun cs b=>hsel i oi cs b hi) (fun cs b=>hsel j oj cs b hoj) hQ hy ((H w hg).2 j (ready_mono hj hji))
   refine wpOpIn_mono (fun a' w' h3=>⟨h3.2.1,ih (listed.setIfInBounds j true) a' w' ?_ (ready_mono hr (Ne.symm hji)) (h3.1.mono (hg.trans h3.2.1)) ?_⟩) h2
   ·intro l ol hl hli hunl hnol
    refine hfree l ol hl hli ?_ hnol
    by_cases hjl:j=l
    ·subst hjl;exact hun
    ·rwa [getD_set_ne true hjl] at hunl
   ·rw [Array.setIfInBounds_comm _ _ hji]
    exact h3.2.2
structure Lets (F:Fence) (n:Nat):Prop where
 fn:∀ f,F.fn f
 dp:F.depth.isSome=true→1≤n
theorem lets_wide {n:Nat}:Lets Fence.wide n:=⟨fun _=>trivial,fun h=>by cases h⟩
theorem lets_round {n l:Nat}:Lets (Fence.wide.inRound l) n:=⟨fun _=>trivial,fun h=>by cases h⟩
theorem wp_region_II {id:Nat} {a:Act} {w:World} (h:wpI F n .any ops Q ops.size (Array.replicate ops.size false) a w.drew):(Code.region id ops true).wpIn F n Tryz.prog Q a w:=
 wpIn_region_any (by kernel_rfl) (wpI.any _ _ _ _ h)
theorem takeII (hL:Lets F n) (i d:Nat) (v:Value) {oi:Oper} {k:Nat} {listed:Array Bool} {a:Act} {w0:World} (hi:ops[i]?=some oi) (hd:oi.dst=some d) (hnd:noDefer ops=true)
  (hs:Region.noSelect ops=true) (hf:Region.free md ops listed i=true) (hr:(Region.ready md ops listed).contains i=true)
  (hQ:∀ c a w,Q (.panic c) (a.put (some d) v) w→Q (.panic c) a w) (hw:Region.wanted oi (yielded ops a.tmps)=true) (hy:∀ w,G w0 w→(execOp a.eval oi).run Tryz.prog w=.ok (.value v) w)
  (h:wpI F n md ops Q k (listed.setIfInBounds i true) (a.put (some d) v) w0):wpI F n md ops Q (k+1) listed a w0:=
 wpI_first hL.fn hL.dp hnd hi (Region.noSelect_spec hs) (by rw [hd];exact hQ) k listed a w0 (Region.free_spec hi hf) (by simpa using hr) (.inl ⟨hw,fun w hg=>.inl (hy w hg)⟩) (by rw [hd];exact h)
theorem skipII (hL:Lets F n) (i d:Nat) {oi:Oper} {k:Nat} {listed:Array Bool} {a:Act} {w0:World} (hi:ops[i]?=some oi) (hd:oi.dst=some d) (hnd:noDefer ops=true)
  (hs:Region.noSelect ops=true) (hf:Region.free md ops listed i=true) (hr:(Region.ready md ops listed).contains i=true)
  (hQ:∀ c a w,Q (.panic c) (a.put (some d) undef) w→Q (.panic c) a w) (hw:Region.wanted oi (yielded ops a.tmps)=false)
  (h:wpI F n md ops Q k (listed.setIfInBounds i true) (a.put (some d) undef) w0):wpI F n md ops Q (k+1) listed a w0:=
 wpI_first hL.fn hL.dp hnd hi (Region.noSelect_spec hs) (by rw [hd];exact hQ) k listed a w0 (Region.free_spec hi hf) (by simpa using hr) (.inr ⟨hw,rfl⟩) (by rw [hd];exact h)
theorem callII (hL:Lets F n) (i d:Nat) (v:Value) {oi:Oper} {k:Nat} {listed:Array Bool} {a:Act} {w0:World} (f:FuncId) (args:Array Value) (hi:ops[i]?=some oi) (hd:oi.dst=some d) (hnd:noDefer ops=true)
  (hs:Region.noSelect ops=true) (hf:Region.free md ops listed i=true) (hr:(Region.ready md ops listed).contains i=true)
  (hQ:∀ c a w,Q (.panic c) (a.put (some d) v) w→Q (.panic c) a w) (hw:Region.wanted oi (yielded ops a.tmps)=true) (hx:∀ w,(execOp a.eval oi).run Tryz.prog w=.ok (.enter f args) w)
  (hc:∀ w,G w0 w→CallsIn F (n-1) Tryz.prog f args w fun e w'=>e=.returned v∧G w w')
  (h:wpI F n md ops Q k (listed.setIfInBounds i true) (a.put (some d) v) w0):wpI F n md ops Q (k+1) listed a w0:=
 wpI_first hL.fn hL.dp hnd hi (Region.noSelect_spec hs) (by rw [hd];exact hQ) k listed a w0 (Region.free_spec hi hf) (by simpa using hr) (.inl ⟨hw,fun w hg=>.inr ⟨f,args,hx w,hc w hg⟩⟩) (by rw [hd];exact h)
theorem doneII {k:Nat} {listed:Array Bool} {a:Act} {w0:World} (hr:Region.ready md ops listed=[]) (h:∀ w,G w0 w→Q .normal a w):wpI F n md ops Q k listed a w0:=by
 cases k with
 | zero=>exact fun w hg=>⟨hr,h w hg⟩
 | succ k=>exact fun w hg=>⟨fun _=>h w hg,fun i hi=>by rw [hr] at hi;cases hi⟩
end
end Go.Proofs.YthfcanpkhjgomaaGreat
