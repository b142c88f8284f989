import Derived.Test.YthfcanpkhjgomaaGreatCount
namespace Go.Proofs.YthfcanpkhjgomaaGreat
open Go.RowKit
def wpS (s:Nat) (md:Region.Mode) (ops:Array Oper) (Q:Exit→Act→World→Prop):Nat→Array Bool→Act→World→Prop
 | 0,listed,a,w0=>∀ w,G w0 w→Region.ready md ops listed=[]∧Q .normal a w
 | n+1,listed,a,w0=>∀ w,G w0 w→(Region.ready md ops listed=[]→Q .normal a w)∧
  ∀ i∈Region.ready md ops listed,wpOp Tryz.prog ops Q i (fun a' w'=>(i=s→Region.ready md ops (listed.setIfInBounds i true)=[]∧Q .normal a' w')∧(i≠s→G w w'∧wpS s md ops Q n (listed.setIfInBounds i true) a' w')) a w
theorem wpS.grow {s:Nat} {md:Region.Mode} {ops:Array Oper} {Q:Exit→Act→World→Prop} {n:Nat} {listed:Array Bool} {a:Act} {w w':World} (h:wpS s md ops Q n listed a w) (hg:G w w'):wpS s md ops Q n listed a w':=by
 cases n with
 | zero=>exact fun x hx=>h x (hg.trans hx)
 | succ n=>exact fun x hx=>h x (hg.trans hx)
theorem any_none {md:Region.Mode} {ops:Array Oper} {Q:Exit→Act→World→Prop} {listed:Array Bool} {a:Act} {w:World} (hr:Region.ready md ops listed=[]) (h:Q .normal a w):∀ n,wpAny Tryz.prog md ops Q n listed a w
 | 0=>⟨hr,h⟩
 | n+1=>⟨fun _=>h,fun i hi=>by rw [hr] at hi;cases hi⟩
theorem wpS.any {s:Nat} {md:Region.Mode} {ops:Array Oper} {Q:Exit→Act→World→Prop}:∀ (n:Nat) (listed:Array Bool) (a:Act) (w:World),wpS s md ops Q n listed a w→wpAny Tryz.prog md ops Q n listed a w
 | 0,_,_,w,h=>h w (G.refl w)
 | n+1,_,_,w,h=>⟨(h w (G.refl w)).1,fun i hi=>wpOp_mono (fun a' w' h'=>by
   by_cases e:i=s
   ·exact any_none (h'.1 e).1 (h'.1 e).2 n
   ·exact wpS.any n _ a' w' (h'.2 e).2) ((h w (G.refl w)).2 i hi)⟩
theorem wpS_first {s:Nat} {md:Region.Mode} {ops:Array Oper} {Q:Exit→Act→World→Prop} {i:Nat} {oi:Oper} {v:Value} (hi:ops[i]?=some oi) (hsel:∀ (j:Nat) (o:Oper) cs b,ops[j]?=some o→o.op≠.select cs b)
  (hQ:∀ c a w,Q (.panic c) (a.put oi.dst v) w→Q (.panic c) a w) (his:i≠s) (hdep:∀ os,ops[s]?=some os→∃ e∈os.after,Region.binds md e=true∧e.on=i):
  ∀ (n:Nat) (listed:Array Bool) (a:Act) (w0:World),(∀ j oj,ops[j]?=some oj→j≠i→listed.getD j true=false→(∀ e∈oj.after,Region.binds md e=true→e.on≠i)→oi.apart ops oj=true)→
   i∈Region.ready md ops listed→YieldsG ops w0 oi v a→wpS s md ops Q n (listed.setIfInBounds i true) (a.put oi.dst v) w0→wpS s md ops Q (n+1) listed a w0:=by
 intro n
 induction n with
 | zero=>
  intro listed a w0 _ hr hy H w hg
  refine ⟨fun e=>(by rw [e] at hr;cases hr),fun j hj=>?_⟩
  by_cases hji:j=i
  ·subst hji
   exact hy.wpOp hi hg fun w' hg'=>⟨fun e=>absurd e his,fun _=>⟨hg',fun x hx=>H x ((hg.trans hg').trans hx)⟩⟩
  ·have:=ready_mono hj hji
   rw [(H w hg).1] at this
   cases this
 | succ n ih=>
  intro listed a w0 hfree hr hy H w hg
  refine ⟨fun e=>(by rw [e] at hr;cases hr),fun j hj=>?_⟩
  by_cases hji:j=i
  ·subst hji
   exact hy.wpOp hi hg fun w' hg'=>⟨fun e=>absurd e his,fun _=>⟨hg',H.grow (hg.trans hg')⟩⟩
  ·obtain ⟨hun,oj,hoj,hall⟩:=mem_ready.1 hj
   have hlist:∀ e∈oj.after,Region.binds md e=true→e.on≠i:=fun e he hb heq=>by
    have h1:=hall e he hb
    rw [heq] at h1
    have h0:=(mem_ready.1 hr).1
    by_cases hlt:i<listed.size
    ·simp [Array.getD,hlt] at h0 h1
     rw [h0] at h1
     cases h1
    ·simp [Array.getD,hlt] at h1
   have hjs:j≠s:=fun e=>by
    subst e
    obtain ⟨e,he,hb,heq⟩:=hdep oj hoj
    exact hlist e he hb heq
   have h2:=wpOp_before hoj (hfree j oj hoj hji hun hlist) (fun cs b=>hsel i oi cs b hi) (fun cs b=>hsel j oj cs b hoj) hQ hy ((H w hg).2 j (ready_mono hj hji))
   refine wpOp_mono (fun a' w' h3=>⟨fun e=>absurd e hjs,fun _=>⟨(h3.2.2 hjs).1,ih (listed.setIfInBounds j true) a' w' ?_ (ready_mono hr (Ne.symm hji)) (h3.1.mono (hg.trans (h3.2.2 hjs).1)) ?_⟩⟩) h2
   ·intro k ok hk hki hunk hnok
    refine hfree k ok hk hki ?_ hnok
    by_cases hjk:j=k
    ·subst hjk;exact hun
    ·rwa [getD_set_ne true hjk] at hunk
   ·rw [Array.setIfInBounds_comm _ _ hji]
    exact (h3.2.2 hjs).2
section
variable {s:Nat} {ops:Array Oper} {Q:Exit→Act→World→Prop} {md:Region.Mode}
def depsOn (md:Region.Mode) (ops:Array Oper) (s i:Nat):Bool:=(i != s)&&(match ops[s]? with | some os=>os.after.any fun e=>Region.binds md e&&e.on==i | none=>true)
theorem depsOn_spec {i:Nat} (h:depsOn md ops s i=true):i≠s∧∀ os,ops[s]?=some os→∃ e∈os.after,Region.binds md e=true∧e.on=i:=by
 unfold depsOn at h
 simp only [Bool.and_eq_true,bne_iff_ne] at h
 refine ⟨h.1,fun os ho=>?_⟩
 have h2:=h.2
 rw [ho] at h2
 simp only [Array.any_eq_true',Bool.and_eq_true,beq_iff_eq] at h2
 obtain ⟨e,he,hb,hon⟩:=h2
 exact ⟨e,he,hb,hon⟩
theorem wp_region_S (s:Nat) {id:Nat} {a:Act} {w:World} (h:wpS s .any ops Q ops.size (Array.replicate ops.size false) a w.drew):(Code.region id ops true).wp Tryz.prog Q a w:=
 wp_region_any (by kernel_rfl) (wpS.any _ _ _ _ h)
theorem takeS (i d:Nat) (v:Value) {oi:Oper} {n:Nat} {listed:Array Bool} {a:Act} {w0:World} (hi:ops[i]?=some oi) (hd:oi.dst=some d)
  (hs:Region.noSelect ops=true) (hf:Region.free md ops listed i=true) (hr:(Region.ready md ops listed).contains i=true) (hp:depsOn md ops s i=true)
  (hQ:∀ c a w,Q (.panic c) (a.put (some d) v) w→Q (.panic c) a w) (hw:Region.wanted oi (yielded ops a.tmps)=true) (hy:∀ w,G w0 w→(execOp a.eval oi).run Tryz.prog w=.ok (.value v) w)
  (h:wpS s md ops Q n (listed.setIfInBounds i true) (a.put (some d) v) w0):wpS s md ops Q (n+1) listed a w0:=
 wpS_first hi (Region.noSelect_spec hs) (by rw [hd];exact hQ) (depsOn_spec hp).1 (depsOn_spec hp).2 n listed a w0 (Region.free_spec hi hf) (by simpa using hr)
  (.inl ⟨hw,fun w hg=>by unfold Oper.quietAt;rw [hy w hg];exact ⟨rfl,rfl⟩⟩) (by rw [hd];exact h)
theorem nextS (i d:Nat) {oi:Oper} {n:Nat} {listed:Array Bool} {a:Act} {w0:World} (f:FuncId) (args:Array Value) (hi:ops[i]?=some oi) (hd:oi.dst=some d) (his:i≠s) (hr:Region.ready md ops listed=[i]) (hw:Region.wanted oi (yielded ops a.tmps)=true)
  (hx:∀ w,(execOp a.eval oi).run Tryz.prog w=.ok (.enter f args) w) (hc:∀ w,G w0 w→Calls Tryz.prog f args w fun e w'=>∃ v,e=.returned v∧G w w'∧wpS s md ops Q n (listed.setIfInBounds i true) (a.put (some d) v) w'):wpS s md ops Q (n+1) listed a w0:=fun w hg=>by
 refine ⟨fun e=>(by rw [hr] at e;cases e),fun j hj=>?_⟩
 rw [hr] at hj
 obtain rfl:j=i:=by simpa using hj
 unfold Go.wpOp
 rw [hi]
 simp only [hw,if_true]
 left
 unfold Oper.wp
 rw [hx]
 refine Calls.mono (hc w hg) ?_
 rintro e w' ⟨v,rfl,hg',h⟩
 rw [hd]
 exact ⟨fun e=>absurd e his,fun _=>⟨hg',h⟩⟩
theorem lastS {oi:Oper} {n:Nat} {listed:Array Bool} {a:Act} {w0:World} (hi:ops[s]?=some oi) (hd:oi.dst=none) (hr:Region.ready md ops listed=[s]) (hr2:Region.ready md ops (listed.setIfInBounds s true)=[]) (hw:Region.wanted oi (yielded ops a.tmps)=true)
  (hx:∀ w,G w0 w→∃ w',(execOp a.eval oi).run Tryz.prog w=.ok .skip w'∧Q .normal a w'):wpS s md ops Q (n+1) listed a w0:=fun w hg=>by
 refine ⟨fun e=>(by rw [hr] at e;cases e),fun j hj=>?_⟩
 rw [hr] at hj
 obtain rfl:j=s:=by simpa using hj
 unfold Go.wpOp
 rw [hi]
 simp only [hw,if_true]
 left
 unfold Oper.wp
 obtain ⟨w',h1,h2⟩:=hx w hg
 rw [h1,Oper.upon_skip,hd]
 exact ⟨fun _=>⟨hr2,h2⟩,fun e=>absurd rfl e⟩
end
end Go.Proofs.YthfcanpkhjgomaaGreat
