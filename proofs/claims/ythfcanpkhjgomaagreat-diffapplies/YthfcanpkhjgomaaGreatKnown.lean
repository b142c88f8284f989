import Derived.Test.YthfcanpkhjgomaaGreatVa
set_option maxRecDepth 100000
set_option maxHeartbeats 2000000
namespace Go.Proofs.YthfcanpkhjgomaaGreat
open Go.RowKit
def GB (K:Nat) (w w':World):Prop:=But K w w'
theorem GB.refl {K:Nat} (w:World):GB K w w:=But.refl _ _
theorem GB.trans {K:Nat} {a b c:World} (h:GB K a b) (k:GB K b c):GB K a c:=But.trans h k
theorem GB.of {K:Nat} {a b:World} (h:G a b):GB K a b:=But.of_below h
theorem GB.drew {K:Nat} (w:World):GB K w w.drew:=GB.of (G.drew w)
theorem GB.cell {K:Nat} {w w':World} {a:Addr} {v:Value} (h:GB K w w') (hn:a.block≠K) (hc:w.cell? a=some v):w'.cell? a=some v:=But.cell h hc hn
variable {K:Nat}
section
variable {ops:Array Oper} {Q:Exit→Act→World→Prop} {md:Region.Mode}
end
end Go.Proofs.YthfcanpkhjgomaaGreat
namespace Go.Proofs.YthfcanpkhjgomaaGreat
open Go.RowKit
def wpM (s1 s2 K:Nat) (md:Region.Mode) (ops:Array Oper) (Q:Exit→Act→World→Prop):Nat→Array Bool→Act→World→Prop
 | 0,listed,a,w0=>∀ w,G w0 w→Region.ready md ops listed=[]∧Q .normal a w
 | n+1,listed,a,w0=>∀ w,G w0 w→(Region.ready md ops listed=[]→Q .normal a w)∧
  ∀ i∈Region.ready md ops listed,wpOp Tryz.prog ops Q i (fun a' w'=>(i=s1→GB K w w'∧wpS s2 md ops Q n (listed.setIfInBounds i true) a' w')∧(i≠s1→G w w'∧wpM s1 s2 K md ops Q n (listed.setIfInBounds i true) a' w')) a w
theorem wpM.grow {s1 s2 K:Nat} {md:Region.Mode} {ops:Array Oper} {Q:Exit→Act→World→Prop} {n:Nat} {listed:Array Bool} {a:Act} {w w':World} (h:wpM s1 s2 K md ops Q n listed a w) (hg:G w w'):wpM s1 s2 K md ops Q n listed a w':=by
 cases n with
 | zero=>exact fun x hx=>h x (hg.trans hx)
 | succ n=>exact fun x hx=>h x (hg.trans hx)
theorem wpM.any {s1 s2 K:Nat} {md:Region.Mode} {ops:Array Oper} {Q:Exit→Act→World→Prop}:∀ (n:Nat) (listed:Array Bool) (a:Act) (w:World),wpM s1 s2 K md ops Q n listed a w→wpAny Tryz.prog md ops Q n listed a w
 | 0,_,_,w,h=>h w (G.refl w)
 | n+1,_,_,w,h=>⟨(h w (G.refl w)).1,fun i hi=>wpOp_mono (fun a' w' h'=>by
   by_cases e:i=s1
   ·exact wpS.any n _ a' w' (h'.1 e).2
   ·exact wpM.any n _ a' w' (h'.2 e).2) ((h w (G.refl w)).2 i hi)⟩
theorem wpOp_beforeY {Y:Act→Prop} {ops:Array Oper} {Q:Exit→Act→World→Prop} {w:World} {j:Nat} {oi oj:Oper} {v:Value} {a:Act} {K:Act→World→Prop} (hj:ops[j]?=some oj) (hap:oi.apart ops oj=true)
  (hsi:∀ cs b,oi.op≠.select cs b) (hsj:∀ cs b,oj.op≠.select cs b) (hQ:∀ c a w,Q (.panic c) (a.put oi.dst v) w→Q (.panic c) a w)
  (hyc:∀ a a':Act,execOp a'.eval oi=execOp a.eval oi→Region.wanted oi (yielded ops a'.tmps)=Region.wanted oi (yielded ops a.tmps)→Y a→Y a') (hy:Y a) (h:wpOp Tryz.prog ops Q j K (a.put oi.dst v) w):wpOp Tryz.prog ops Q j (fun a' w'=>Y a'∧K (a'.put oi.dst v) w') a w:=by
 obtain ⟨s1,s2,s3⟩:=Oper.apart_spec hap
 have stay:∀ u,Y (a.put oj.dst u):=fun u=>hyc _ _ (execOp_put oi hsi a oj.dst u s3) (wanted_put oi a oj.dst u s3) hy
 have swap:∀ u,(a.put oi.dst v).put oj.dst u=(a.put oj.dst u).put oi.dst v:=fun u=>Act.put_comm a v u s2
 have ex:execOp (a.put oi.dst v).eval oj=execOp a.eval oj:=execOp_put oj hsj a oi.dst v s1
 unfold Go.wpOp at h ⊢
 rw [hj] at h ⊢
 simp only at h ⊢
 rw [wanted_put oj a oi.dst v s1] at h
 by_cases hw:Region.wanted oj (yielded ops a.tmps)=true
 ·rw [if_pos hw] at h ⊢
  rcases h with h | h
  ·left
   unfold Oper.wp at h ⊢
   rw [ex] at h
   generalize (execOp a.eval oj).run Tryz.prog w=r at h ⊢
   match r,h with
   | .ok (.value u) w',h=>exact ⟨stay u,by rw [← swap];exact h⟩
   | .ok .skip w',h=>exact ⟨stay undef,by rw [← swap];exact h⟩
   | .ok (.defer d) w',h=>
    refine ⟨hyc { a with defers:=d::a.defers } _ (execOp_put oi hsi _ oj.dst undef s3) (wanted_put oi _ oj.dst undef s3) (hyc a _ rfl rfl hy),?_⟩
    rw [← Act.put_comm _ v undef s2,← Act.put_defers]
    exact h
   | .ok (.enter f args) w',h=>
    refine Calls.mono h fun e w'' he=>?_
    match e,he with
    | .returned u,he=>exact ⟨stay u,by rw [← swap];exact he⟩
    | .panicked c,he=>exact hQ _ _ _ he
    | .outgrown,he=>exact he
   | .ok (.row row args) w',h=>exact Rows.mono h fun u w'' he=>⟨stay u,by rw [← swap];exact he⟩
   | .halt (.panic u) w',h=>exact hQ _ _ _ h
  ·right
   refine ⟨?_,h.2⟩
   have:=h.1
   unfold Oper.asks at this ⊢
   rw [ex] at this
   exact this
 ·rw [if_neg hw] at h ⊢
  exact ⟨stay undef,by rw [← swap];exact h⟩
def YM (K:Nat) (dep:Prop) (ops:Array Oper) (w0:World) (oi:Oper) (v:Value) (a:Act):Prop:=Region.wanted oi (yielded ops a.tmps)=true∧(∀ w,G w0 w→(execOp a.eval oi).run Tryz.prog w=.ok (.value v) w)∧(dep∨∀ w,GB K w0 w→(execOp a.eval oi).run Tryz.prog w=.ok (.value v) w)
theorem YM.same {K:Nat} {dep:Prop} {ops:Array Oper} {w0:World} {oi:Oper} {v:Value} (a a':Act) (he:execOp a'.eval oi=execOp a.eval oi) (hw:Region.wanted oi (yielded ops a'.tmps)=Region.wanted oi (yielded ops a.tmps)) (h:YM K dep ops w0 oi v a):YM K dep ops w0 oi v a':=by
 unfold YM at *
 rw [he,hw]
 exact h
theorem YM.mono {K:Nat} {dep:Prop} {ops:Array Oper} {w0 w1:World} {oi:Oper} {v:Value} {a:Act} (h:YM K dep ops w0 oi v a) (hg:G w0 w1):YM K dep ops w1 oi v a:=
 ⟨h.1,fun w hw=>h.2.1 w (hg.trans hw),h.2.2.imp id fun h w hw=>h w ((GB.of hg).trans hw)⟩
theorem YM.yields {K:Nat} {dep:Prop} {ops:Array Oper} {w0:World} {oi:Oper} {v:Value} {a:Act} (h:YM K dep ops w0 oi v a):YieldsG ops w0 oi v a:=
 .inl ⟨h.1,fun w hg=>by unfold Oper.quietAt;rw [h.2.1 w hg];exact ⟨rfl,rfl⟩⟩
theorem wpM_first {s1 s2 K:Nat} {md:Region.Mode} {ops:Array Oper} {Q:Exit→Act→World→Prop} {i:Nat} {oi:Oper} {v:Value} {dep:Prop} (hi:ops[i]?=some oi) (hsel:∀ (j:Nat) (o:Oper) cs b,ops[j]?=some o→o.op≠.select cs b)
  (hQ:∀ c a w,Q (.panic c) (a.put oi.dst v) w→Q (.panic c) a w) (his:i≠s1) (hi2:i≠s2) (hdep2:∀ os,ops[s2]?=some os→∃ e∈os.after,Region.binds md e=true∧e.on=i)
  (hdep:dep→∀ os,ops[s1]?=some os→∃ e∈os.after,Region.binds md e=true∧e.on=i):
  ∀ (n:Nat) (listed:Array Bool) (a:Act) (w0:World),(∀ j oj,ops[j]?=some oj→j≠i→listed.getD j true=false→(∀ e∈oj.after,Region.binds md e=true→e.on≠i)→oi.apart ops oj=true)→
   i∈Region.ready md ops listed→YM K dep ops w0 oi v a→wpM s1 s2 K md ops Q n (listed.setIfInBounds i true) (a.put oi.dst v) w0→wpM s1 s2 K md ops Q (n+1) listed a w0:=by
 intro n
 induction n with
 | zero=>
  intro listed a w0 _ hr hy H w hg
  refine ⟨fun e=>(by rw [e] at hr;cases hr),fun j hj=>?_⟩
  by_cases hji:j=i
  ·subst hji
   exact hy.yields.wpOp hi hg fun w' hg'=>⟨fun e=>absurd e his,fun _=>⟨hg',fun x hx=>H x ((hg.trans hg').trans hx)⟩⟩
  ·have:=ready_mono hj hji
   rw [(H w hg).1] at this
   cases this
 | succ n ih=>
  intro listed a w0 hfree hr hy H w hg
  refine ⟨fun e=>(by rw [e] at hr;cases hr),fun j hj=>?_⟩
  by_cases hji:j=i
  ·subst hji
   exact hy.yields.wpOp hi hg fun w' hg'=>⟨fun e=>absurd e his,fun _=>⟨hg',H.grow (hg.trans hg')⟩⟩
  ·obtain ⟨hun,oj,hoj,hall⟩:=mem_ready.1 hj
   have hlist:∀ e∈oj.after,Region.binds md e=true→e.on≠i:=fun e he hb heq=>by
    have h1:=hall e he hb
    rw [heq] at h1
    have h0:=(mem_ready.1 hr).1
    by_cases hlt:i<listed.size
    ·simp [Array.getD,hlt] at h0 h1
     rw [h0] at h1
     cases h1
    ·simp [Array.getD,hlt] at h1
   have hap:=hfree j oj hoj hji hun hlist
   have h2:=wpOp_beforeY hoj hap (fun cs b=>hsel i oi cs b hi) (fun cs b=>hsel j oj cs b hoj) hQ YM.same hy ((H w hg).2 j (ready_mono hj hji))
   have hfree':∀ k ok,ops[k]?=some ok→k≠i→(listed.setIfInBounds j true).getD k true=false→(∀ e∈ok.after,Region.binds md e=true→e.on≠i)→oi.apart ops ok=true:=by
    intro k ok hk hki hunk hnok
    refine hfree k ok hk hki ?_ hnok
    by_cases hjk:j=k
    ·subst hjk;exact hun
    ·rwa [getD_set_ne true hjk] at hunk
   refine wpOp_mono (fun a' w' h3=>⟨fun hjs=>?_,fun hjs=>?_⟩) h2
   ·have hinv:∀ w,GB K w0 w→(execOp a'.eval oi).run Tryz.prog w=.ok (.value v) w:=by
     rcases h3.1.2.2 with hd | h
     ·exfalso
      obtain ⟨e,he,hb,heq⟩:=hdep hd oj (hjs ▸ hoj)
      exact hlist e he hb heq
     ·exact h
    have h4:=h3.2.1 hjs
    have hB0:GB K w0 w':=(GB.of hg).trans h4.1
    refine ⟨h4.1,wpS_first hi hsel hQ hi2 hdep2 n (listed.setIfInBounds j true) a' w' hfree' (ready_mono hr (Ne.symm hji)) (.inl ⟨h3.1.1,fun x hx=>by unfold Oper.quietAt;rw [hinv x (hB0.trans (GB.of hx))];exact ⟨rfl,rfl⟩⟩) ?_⟩
    rw [Array.setIfInBounds_comm _ _ hji]
    exact h4.2
   ·have h4:=h3.2.2 hjs
    refine ⟨h4.1,ih (listed.setIfInBounds j true) a' w' hfree' (ready_mono hr (Ne.symm hji)) (h3.1.mono (hg.trans h4.1)) ?_⟩
    rw [Array.setIfInBounds_comm _ _ hji]
    exact h4.2
section
variable {s1 s2 K:Nat} {ops:Array Oper} {Q:Exit→Act→World→Prop} {md:Region.Mode}
theorem wp_region_M (s1 s2 K:Nat) {id:Nat} {a:Act} {w:World} (h:wpM s1 s2 K .any ops Q ops.size (Array.replicate ops.size false) a w.drew):(Code.region id ops true).wp Tryz.prog Q a w:=
 wp_region_any (by kernel_rfl) (wpM.any _ _ _ _ h)
theorem takeM (i d:Nat) (v:Value) {oi:Oper} {n:Nat} {listed:Array Bool} {a:Act} {w0:World} (hi:ops[i]?=some oi) (hd:oi.dst=some d)
  (hs:Region.noSelect ops=true) (hf:Region.free md ops listed i=true) (hr:(Region.ready md ops listed).contains i=true) (hp:depsOn md ops s2 i=true) (his:(i != s1)=true)
  (hQ:∀ c a w,Q (.panic c) (a.put (some d) v) w→Q (.panic c) a w) (hw:Region.wanted oi (yielded ops a.tmps)=true) (hy:∀ w,GB K w0 w→(execOp a.eval oi).run Tryz.prog w=.ok (.value v) w)
  (h:wpM s1 s2 K md ops Q n (listed.setIfInBounds i true) (a.put (some d) v) w0):wpM s1 s2 K md ops Q (n+1) listed a w0:=
 wpM_first (dep:=False) hi (Region.noSelect_spec hs) (by rw [hd];exact hQ) (by simpa using his) (depsOn_spec hp).1 (depsOn_spec hp).2 (fun h=>h.elim) n listed a w0 (Region.free_spec hi hf) (by simpa using hr)
  ⟨hw,fun w hg=>hy w (GB.of hg),.inr hy⟩ (by rw [hd];exact h)
theorem storeM {oi:Oper} {n:Nat} {listed:Array Bool} {a:Act} {w0:World} (hi:ops[s1]?=some oi) (hd:oi.dst=none) (hr:Region.ready md ops listed=[s1]) (hw:Region.wanted oi (yielded ops a.tmps)=true)
  (hx:∀ w,G w0 w→∃ w',(execOp a.eval oi).run Tryz.prog w=.ok .skip w'∧GB K w w'∧wpS s2 md ops Q n (listed.setIfInBounds s1 true) a w'):wpM s1 s2 K md ops Q (n+1) listed a w0:=fun w hg=>by
 refine ⟨fun e=>(by rw [hr] at e;cases e),fun j hj=>?_⟩
 rw [hr] at hj
 obtain rfl:j=s1:=by simpa using hj
 unfold Go.wpOp
 rw [hi]
 simp only [hw,if_true]
 left
 unfold Oper.wp
 obtain ⟨w',h1,h2,h3⟩:=hx w hg
 rw [h1,Oper.upon_skip,hd]
 exact ⟨fun _=>⟨h2,h3⟩,fun e=>absurd rfl e⟩
end
section
variable {s1 s2 K:Nat} {ops:Array Oper} {Q:Exit→Act→World→Prop} {md:Region.Mode}
theorem doneS {s n:Nat} {listed:Array Bool} {a:Act} {w0:World} (hr:Region.ready md ops listed=[]) (h:∀ w,G w0 w→Q .normal a w):wpS s md ops Q n listed a w0:=by
 cases n with
 | zero=>exact fun w hg=>⟨hr,h w hg⟩
 | succ n=>exact fun w hg=>⟨fun _=>h w hg,fun i hi=>by rw [hr] at hi;cases hi⟩
def AllM (s1 s2 K:Nat) (md:Region.Mode) (ops:Array Oper) (Q:Exit→Act→World→Prop) (n:Nat) (listed:Array Bool) (a:Act) (w:World) (rs:List Nat):Prop:=
 ∀ i∈rs,wpOp Tryz.prog ops Q i (fun a' w'=>(i=s1→GB K w w'∧wpS s2 md ops Q n (listed.setIfInBounds i true) a' w')∧(i≠s1→G w w'∧wpM s1 s2 K md ops Q n (listed.setIfInBounds i true) a' w')) a w
theorem readyM (rs:List Nat) {n:Nat} {listed:Array Bool} {a:Act} {w0:World} (hr:Region.ready md ops listed=rs) (hne:rs≠[]) (h:∀ w,G w0 w→AllM s1 s2 K md ops Q n listed a w rs):wpM s1 s2 K md ops Q (n+1) listed a w0:=
 fun w hg=>⟨fun e=>absurd (hr ▸ e) hne,hr ▸ h w hg⟩
theorem AllM.nil {n:Nat} {listed:Array Bool} {a:Act} {w:World}:AllM s1 s2 K md ops Q n listed a w []:=fun _ h=>by cases h
theorem AllM.call (i d:Nat) {oi:Oper} {n:Nat} {listed:Array Bool} {a:Act} {w:World} {rs:List Nat} (f:FuncId) (args:Array Value) (hi:ops[i]?=some oi) (hd:oi.dst=some d) (his:i≠s1) (hw:Region.wanted oi (yielded ops a.tmps)=true)
  (hx:(execOp a.eval oi).run Tryz.prog w=.ok (.enter f args) w) (hc:Calls Tryz.prog f args w fun e w'=>∃ v,e=.returned v∧G w w'∧wpM s1 s2 K md ops Q n (listed.setIfInBounds i true) (a.put (some d) v) w')
  (hs:AllM s1 s2 K md ops Q n listed a w rs):AllM s1 s2 K md ops Q n listed a w (i::rs):=fun j hj=>by
 rcases List.mem_cons.1 hj with rfl | hj
 ·unfold Go.wpOp
  rw [hi]
  simp only [hw,if_true]
  left
  unfold Oper.wp
  rw [hx]
  refine Calls.mono hc ?_
  rintro e w' ⟨v,rfl,hg,h⟩
  rw [hd]
  exact ⟨fun e=>absurd e his,fun _=>⟨hg,h⟩⟩
 ·exact hs j hj
theorem AllM.store {oi:Oper} {n:Nat} {listed:Array Bool} {a:Act} {w:World} {rs:List Nat} (w':World) (hi:ops[s1]?=some oi) (hd:oi.dst=none) (hw:Region.wanted oi (yielded ops a.tmps)=true)
  (hx:(execOp a.eval oi).run Tryz.prog w=.ok .skip w') (hg:GB K w w') (h:wpS s2 md ops Q n (listed.setIfInBounds s1 true) a w')
  (hs:AllM s1 s2 K md ops Q n listed a w rs):AllM s1 s2 K md ops Q n listed a w (s1::rs):=fun j hj=>by
 rcases List.mem_cons.1 hj with rfl | hj
 ·unfold Go.wpOp
  rw [hi]
  simp only [hw,if_true]
  left
  unfold Oper.wp
  rw [hx,Oper.upon_skip,hd]
  exact ⟨fun _=>⟨hg,h⟩,fun e=>absurd rfl e⟩
 ·exact hs j hj
end
variable {P R:Nat→Prop}
theorem GB.cell2 {K:Nat} {w w':World} {a:Addr} {v:Value} (h:GB K w w') (hc:w.cell? a=some v) (hn:a.block≠K):w'.cell? a=some v:=h.cell hn hc
theorem AtF.but {K:Nat} {w w':World} {u:Value} {f:F} (h:AtF P R w u f) (hg:GB K w w') (hP:∀ b,P b→b≠K):AtF P R w' u f:=
 (h.lt.keepP fun b hb=>hg.block b hb.2 (hP b hb.1)).mono fun _ hb=>hb.1
theorem AtTF.keepP {w w':World} {p:Nat} {v:Vd} {m:Md} {f:F} (h:AtTF P R w p v m f) (hb:∀ b,P b→w'.heap[b]?=w.heap[b]?):AtTF P R w' p v m f:=by
 obtain ⟨k,⟨pk,h1,h2⟩,e,ha,hp⟩:=h
 refine ⟨k,⟨pk,fun j u hj=>?_,h2.keepP hb ha⟩,e,ha,hp⟩
 have:=h1 j u hj
 rw [← this]
 exact World.cell?_of_block (w:=w) (hb p hp.1)
theorem AtTF.but {K:Nat} {w w':World} {p:Nat} {v:Vd} {m:Md} {f:F} (h:AtTF P R w p v m f) (hg:GB K w w') (hP:∀ b,P b→b≠K):AtTF P R w' p v m f:=
 (h.lt.keepP fun b hb=>hg.block b hb.2 (hP b hb.1)).mono fun _ hb=>hb.1
def Var109 (w:World) (g:Nat) (c:Array Value):Prop:=w.heap[g]?=some (.cells c 100 (0,0))
theorem Var109.lies {w:World} {g:Nat} {c:Array Value} (h:Var109 w g c):Lies w g 0 c:=fun j u hj=>by
 have h':w.heap[g]?=some (.cells c 100 (0,0)):=h
 simp only [World.cell?,h',Nat.zero_add]
 exact hj
theorem Var109.lt {w:World} {g:Nat} {c:Array Value} (h:Var109 w g c):g<w.heap.size:=(Array.getElem?_eq_some_iff.1 h).1
theorem Var109.grow {w w':World} {g:Nat} {c:Array Value} (h:Var109 w g c) (hg:G w w'):Var109 w' g c:=(Below.block hg g h.lt).trans h
theorem Var109.but {K:Nat} {w w':World} {g:Nat} {c:Array Value} (h:Var109 w g c) (hg:GB K w w') (hn:g≠K):Var109 w' g c:=(hg.block g h.lt hn).trans h
def z109:Array Value:=#[.string ⟨#[]⟩,.pointer none]
theorem run_zero109 (w:World):(zeroValue 100).run Tryz.prog w=.ok (.agg z109) w:=by
 have h:(Tryz.prog.info? 100).bind (·.zero)=some (.agg z109):=by kernel_rfl
 cases hq:Tryz.prog.info? 100 with
 | none=>rw [hq] at h;cases h
 | some i=>
  rw [hq] at h
  simp only [Option.bind_some] at h
  simp [zeroValue,typeInfo,hq,h]
theorem exec_alloc109 {o:Oper} {a:Act} (ho:o.op=.alloc 100) (w:World):(execOp a.eval o).run Tryz.prog w=.ok (.value (.pointer (some ⟨w.heap.size,0,none⟩))) (w.alloc (.cells z109 100)):=by
 unfold execOp
 simp only [ho,Instr.alloc,Sem.run_bind,run_zero109,Result.andThen_ok]
 simp [newVar,newRow,newObj,Value.cells]
 rfl
theorem size109:(Tryz.prog.info? 100).map (·.size)=some 2:=by kernel_rfl
theorem under109:Tryz.prog.underlying 100=some (.struct (Tryz.prog.fieldsOf 100)):=by kernel_rfl
theorem exec_load109 {o:Oper} {a:Act} (x:Operand) (ho:o.op=.load 100 x) (g:Nat) (hx:a.eval x=.pointer (some ⟨g,0,none⟩)) (c:Array Value) (hs:c.size=2) {w:World} (h:Lies w g 0 c):(execOp a.eval o).run Tryz.prog w=.ok (.value (.agg c)) w:=by
 unfold execOp
 simp only [ho,hx,Sem.run_bind,Sem.run_pure,Result.andThen_ok,load_lies (w:=w) (g:=g) (o:=0) 100 _ under109 rfl (by rw [size109,hs]) h]
theorem exec_store109 {o:Oper} {a:Act} (x y:Operand) (ho:o.op=.store 100 x y) (g:Nat) (c old:Array Value) (hx:a.eval x=.pointer (some ⟨g,0,none⟩)) (hy:a.eval y=.agg c) (w:World) (hg:Var109 w g old)
  (hs:c.size=2) (hs':old.size=2) (h1:c.all (·.oneCell')=true):(execOp a.eval o).run Tryz.prog w=.ok .skip (w.setRow g c):=by
 unfold execOp
 simp only [ho,hx,hy,Instr.storeAt,Instr.sureAddr,Sem.run_bind,Sem.run_pure,Result.andThen_ok,run_storeVar_row (P:=Tryz.prog) w g 100 100 old c hg (by rw [size109,hs]) (by rw [hs,hs']) h1]
theorem Var109.set {w:World} {g:Nat} {c old:Array Value} (h:Var109 w g old):Var109 (w.setRow g c) g c:=setRow_heap w g old c 100 _ h
theorem Var109.new (w:World) (c:Array Value):Var109 (w.alloc (.cells c 100)) w.heap.size c:=World.alloc_heap_new w _
theorem setRow_GB (w:World) (K:Nat) (c:Array Value):GB K w (w.setRow K c):=But.setRow (But.refl _ w) c
theorem new_var109 (w:World) (c:Array Value):G w ((w.alloc (.cells z109 100)).setRow w.heap.size c)∧Var109 ((w.alloc (.cells z109 100)).setRow w.heap.size c) w.heap.size c:=by
 have h:=(But.setRow (K:=w.heap.size) ((But.refl _ w).alloc (.cells z109 100)) c)
 exact ⟨h.below (Nat.le_refl _) (Nat.le_refl _),setRow_heap _ _ z109 c 100 _ (World.alloc_heap_new w _)⟩
theorem results109 {fn:Func} {p u:Tmp} (h:fn.results=#[.cell p 100,.tmp u]) (tmps:Array Value) (w:World) (g:Nat) (cs:Array Value) (hp:tmps.getD p undef=.pointer (some ⟨g,0,none⟩)) (hg:Var109 w g cs) (hs:cs.size=2):
  (results fn tmps).run Tryz.prog w=.ok (.tuple #[.agg cs,tmps.getD u undef]) w:=by
 have hu:Tryz.prog.underlying 100=some (.struct (Tryz.prog.fieldsOf 100)):=by kernel_rfl
 rw [results_cell_tmp h,hp]
 simp only [asAddr,Sem.run_pure,Result.andThen_ok,run_loadVar_row (P:=Tryz.prog) w g 100 100 cs (0,0) _ hg hu rfl (by rw [size109,hs])]
def ch (n:ByteArray) (p:Nat):Array Value:=#[.string n,.pointer (some ⟨p,0,none⟩)]
theorem ch_size (n:ByteArray) (p:Nat):(ch n p).size=2:=rfl
theorem ch_one (n:ByteArray) (p:Nat):(ch n p).all (·.oneCell')=true:=by simp [ch,Value.oneCell']
theorem AtF.more {w:World} {q:Nat} {f:F} (h:AtF P R w (.pointer (some ⟨q,0,none⟩)) f):∃ n v m k r,f=.cons n v m k r:=by
 obtain ⟨n,p1,v1,m1,f1,aa,ab,fa,fb,c0,c1,c2,c3,h1,ha,hb,rfl⟩:=h.node
 cases fa with
 | nil=>exact ⟨_,_,_,_,_,rfl⟩
 | cons=>exact ⟨_,_,_,_,_,rfl⟩
def CutTo (P:Nat→Prop) (R:Nat→Prop) (w:World) (n:ByteArray) (v:Vd) (m:Md) (k r:F) (e:Ending) (w':World):Prop:=∃ p au,e=.returned (.tuple #[.agg (ch n p),.pointer au])∧AtTF P R w' p v m k∧AtF P R w' (.pointer au) r∧G w w'
theorem cut_any:∀ (Z:Nat) (P:Nat→Prop) (n:ByteArray) (v:Vd) (m:Md) (k r:F) (q:Nat) (w:World),(F.cons n v m k r).size<Z→AtF P R w (.pointer (some ⟨q,0,none⟩)) (.cons n v m k r)→(F.cons n v m k r).size≤900000→(∀ b,w.heap.size≤b→P b)→
  Calls Tryz.prog 161 #[.pointer (some ⟨q,0,none⟩)] w (CutTo P R w n v m k r):=by
 intro Z
 induction Z with
 | zero=>intro P n v m k r q w h;omega
 | succ Z ih=>
  intro P n v m k r q w hZ hq hs hP
  obtain ⟨n1,p1,v1,m1,f1,aa,ab,fa,fb,c0,c1,c2,c3,h1,ha,hb,hfe⟩:=hq.node
  have hqlt:q<w.heap.size:=World.block_lt_of_cell? w _ c0
  obtain ⟨K,hK⟩:∃ K,w.heap.size=K:=⟨_,rfl⟩
  have hqK:q≠K:=by omega
  have HG0:=hid (G.alloc w (.cells z109 100))
  have HV0:=hid (Var109.new w z109)
  have HP:=hid hP
  replace c0:=HG0.out.cell c0
  replace c1:=HG0.out.cell c1
  replace c2:=HG0.out.cell c2
  replace c3:=HG0.out.cell c3
  rw [hK] at HV0
  have HK:=hid hK
  have hsz:=congrArg F.size hfe
  rw [F.app_size,F.size,F.size] at hsz
  rw [F.size] at hs hZ
  have HZ:=hid (⟨hsz,hs,hZ⟩:_∧_∧_)
  have HA:=hid (⟨h1,ha,hb⟩:AtTF P R w p1 v1 m1 f1∧AtF P R w (.pointer aa) fa∧AtF P R w (.pointer ab) fb)
  have HIH:=hid ih
  clear ih hZ hs hsz hq hP h1 ha hb hqlt
  cases aa with
  | none=>
   obtain rfl:=HA.out.2.1.isNil
   rw [F.app] at hfe
   injection hfe with e1 e2 e3 e4 e5
   subst e1 e2 e3 e4 e5
   go_enter Tryz.func161,Tryz.ntmps161
   go_upto_region 1 with (with_reducible refine jJ (.pointer (some ⟨w.heap.size,0,none⟩)) (w.alloc (.cells z109 100)) ?_ ?_ ?_;exact exec_alloc109 rfl _;kernel_rfl)
   try simp only [Act.put,sA,sB,sC]
   generalize w.alloc (.cells z109 100)=w1 at *
   try rw [hK]
   clear hK
   go_upto_region 2 with fail
   refine wp_region_M 8 99 K ?_
   replace c0:=(G.drew w1).cell c0
   replace c1:=(G.drew w1).cell c1
   replace c3:=(G.drew w1).cell c3
   replace HV0:=hid (HV0.out.grow (G.drew w1))
   replace HG0:=hid (HG0.out.trans (G.drew w1))
   generalize w1.drew=w2 at *
   refine takeM 0 11 (.pointer (some ⟨q,0,none⟩)) rfl rfl (by kernel_rfl) (by kernel_rfl) (by kernel_rfl) (by kernel_rfl) (by kernel_rfl) (fun _ _ _ h=>h) (by kernel_rfl) (fun wz hz=>?_) ?_
   ·rfl
   try simp only [Act.put,sA,sB,sC]
   refine takeM 1 12 (.pointer (some ⟨q,0,none⟩)) rfl rfl (by kernel_rfl) (by kernel_rfl) (by kernel_rfl) (by kernel_rfl) (by kernel_rfl) (fun _ _ _ h=>h) (by kernel_rfl) (fun wz hz=>?_) ?_
   ·go_simp
   try simp only [Act.put,sA,sB,sC]
   refine takeM 2 13 (.pointer (some ⟨q,0,none⟩)) rfl rfl (by kernel_rfl) (by kernel_rfl) (by kernel_rfl) (by kernel_rfl) (by kernel_rfl) (fun _ _ _ h=>h) (by kernel_rfl) (fun wz hz=>?_) ?_
   ·go_simp
   try simp only [Act.put,sA,sB,sC]
   refine takeM 3 14 (.agg #[.string n,.pointer (some ⟨p1,0,none⟩)]) rfl rfl (by kernel_rfl) (by kernel_rfl) (by kernel_rfl) (by kernel_rfl) (by kernel_rfl) (fun _ _ _ h=>h) (by kernel_rfl) (fun wz hz=>?_) ?_
   ·have y0:=hz.cell2 c0 hqK;have y1:=hz.cell2 c1 hqK;go_simp
   try simp only [Act.put,sA,sB,sC]
   refine takeM 4 15 (.pointer (some ⟨q,0,none⟩)) rfl rfl (by kernel_rfl) (by kernel_rfl) (by kernel_rfl) (by kernel_rfl) (by kernel_rfl) (fun _ _ _ h=>h) (by kernel_rfl) (fun wz hz=>?_) ?_
   ·rfl
   try simp only [Act.put,sA,sB,sC]
   refine takeM 5 16 (.pointer (some ⟨q,0,none⟩)) rfl rfl (by kernel_rfl) (by kernel_rfl) (by kernel_rfl) (by kernel_rfl) (by kernel_rfl) (fun _ _ _ h=>h) (by kernel_rfl) (fun wz hz=>?_) ?_
   ·go_simp
   try simp only [Act.put,sA,sB,sC]
   refine takeM 6 17 (.pointer (some ⟨q,3,none⟩)) rfl rfl (by kernel_rfl) (by kernel_rfl) (by kernel_rfl) (by kernel_rfl) (by kernel_rfl) (fun _ _ _ h=>h) (by kernel_rfl) (fun wz hz=>?_) ?_
   ·go_simp
   try simp only [Act.put,sA,sB,sC]
   refine takeM 7 18 (.pointer ab) rfl rfl (by kernel_rfl) (by kernel_rfl) (by kernel_rfl) (by kernel_rfl) (by kernel_rfl) (fun _ _ _ h=>h) (by kernel_rfl) (fun wz hz=>?_) ?_
   ·have y0:=hz.cell2 c3 hqK;go_simp
   try simp only [Act.put,sA,sB,sC]
   refine storeM rfl rfl (by kernel_rfl) (by kernel_rfl) (fun w3 hg3=>?_)
   refine ⟨w3.setRow K (ch n p1),exec_store109 _ _ rfl K (ch n p1) z109 rfl rfl _ (HV0.out.grow hg3) (ch_size ..) rfl (ch_one ..),setRow_GB _ _ _,?_⟩
   have HV3:Hid (Var109 (w3.setRow K (ch n p1)) K (ch n p1)):=(HV0.out.grow hg3).set
   have HG3:Hid (G w (w3.setRow K (ch n p1))):=Below.trans (B:=w.heap.size) (HG0.out.trans hg3) ((setRow_GB w3 K (ch n p1)).below (Nat.le_of_eq HK.out) (by have:=(HG0.out.trans hg3).size;exact this))
   generalize w3.setRow K (ch n p1)=w4 at *
   clear hg3
   refine takeS 9 3 (.pointer ab) rfl rfl (by kernel_rfl) (by kernel_rfl) (by kernel_rfl) (by kernel_rfl) (fun _ _ _ h=>h) (by kernel_rfl) (fun wz hz=>?_) ?_
   ·rfl
   try simp only [Act.put,sA,sB,sC]
   refine doneS (by kernel_rfl) (fun w9 hg9=>?_)
   replace HV3:=hid (HV3.out.grow hg9)
   replace HG3:=hid (HG3.out.trans hg9)
   clear hg9 c0 c1 c2 c3
   go_wp2_with fail
   refine bodyPost_ret (results109 (p:=2) (u:=3) rfl _ _ K (ch n p1) rfl HV3.out (ch_size ..)) rfl ?_
   exact ⟨p1,ab,rfl,HA.out.1.grow HG3.out,HA.out.2.2.grow HG3.out,HG3.out⟩
  | some a=>
   obtain ⟨qa,rfl⟩:=HA.out.2.1.addr
   obtain ⟨n0,v0,m0,k0,r0,rfl⟩:=HA.out.2.1.more
   rw [F.app] at hfe
   injection hfe with e1 e2 e3 e4 e5
   subst e1 e2 e3 e4
   have HR:=hid e5
   clear e5
   have hP2:∀ b,(w.alloc (.cells z109 100)).heap.size≤b→P b∧b≠K:=fun b hb=>by
    rw [World.size_alloc] at hb
    exact ⟨HP.out b (by omega),by omega⟩
   have up:∀ b,P b∧b<w.heap.size→P b∧b≠K:=fun b hb=>⟨hb.1,by omega⟩
   have HB:=hid (⟨HA.out.1.lt.mono up,HA.out.2.1.lt.mono up,HA.out.2.2.lt.mono up⟩:AtTF (fun b=>P b∧b≠K) R w p1 v1 m1 f1∧AtF (fun b=>P b∧b≠K) R w (.pointer (some ⟨qa,0,none⟩)) (.cons n v m k r0)∧AtF (fun b=>P b∧b≠K) R w (.pointer ab) fb)
   have C1:=HIH.out (fun b=>P b∧b≠K) n v m k r0 qa (w.alloc (.cells z109 100)) (by have:=HZ.out;rw [F.size] at this ⊢;omega) (HB.out.2.1.grow HG0.out) (by have:=HZ.out;rw [F.size] at this ⊢;omega) hP2
   clear HIH up hP2
   go_enter Tryz.func161,Tryz.ntmps161
   go_upto_region 1 with (with_reducible refine jJ (.pointer (some ⟨w.heap.size,0,none⟩)) (w.alloc (.cells z109 100)) ?_ ?_ ?_;exact exec_alloc109 rfl _;kernel_rfl)
   try simp only [Act.put,sA,sB,sC]
   generalize w.alloc (.cells z109 100)=w1 at *
   try rw [hK]
   clear hK
   go_upto_region 3 with fail
   go_wp2_with fail
   refine C1.mono ?_
   rintro e w2 ⟨p,au,rfl,ht,hr2,hg2⟩
   have hn:=new_var109 w2 (ch n p)
   have hV2:Var109 (w2.alloc (.cells z109 100)) w2.heap.size z109:=Var109.new w2 z109
   have H2:=hid (⟨ht,hr2,hg2,hV2,hn⟩:_∧_∧_∧_∧_)
   clear C1 ht hr2 hg2 hV2 hn
   go_upto_region 4 with (first
    | ((with_reducible refine jJ (.pointer (some ⟨w2.heap.size,0,none⟩)) (w2.alloc (.cells z109 100)) ?_ ?_ ?_);exact exec_alloc109 rfl _;kernel_rfl)
    | ((with_reducible refine jP ((w2.alloc (.cells z109 100)).setRow w2.heap.size (ch n p)) ?_ ?_ ?_);exact exec_store109 _ _ rfl w2.heap.size _ z109 rfl rfl _ H2.out.2.2.2.1 (ch_size ..) rfl (ch_one ..);kernel_rfl))
   try simp only [Act.put,sA,sB,sC]
   have HKK:Hid (w2.heap.size≠K):=by have:=HV0.out.lt;have:=H2.out.2.2.1.size;show w2.heap.size≠K;omega
   have hgA:=H2.out.2.2.1.trans (H2.out.2.2.2.2.1.trans (G.drew _))
   have H3:=hid (⟨H2.out.1.grow (H2.out.2.2.2.2.1.trans (G.drew _)),H2.out.2.1.grow (H2.out.2.2.2.2.1.trans (G.drew _)),HB.out.1.grow (HG0.out.trans hgA),HB.out.2.2.grow (HG0.out.trans hgA),H2.out.2.2.2.2.2.grow (G.drew _),HV0.out.grow hgA,HG0.out.trans hgA⟩:_∧_∧_∧_∧_∧_∧_)
   replace c0:=hgA.cell c0
   replace c1:=hgA.cell c1
   replace c3:=hgA.cell c3
   clear hgA H2 HG0 HV0 HB c2
   refine wp_region_M 11 99 K ?_
   generalize ((w2.alloc (.cells z109 100)).setRow w2.heap.size (ch n p)).drew=w3 at *
   generalize w2.heap.size=g at *
   refine takeM 0 27 (.agg (ch n p)) rfl rfl (by kernel_rfl) (by kernel_rfl) (by kernel_rfl) (by kernel_rfl) (by kernel_rfl) (fun _ _ _ h=>h) (by kernel_rfl) (fun wz hz=>?_) ?_
   ·exact exec_load109 _ rfl g rfl (ch n p) rfl (H3.out.2.2.2.2.1.but hz HKK.out).lies
   try simp only [Act.put,sA,sB,sC]
   refine takeM 1 28 (.pointer au) rfl rfl (by kernel_rfl) (by kernel_rfl) (by kernel_rfl) (by kernel_rfl) (by kernel_rfl) (fun _ _ _ h=>h) (by kernel_rfl) (fun wz hz=>?_) ?_
   ·rfl
   try simp only [Act.put,sA,sB,sC]
   refine takeM 2 29 (.pointer (some ⟨q,0,none⟩)) rfl rfl (by kernel_rfl) (by kernel_rfl) (by kernel_rfl) (by kernel_rfl) (by kernel_rfl) (fun _ _ _ h=>h) (by kernel_rfl) (fun wz hz=>?_) ?_
   ·rfl
   try simp only [Act.put,sA,sB,sC]
   refine takeM 3 30 (.pointer (some ⟨q,0,none⟩)) rfl rfl (by kernel_rfl) (by kernel_rfl) (by kernel_rfl) (by kernel_rfl) (by kernel_rfl) (fun _ _ _ h=>h) (by kernel_rfl) (fun wz hz=>?_) ?_
   ·go_simp
   try simp only [Act.put,sA,sB,sC]
   refine takeM 4 31 (.pointer (some ⟨q,0,none⟩)) rfl rfl (by kernel_rfl) (by kernel_rfl) (by kernel_rfl) (by kernel_rfl) (by kernel_rfl) (fun _ _ _ h=>h) (by kernel_rfl) (fun wz hz=>?_) ?_
   ·go_simp
   try simp only [Act.put,sA,sB,sC]
   refine takeM 5 32 (.agg #[.string n1,.pointer (some ⟨p1,0,none⟩)]) rfl rfl (by kernel_rfl) (by kernel_rfl) (by kernel_rfl) (by kernel_rfl) (by kernel_rfl) (fun _ _ _ h=>h) (by kernel_rfl) (fun wz hz=>?_) ?_
   ·have y0:=hz.cell2 c0 hqK;have y1:=hz.cell2 c1 hqK;go_simp
   try simp only [Act.put,sA,sB,sC]
   refine takeM 6 33 (.pointer (some ⟨q,0,none⟩)) rfl rfl (by kernel_rfl) (by kernel_rfl) (by kernel_rfl) (by kernel_rfl) (by kernel_rfl) (fun _ _ _ h=>h) (by kernel_rfl) (fun wz hz=>?_) ?_
   ·rfl
   try simp only [Act.put,sA,sB,sC]
   refine takeM 7 34 (.pointer (some ⟨q,0,none⟩)) rfl rfl (by kernel_rfl) (by kernel_rfl) (by kernel_rfl) (by kernel_rfl) (by kernel_rfl) (fun _ _ _ h=>h) (by kernel_rfl) (fun wz hz=>?_) ?_
   ·go_simp
   try simp only [Act.put,sA,sB,sC]
   refine takeM 8 35 (.pointer (some ⟨q,3,none⟩)) rfl rfl (by kernel_rfl) (by kernel_rfl) (by kernel_rfl) (by kernel_rfl) (by kernel_rfl) (fun _ _ _ h=>h) (by kernel_rfl) (fun wz hz=>?_) ?_
   ·go_simp
   try simp only [Act.put,sA,sB,sC]
   refine takeM 9 36 (.pointer ab) rfl rfl (by kernel_rfl) (by kernel_rfl) (by kernel_rfl) (by kernel_rfl) (by kernel_rfl) (fun _ _ _ h=>h) (by kernel_rfl) (fun wz hz=>?_) ?_
   ·have y0:=hz.cell2 c3 hqK;go_simp
   try simp only [Act.put,sA,sB,sC]
   have hPK:∀ b,(fun b=>P b∧b≠K) b→b≠K:=fun b hb=>hb.2
   have HE:Hid (∀ W,GB K w3 W→Calls Tryz.prog 150 #[.pointer au,.agg #[.string n1,.pointer (some ⟨p1,0,none⟩)],.pointer ab] W (EvenTo (fun b=>P b∧b≠K) R W r)):=fun W hW=>by
    have hsw:=H3.out.2.2.2.2.2.2.size
    rw [HR.out]
    exact even_any (nm:=n1) (H3.out.2.1.but hW hPK) (H3.out.2.2.2.1.but hW hPK) (H3.out.2.2.1.but hW hPK) (by have:=HZ.out;rw [F.size] at this;omega) (fun b hb=>by have:=hW.size;have hKl:=H3.out.2.2.2.2.2.1.lt;exact ⟨HP.out b (by omega),by omega⟩)
   have HGw:Hid (∀ W,GB K w3 W→G w W):=fun W hW=>Below.trans (B:=w.heap.size) H3.out.2.2.2.2.2.2 (But.below hW (Nat.le_of_eq HK.out) H3.out.2.2.2.2.2.2.size)
   have HT:Hid (∀ W,GB K w3 W→AtTF P R W p v m k):=fun W hW=>(H3.out.1.but hW hPK).mono fun b hb=>hb.1
   have HVK:=hid H3.out.2.2.2.2.2.1
   clear hPK H3 HA HR c0 c1 c3
   refine readyM [10] (by kernel_rfl) (by simp) (fun w4 hg4=>?_)
   refine AllM.call 10 37 150 #[.pointer au,.agg #[.string n1,.pointer (some ⟨p1,0,none⟩)],.pointer ab] rfl rfl (by decide) (by kernel_rfl) (by go_simp) ?_ AllM.nil
   ·refine (HE.out w4 (GB.of hg4)).mono ?_
    rintro e w5 ⟨q2,rfl,hq2,hg5⟩
    refine ⟨_,rfl,hg5,?_⟩
    try simp only [Act.put,sA,sB,sC]
    refine storeM rfl rfl (by kernel_rfl) (by kernel_rfl) (fun w6 hg6=>?_)
    have hgB:=(hg4.trans hg5).trans hg6
    refine ⟨w6.setRow K (ch n p),exec_store109 _ _ rfl K (ch n p) z109 rfl rfl _ (HVK.out.grow hgB) (ch_size ..) rfl (ch_one ..),setRow_GB _ _ _,?_⟩
    have HV3:Hid (Var109 (w6.setRow K (ch n p)) K (ch n p)):=(HVK.out.grow hgB).set
    have hB1:GB K w3 (w6.setRow K (ch n p)):=(GB.of hgB).trans (setRow_GB _ _ _)
    have hB2:GB K w5 (w6.setRow K (ch n p)):=(GB.of hg6).trans (setRow_GB _ _ _)
    have HF:=hid (⟨HGw.out _ hB1,HT.out _ hB1,(hq2.but hB2 fun b hb=>hb.2).mono fun b hb=>hb.1⟩:_∧_∧_)
    generalize w6.setRow K (ch n p)=w7 at *
    clear hB1 hB2 hgB hg4 hg5 hg6 hq2
    refine takeS 12 3 (.pointer (some ⟨q2,0,none⟩)) rfl rfl (by kernel_rfl) (by kernel_rfl) (by kernel_rfl) (by kernel_rfl) (fun _ _ _ h=>h) (by kernel_rfl) (fun wz hz=>?_) ?_
    ·rfl
    try simp only [Act.put,sA,sB,sC]
    refine doneS (by kernel_rfl) (fun w9 hg9=>?_)
    replace HV3:=hid (HV3.out.grow hg9)
    replace HF:=hid (⟨HF.out.1.trans hg9,HF.out.2.1.grow hg9,HF.out.2.2.grow hg9⟩:_∧_∧_)
    clear hg9
    go_wp2_with fail
    refine bodyPost_ret (results109 (p:=2) (u:=3) rfl _ _ K (ch n p) rfl HV3.out (ch_size ..)) rfl ?_
    exact ⟨p,_,rfl,HF.out.2.1,HF.out.2.2,HF.out.1⟩
end Go.Proofs.YthfcanpkhjgomaaGreat
namespace Go.Proofs.YthfcanpkhjgomaaGreat
open Go.RowKit
variable {P R:Nat→Prop}
def ToF (P:Nat→Prop) (R:Nat→Prop) (w:World) (f:F) (e:Ending) (w':World):Prop:=∃ au,e=.returned (.pointer au)∧AtF P R w' (.pointer au) f∧G w w'
theorem F.del_none {nm:ByteArray}:∀ {f:F},f.get nm=none→f.del nm=f
 | .nil,_=>rfl
 | .cons n v m k r,h=>by
  rw [F.get] at h
  split at h
  ·cases h
  ·rename_i hn
   rw [F.del,if_neg hn,F.del_none h]
theorem F.del_eq {n:ByteArray} {v':Vd} {m':Md} {k' fb:F} {nm:ByteArray} (hn:nm=n):∀ {fa:F},fa.under n→(fa.app (.cons n v' m' k' fb)).del nm=fa.app fb
 | .nil,_=>by rw [F.app,F.del,if_pos hn];rfl
 | .cons n0 v0 m0 k0 r,⟨h1,h2⟩=>by
  subst hn
  rw [F.app,F.del,if_neg (lt_no h1).2.symm,F.del_eq rfl h2]
  rfl
theorem F.del_lt {n:ByteArray} {v':Vd} {m':Md} {k' fb:F} {nm:ByteArray} (hn:lt nm n) (hb:fb.above n):∀ {fa:F},(fa.app (.cons n v' m' k' fb)).del nm=(fa.del nm).app (.cons n v' m' k' fb)
 | .nil=>by
  show (F.cons n v' m' k' fb).del nm=F.cons n v' m' k' fb
  rw [F.del,if_neg (lt_no hn).2,F.del_none (F.get_above (F.above_mono hn hb))]
 | .cons n0 v0 m0 k0 r=>by
  rw [F.app,F.del,F.del,F.del_lt hn hb]
  split
  ·rfl
  ·rfl
theorem F.del_gt {n:ByteArray} {v':Vd} {m':Md} {k' fb:F} {nm:ByteArray} (hn:lt n nm):∀ {fa:F},fa.under n→(fa.app (.cons n v' m' k' fb)).del nm=fa.app (.cons n v' m' k' (fb.del nm))
 | .nil,_=>by rw [F.app,F.del,if_neg (lt_no hn).2.symm];rfl
 | .cons n0 v0 m0 k0 r,⟨h1,h2⟩=>by
  rw [F.app,F.del,if_neg (lt_no (lt_trans h1 hn)).2.symm,F.del_gt hn h2]
  rfl
theorem F.del_size {nm:ByteArray}:∀ f:F,(f.del nm).size≤f.size
 | .nil=>Nat.le_refl _
 | .cons n v m k r=>by
  have:=F.del_size (nm:=nm) r
  rw [F.del]
  split<;>simp only [F.size]<;>omega
theorem followed_any {aa ab:Option Addr} {fa fb:F} {w:World} (ha:AtF P R w (.pointer aa) fa) (hb:AtF P R w (.pointer ab) fb) (hs:fa.size+fb.size≤900000) (hP:∀ b,w.heap.size≤b→P b):
  Calls Tryz.prog 151 #[.pointer aa,.pointer ab] w (ToF P R w (fa.app fb)):=by
 cases ab with
 | none=>
  obtain rfl:=hb.isNil
  rw [F.app_nil]
  have HA:=hid ha
  clear ha hb
  go_enter Tryz.func151,Tryz.ntmps151
  go_wp2_with fail
  go_ret
  exact ⟨aa,rfl,HA.out,G.refl _⟩
 | some a=>
  obtain ⟨qb,rfl⟩:=hb.addr
  obtain ⟨n,v,m,k,r,rfl⟩:=hb.more
  have C1:=cut_any _ P n v m k r qb w (Nat.lt_succ_self _) hb (by omega) hP
  have HA:=hid (⟨ha,hP,hs⟩:_∧_∧_)
  clear ha hb hP hs
  go_enter Tryz.func151,Tryz.ntmps151
  go_wp2_with fail
  refine C1.mono ?_
  rintro e w2 ⟨p,au,rfl,ht,hr2,hg2⟩
  have hn:=new_var109 w2 (ch n p)
  have hV2:Var109 (w2.alloc (.cells z109 100)) w2.heap.size z109:=Var109.new w2 z109
  have H2:=hid (⟨ht,hr2,hg2,hV2,hn⟩:_∧_∧_∧_∧_)
  clear C1 ht hr2 hg2 hV2 hn
  go_upto_region 4 with (first
   | ((with_reducible refine jJ (.pointer (some ⟨w2.heap.size,0,none⟩)) (w2.alloc (.cells z109 100)) ?_ ?_ ?_);exact exec_alloc109 rfl _;kernel_rfl)
   | ((with_reducible refine jP ((w2.alloc (.cells z109 100)).setRow w2.heap.size (ch n p)) ?_ ?_ ?_);exact exec_store109 _ _ rfl w2.heap.size _ z109 rfl rfl _ H2.out.2.2.2.1 (ch_size ..) rfl (ch_one ..);kernel_rfl))
  try simp only [Act.put,sA,sB,sC]
  have H3:=hid (⟨H2.out.1.grow H2.out.2.2.2.2.1,H2.out.2.1.grow H2.out.2.2.2.2.1,HA.out.1.grow (H2.out.2.2.1.trans H2.out.2.2.2.2.1),H2.out.2.2.2.2.2,H2.out.2.2.1.trans H2.out.2.2.2.2.1⟩:_∧_∧_∧_∧_)
  clear H2
  generalize (w2.alloc (.cells z109 100)).setRow w2.heap.size (ch n p)=w3 at *
  generalize w2.heap.size=g at *
  have C2:=even_any (nm:=n) H3.out.2.2.1 H3.out.2.1 H3.out.1 (by have:=HA.out.2.2;rw [F.size] at this;omega) (fun b hb=>HA.out.2.1 b (by have:=H3.out.2.2.2.2.size;omega))
  go_wp2_with ((with_reducible refine jA (.agg (ch n p)) ?_ ?_ ?_);exact exec_load109 _ rfl g rfl (ch n p) rfl H3.out.2.2.2.1.lies;kernel_rfl)
  refine C2.mono ?_
  rintro e w5 ⟨q2,rfl,hq2,hg5⟩
  have H5:=hid (⟨hq2,H3.out.2.2.2.2.trans hg5⟩:_∧_)
  clear C2 hq2 hg5 H3
  go_wp2_with fail
  go_ret
  exact ⟨_,rfl,H5.out.1,H5.out.2⟩
def WithoutOk (P:Nat→Prop) (R:Nat→Prop) (nm:ByteArray) (f:F):Prop:=∀ (w:World) (au:Option Addr),AtF P R w (.pointer au) f→f.rises→f.size≤900000→(∀ b,w.heap.size≤b→P b)→
  Calls Tryz.prog 138 #[.pointer au,.string nm] w (ToF P R w (f.del nm))
theorem without_any (nm:ByteArray):∀ (Z:Nat) (f:F),f.size<Z→WithoutOk P R nm f:=by
 intro Z
 induction Z with
 | zero=>intro f h;omega
 | succ Z ih=>
  intro f hZ w au hu hr hs hP
  have HP:Hid (∀ W,G w W→∀ b,W.heap.size≤b→P b):=fun W hW b hb=>hP b (Nat.le_trans hW.size hb)
  clear hP
  cases au with
  | none=>
   obtain rfl:=hu.isNil
   clear hu hr ih
   go_enter Tryz.func138,Tryz.ntmps138
   go_wp2_with fail
   go_ret
   exact ⟨none,rfl,AtF.leaf _,G.refl _⟩
  | some a=>
   obtain ⟨q,rfl⟩:=hu.addr
   obtain ⟨n,p1,v1,m1,f1,aa,ab,fa,fb,c0,c1,c2,c3,h1,ha,hb,rfl⟩:=hu.node
   obtain ⟨ra,rua,rab,rk,rb,_⟩:=F.rises_app.1 hr
   have hsz:fa.size+(f1.size+fb.size+1)≤900000:=by rw [F.app_size,F.size] at hs;omega
   have hZ2:fa.size+(f1.size+fb.size+1)<Z+1:=by rw [F.app_size,F.size] at hZ;omega
   have HA:=hid (⟨ha,hb,h1⟩:AtF P R w (.pointer aa) fa∧AtF P R w (.pointer ab) fb∧AtTF P R w p1 v1 m1 f1)
   have HIH:=hid ih
   have HR:=hid (⟨ra,rb⟩:_∧_)
   have C94:=cmp_any nm n w
   clear hu hr hs hZ ha hb h1 ra rk rb ih
   rcases lt_tri nm n with hq | hq | hq
   ·rw [F.del_eq hq rua]
    rw [show cmp3 nm n=0 from cmp3_eq.2 hq] at C94
    clear rua rab hq
    go_enter Tryz.func138,Tryz.ntmps138
    go_upto_region 5 with (go_at_call 100;refine C94.mono ?_;rintro e w2 ⟨rfl,e2⟩;subst e2)
    refine jV ?_
    replace c0:=(G.drew w2).cell c0
    replace c1:=(G.drew w2).cell c1
    replace c2:=(G.drew w2).cell c2
    replace c3:=(G.drew w2).cell c3
    have HD:=hid (G.drew w2)
    generalize w2.drew=w3 at *
    refine takeG 0 16 (.pointer (some ⟨q,0,none⟩)) rfl rfl (by kernel_rfl) (by kernel_rfl) (by kernel_rfl) (fun _ _ _ h=>h) (by kernel_rfl) (fun wz hz=>?_) ?_
    ·rfl
    try simp only [Act.put,sA,sB,sC]
    refine takeG 1 17 (.pointer (some ⟨q,0,none⟩)) rfl rfl (by kernel_rfl) (by kernel_rfl) (by kernel_rfl) (fun _ _ _ h=>h) (by kernel_rfl) (fun wz hz=>?_) ?_
    ·go_simp
    try simp only [Act.put,sA,sB,sC]
    refine takeG 2 18 (.pointer (some ⟨q,2,none⟩)) rfl rfl (by kernel_rfl) (by kernel_rfl) (by kernel_rfl) (fun _ _ _ h=>h) (by kernel_rfl) (fun wz hz=>?_) ?_
    ·go_simp
    try simp only [Act.put,sA,sB,sC]
    refine takeG 3 19 (.pointer aa) rfl rfl (by kernel_rfl) (by kernel_rfl) (by kernel_rfl) (fun _ _ _ h=>h) (by kernel_rfl) (fun wz hz=>?_) ?_
    ·have y0:=hz.cell c2;go_simp
    try simp only [Act.put,sA,sB,sC]
    refine takeG 4 20 (.pointer (some ⟨q,0,none⟩)) rfl rfl (by kernel_rfl) (by kernel_rfl) (by kernel_rfl) (fun _ _ _ h=>h) (by kernel_rfl) (fun wz hz=>?_) ?_
    ·rfl
    try simp only [Act.put,sA,sB,sC]
    refine takeG 5 21 (.pointer (some ⟨q,0,none⟩)) rfl rfl (by kernel_rfl) (by kernel_rfl) (by kernel_rfl) (fun _ _ _ h=>h) (by kernel_rfl) (fun wz hz=>?_) ?_
    ·go_simp
    try simp only [Act.put,sA,sB,sC]
    refine takeG 6 22 (.pointer (some ⟨q,3,none⟩)) rfl rfl (by kernel_rfl) (by kernel_rfl) (by kernel_rfl) (fun _ _ _ h=>h) (by kernel_rfl) (fun wz hz=>?_) ?_
    ·go_simp
    try simp only [Act.put,sA,sB,sC]
    refine takeG 7 23 (.pointer ab) rfl rfl (by kernel_rfl) (by kernel_rfl) (by kernel_rfl) (fun _ _ _ h=>h) (by kernel_rfl) (fun wz hz=>?_) ?_
    ·have y0:=hz.cell c3;go_simp
    try simp only [Act.put,sA,sB,sC]
    refine readyG [8] (by kernel_rfl) (by simp) fun w5 hg5=>?_
    have hG5:=HD.out.trans hg5
    refine AllG.call 8 24 151 #[.pointer aa,.pointer ab] rfl rfl (by kernel_rfl) (by go_simp) ((followed_any (HA.out.1.grow hG5) (HA.out.2.1.grow hG5) (by omega) (HP.out _ hG5)).mono ?_) AllG.nil
    rintro e w6 ⟨a2,rfl,hq2,hg6⟩
    refine ⟨_,rfl,hg6,?_⟩
    try simp only [Act.put,sA,sB,sC]
    have hG7:=hG5.trans hg6
    refine takeG 9 4 (.pointer a2) rfl rfl (by kernel_rfl) (by kernel_rfl) (by kernel_rfl) (fun _ _ _ h=>h) (by kernel_rfl) (fun wz hz=>?_) ?_
    ·rfl
    try simp only [Act.put,sA,sB,sC]
    refine doneG (by kernel_rfl) (fun w9 hg9=>?_)
    have HQ:=hid (⟨hq2.grow hg9,hG7.trans hg9⟩:_∧_)
    clear hq2 hg9
    go_wp2
    go_ret
    exact ⟨_,rfl,HQ.out.1,HQ.out.2⟩
   ·rw [F.del_lt hq rab]
    rw [show cmp3 nm n=-1 from cmp3_lt hq] at C94
    clear rua rab hq
    go_enter Tryz.func138,Tryz.ntmps138
    go_upto_region 7 with (go_at_call 100;refine C94.mono ?_;rintro e w2 ⟨rfl,e2⟩;subst e2)
    refine jV ?_
    replace c0:=(G.drew w2).cell c0
    replace c1:=(G.drew w2).cell c1
    replace c2:=(G.drew w2).cell c2
    replace c3:=(G.drew w2).cell c3
    have HD:=hid (G.drew w2)
    generalize w2.drew=w3 at *
    refine takeG 0 27 (.pointer (some ⟨q,0,none⟩)) rfl rfl (by kernel_rfl) (by kernel_rfl) (by kernel_rfl) (fun _ _ _ h=>h) (by kernel_rfl) (fun wz hz=>?_) ?_
    ·rfl
    try simp only [Act.put,sA,sB,sC]
    refine takeG 1 28 (.pointer (some ⟨q,0,none⟩)) rfl rfl (by kernel_rfl) (by kernel_rfl) (by kernel_rfl) (fun _ _ _ h=>h) (by kernel_rfl) (fun wz hz=>?_) ?_
    ·go_simp
    try simp only [Act.put,sA,sB,sC]
    refine takeG 2 29 (.pointer (some ⟨q,2,none⟩)) rfl rfl (by kernel_rfl) (by kernel_rfl) (by kernel_rfl) (fun _ _ _ h=>h) (by kernel_rfl) (fun wz hz=>?_) ?_
    ·go_simp
    try simp only [Act.put,sA,sB,sC]
    refine takeG 3 30 (.pointer aa) rfl rfl (by kernel_rfl) (by kernel_rfl) (by kernel_rfl) (fun _ _ _ h=>h) (by kernel_rfl) (fun wz hz=>?_) ?_
    ·have y0:=hz.cell c2;go_simp
    try simp only [Act.put,sA,sB,sC]
    refine takeG 4 31 (.string nm) rfl rfl (by kernel_rfl) (by kernel_rfl) (by kernel_rfl) (fun _ _ _ h=>h) (by kernel_rfl) (fun wz hz=>?_) ?_
    ·rfl
    try simp only [Act.put,sA,sB,sC]
    refine takeG 6 33 (.pointer (some ⟨q,0,none⟩)) rfl rfl (by kernel_rfl) (by kernel_rfl) (by kernel_rfl) (fun _ _ _ h=>h) (by kernel_rfl) (fun wz hz=>?_) ?_
    ·rfl
    try simp only [Act.put,sA,sB,sC]
    refine takeG 7 34 (.pointer (some ⟨q,0,none⟩)) rfl rfl (by kernel_rfl) (by kernel_rfl) (by kernel_rfl) (fun _ _ _ h=>h) (by kernel_rfl) (fun wz hz=>?_) ?_
    ·go_simp
    try simp only [Act.put,sA,sB,sC]
    refine takeG 8 35 (.pointer (some ⟨q,0,none⟩)) rfl rfl (by kernel_rfl) (by kernel_rfl) (by kernel_rfl) (fun _ _ _ h=>h) (by kernel_rfl) (fun wz hz=>?_) ?_
    ·go_simp
    try simp only [Act.put,sA,sB,sC]
    refine takeG 9 36 (.agg #[.string n,.pointer (some ⟨p1,0,none⟩)]) rfl rfl (by kernel_rfl) (by kernel_rfl) (by kernel_rfl) (fun _ _ _ h=>h) (by kernel_rfl) (fun wz hz=>?_) ?_
    ·have y0:=hz.cell c0;have y1:=hz.cell c1;go_simp
    try simp only [Act.put,sA,sB,sC]
    refine takeG 10 37 (.pointer (some ⟨q,0,none⟩)) rfl rfl (by kernel_rfl) (by kernel_rfl) (by kernel_rfl) (fun _ _ _ h=>h) (by kernel_rfl) (fun wz hz=>?_) ?_
    ·rfl
    try simp only [Act.put,sA,sB,sC]
    refine takeG 11 38 (.pointer (some ⟨q,0,none⟩)) rfl rfl (by kernel_rfl) (by kernel_rfl) (by kernel_rfl) (fun _ _ _ h=>h) (by kernel_rfl) (fun wz hz=>?_) ?_
    ·go_simp
    try simp only [Act.put,sA,sB,sC]
    refine takeG 12 39 (.pointer (some ⟨q,3,none⟩)) rfl rfl (by kernel_rfl) (by kernel_rfl) (by kernel_rfl) (fun _ _ _ h=>h) (by kernel_rfl) (fun wz hz=>?_) ?_
    ·go_simp
    try simp only [Act.put,sA,sB,sC]
    refine takeG 13 40 (.pointer ab) rfl rfl (by kernel_rfl) (by kernel_rfl) (by kernel_rfl) (fun _ _ _ h=>h) (by kernel_rfl) (fun wz hz=>?_) ?_
    ·have y0:=hz.cell c3;go_simp
    try simp only [Act.put,sA,sB,sC]
    refine readyG [5] (by kernel_rfl) (by simp) fun w5 hg5=>?_
    have hG5:=HD.out.trans hg5
    refine AllG.call 5 32 138 #[.pointer aa,.string nm] rfl rfl (by kernel_rfl) (by go_simp) ((HIH.out fa (by omega) w5 aa (HA.out.1.grow hG5) HR.out.1 (by omega) (HP.out _ hG5)).mono ?_) AllG.nil
    rintro e w6 ⟨a1,rfl,hq1,hg6⟩
    refine ⟨_,rfl,hg6,?_⟩
    try simp only [Act.put,sA,sB,sC]
    refine readyG [14] (by kernel_rfl) (by simp) fun w7 hg7=>?_
    have hG6:=(hG5.trans hg6).trans hg7
    refine AllG.call 14 41 150 #[.pointer a1,.agg #[.string n,.pointer (some ⟨p1,0,none⟩)],.pointer ab] rfl rfl (by kernel_rfl) (by go_simp) ((even_any (nm:=n) (hq1.grow hg7) (HA.out.2.1.grow hG6) (HA.out.2.2.grow hG6) (by have:=F.del_size (nm:=nm) fa;omega) (HP.out _ hG6)).mono ?_) AllG.nil
    rintro e w8 ⟨q2,rfl,hq2,hg8⟩
    refine ⟨_,rfl,hg8,?_⟩
    try simp only [Act.put,sA,sB,sC]
    have hG7:=hG6.trans hg8
    refine takeG 15 4 (.pointer (some ⟨q2,0,none⟩)) rfl rfl (by kernel_rfl) (by kernel_rfl) (by kernel_rfl) (fun _ _ _ h=>h) (by kernel_rfl) (fun wz hz=>?_) ?_
    ·rfl
    try simp only [Act.put,sA,sB,sC]
    refine doneG (by kernel_rfl) (fun w9 hg9=>?_)
    have HQ:=hid (⟨hq2.grow hg9,hG7.trans hg9⟩:_∧_)
    clear hq2 hg9
    go_wp2
    go_ret
    exact ⟨_,rfl,HQ.out.1,HQ.out.2⟩
   ·rw [F.del_gt hq rua]
    rw [show cmp3 nm n=1 from qC hq] at C94
    clear rua rab hq
    go_enter Tryz.func138,Tryz.ntmps138
    go_upto_region 8 with (go_at_call 100;refine C94.mono ?_;rintro e w2 ⟨rfl,e2⟩;subst e2)
    refine jV ?_
    replace c0:=(G.drew w2).cell c0
    replace c1:=(G.drew w2).cell c1
    replace c2:=(G.drew w2).cell c2
    replace c3:=(G.drew w2).cell c3
    have HD:=hid (G.drew w2)
    generalize w2.drew=w3 at *
    refine takeG 0 42 (.pointer (some ⟨q,0,none⟩)) rfl rfl (by kernel_rfl) (by kernel_rfl) (by kernel_rfl) (fun _ _ _ h=>h) (by kernel_rfl) (fun wz hz=>?_) ?_
    ·rfl
    try simp only [Act.put,sA,sB,sC]
    refine takeG 1 43 (.pointer (some ⟨q,0,none⟩)) rfl rfl (by kernel_rfl) (by kernel_rfl) (by kernel_rfl) (fun _ _ _ h=>h) (by kernel_rfl) (fun wz hz=>?_) ?_
    ·go_simp
    try simp only [Act.put,sA,sB,sC]
    refine takeG 2 44 (.pointer (some ⟨q,2,none⟩)) rfl rfl (by kernel_rfl) (by kernel_rfl) (by kernel_rfl) (fun _ _ _ h=>h) (by kernel_rfl) (fun wz hz=>?_) ?_
    ·go_simp
    try simp only [Act.put,sA,sB,sC]
    refine takeG 3 45 (.pointer aa) rfl rfl (by kernel_rfl) (by kernel_rfl) (by kernel_rfl) (fun _ _ _ h=>h) (by kernel_rfl) (fun wz hz=>?_) ?_
    ·have y0:=hz.cell c2;go_simp
    try simp only [Act.put,sA,sB,sC]
    refine takeG 4 46 (.pointer (some ⟨q,0,none⟩)) rfl rfl (by kernel_rfl) (by kernel_rfl) (by kernel_rfl) (fun _ _ _ h=>h) (by kernel_rfl) (fun wz hz=>?_) ?_
    ·rfl
    try simp only [Act.put,sA,sB,sC]
    refine takeG 5 47 (.pointer (some ⟨q,0,none⟩)) rfl rfl (by kernel_rfl) (by kernel_rfl) (by kernel_rfl) (fun _ _ _ h=>h) (by kernel_rfl) (fun wz hz=>?_) ?_
    ·go_simp
    try simp only [Act.put,sA,sB,sC]
    refine takeG 6 48 (.pointer (some ⟨q,0,none⟩)) rfl rfl (by kernel_rfl) (by kernel_rfl) (by kernel_rfl) (fun _ _ _ h=>h) (by kernel_rfl) (fun wz hz=>?_) ?_
    ·go_simp
    try simp only [Act.put,sA,sB,sC]
    refine takeG 7 49 (.agg #[.string n,.pointer (some ⟨p1,0,none⟩)]) rfl rfl (by kernel_rfl) (by kernel_rfl) (by kernel_rfl) (fun _ _ _ h=>h) (by kernel_rfl) (fun wz hz=>?_) ?_
    ·have y0:=hz.cell c0;have y1:=hz.cell c1;go_simp
    try simp only [Act.put,sA,sB,sC]
    refine takeG 8 50 (.pointer (some ⟨q,0,none⟩)) rfl rfl (by kernel_rfl) (by kernel_rfl) (by kernel_rfl) (fun _ _ _ h=>h) (by kernel_rfl) (fun wz hz=>?_) ?_
    ·rfl
    try simp only [Act.put,sA,sB,sC]
    refine takeG 9 51 (.pointer (some ⟨q,0,none⟩)) rfl rfl (by kernel_rfl) (by kernel_rfl) (by kernel_rfl) (fun _ _ _ h=>h) (by kernel_rfl) (fun wz hz=>?_) ?_
    ·go_simp
    try simp only [Act.put,sA,sB,sC]
    refine takeG 10 52 (.pointer (some ⟨q,3,none⟩)) rfl rfl (by kernel_rfl) (by kernel_rfl) (by kernel_rfl) (fun _ _ _ h=>h) (by kernel_rfl) (fun wz hz=>?_) ?_
    ·go_simp
    try simp only [Act.put,sA,sB,sC]
    refine takeG 11 53 (.pointer ab) rfl rfl (by kernel_rfl) (by kernel_rfl) (by kernel_rfl) (fun _ _ _ h=>h) (by kernel_rfl) (fun wz hz=>?_) ?_
    ·have y0:=hz.cell c3;go_simp
    try simp only [Act.put,sA,sB,sC]
    refine takeG 12 54 (.string nm) rfl rfl (by kernel_rfl) (by kernel_rfl) (by kernel_rfl) (fun _ _ _ h=>h) (by kernel_rfl) (fun wz hz=>?_) ?_
    ·rfl
    try simp only [Act.put,sA,sB,sC]
    refine readyG [13] (by kernel_rfl) (by simp) fun w5 hg5=>?_
    have hG5:=HD.out.trans hg5
    refine AllG.call 13 55 138 #[.pointer ab,.string nm] rfl rfl (by kernel_rfl) (by go_simp) ((HIH.out fb (by omega) w5 ab (HA.out.2.1.grow hG5) HR.out.2 (by omega) (HP.out _ hG5)).mono ?_) AllG.nil
    rintro e w6 ⟨a1,rfl,hq1,hg6⟩
    refine ⟨_,rfl,hg6,?_⟩
    try simp only [Act.put,sA,sB,sC]
    refine readyG [14] (by kernel_rfl) (by simp) fun w7 hg7=>?_
    have hG6:=(hG5.trans hg6).trans hg7
    refine AllG.call 14 56 150 #[.pointer aa,.agg #[.string n,.pointer (some ⟨p1,0,none⟩)],.pointer a1] rfl rfl (by kernel_rfl) (by go_simp) ((even_any (nm:=n) (HA.out.1.grow hG6) (hq1.grow hg7) (HA.out.2.2.grow hG6) (by have:=F.del_size (nm:=nm) fb;omega) (HP.out _ hG6)).mono ?_) AllG.nil
    rintro e w8 ⟨q2,rfl,hq2,hg8⟩
    refine ⟨_,rfl,hg8,?_⟩
    try simp only [Act.put,sA,sB,sC]
    have hG7:=hG6.trans hg8
    refine takeG 15 4 (.pointer (some ⟨q2,0,none⟩)) rfl rfl (by kernel_rfl) (by kernel_rfl) (by kernel_rfl) (fun _ _ _ h=>h) (by kernel_rfl) (fun wz hz=>?_) ?_
    ·rfl
    try simp only [Act.put,sA,sB,sC]
    refine doneG (by kernel_rfl) (fun w9 hg9=>?_)
    have HQ:=hid (⟨hq2.grow hg9,hG7.trans hg9⟩:_∧_)
    clear hq2 hg9
    go_wp2
    go_ret
    exact ⟨_,rfl,HQ.out.1,HQ.out.2⟩
end Go.Proofs.YthfcanpkhjgomaaGreat
namespace Go.Proofs.YthfcanpkhjgomaaGreat
open Go.RowKit
variable {P R:Nat→Prop}
theorem drop_root (p:Nat) (t:T3) (s:ByteArray) (w:World) (ht:AtTF P R w p t.1 t.2.1 t.2.2) (hr:t.2.2.rises) (hs:s.size≤1048576) (hw:wayE t s=0) (hc:cutN s=[]):
  Calls Tryz.prog 86 #[.pointer (some ⟨p,0,none⟩),.string s] w fun e w'=>e=.returned (.tuple #[.pointer none,.int .i64 46])∧G w w':=by
 have C1:=way_any p t s w ht hr hs
 rw [hw,hc] at C1
 clear ht hr hw hc
 go_enter Tryz.func86,Tryz.ntmps86
 go_wp2_with (go_at_call 119;refine C1.mono ?_;rintro e w1 ⟨an,n,cn,rfl,hn,hg1⟩;obtain ⟨rfl,_,_⟩:=hn rfl;have HG1:=hid hg1;clear hn hg1;simp only [List.length_nil])
 go_ret2
 exact ⟨rfl,HG1.out⟩
theorem drop_none (p:Nat) (t:T3) (s:ByteArray) (w:World) (ht:AtTF P R w p t.1 t.2.1 t.2.2) (hr:t.2.2.rises) (hs:s.size≤1048576) (hw:wayE t s=0) (hc:cutN s≠[]) (hd:dn t (cutN s)=none):
  Calls Tryz.prog 86 #[.pointer (some ⟨p,0,none⟩),.string s] w fun e w'=>e=.returned (.tuple #[.pointer none,.int .i64 45])∧G w w':=by
 have C1:=way_any p t s w ht hr hs
 rw [hw] at C1
 have HT:=hid (⟨ht,hr⟩:_∧_)
 obtain ⟨n0,hn0⟩:∃ n,(cutN s).length=n+1:=⟨(cutN s).length-1,by have:=List.length_pos_iff.2 hc;omega⟩
 clear ht hr hw hc
 go_enter Tryz.func86,Tryz.ntmps86
 go_wp2_with (first
  | (go_at_call 119;refine C1.mono ?_;rintro e w1 ⟨an,n,cn,rfl,hn,hg1⟩;obtain ⟨rfl,hn2,hn3⟩:=hn rfl;have CD:=down_any p t _ _ w1 (HT.out.1.grow hg1) HT.out.2 hn2 (by omega);rw [hd] at CD;have HG1:=hid hg1;rw [hn0] at CD ⊢;clear hn hn2 hg1)
  | (go_at_call 117;refine CD.mono ?_;rintro e w2 ⟨⟨u,rfl,hu⟩,e2⟩;subst e2;have hu2:u=.pointer none:=hu;subst hu2;clear hu))
 go_ret2
 exact ⟨rfl,HG1.out⟩
theorem K.all_true {w:World}:∀ {k:K},k.plain w→k.all (fun _=>True) (Tr w)
 | .nil,_=>trivial
 | .node _ _ _ _ _ _ _ _,⟨h,h1,h2,h3⟩=>⟨trivial,⟨trivial,h⟩,K.all_true h1,K.all_true h2,K.all_true h3⟩
theorem K.all_plain {P:Nat→Prop} {w:World}:∀ {k:K},k.all P (Tr w)→k.plain w
 | .nil,_=>trivial
 | .node _ _ _ _ _ _ _ _,⟨_,h,h1,h2,h3⟩=>⟨h.2,K.all_plain h1,K.all_plain h2,K.all_plain h3⟩
theorem AtTF.of {w:World} {p:Nat} {v:Vd} {m:Md} {k:K} {f:F} (h:AtT w p v m k) (hp:k.plain w) (ht:Tr w p) (e:k.flat=f):AtTF (fun _=>True) (Tr w) w p v m f:=⟨k,h,e,K.all_true hp,trivial,ht⟩
end Go.Proofs.YthfcanpkhjgomaaGreat
