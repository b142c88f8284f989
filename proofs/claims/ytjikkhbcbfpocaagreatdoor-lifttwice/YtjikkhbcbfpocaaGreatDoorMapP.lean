import Derived.Test.YtjikkhbcbfpocaaGreatDoorEachQ
set_option maxRecDepth 100000
set_option maxHeartbeats 1000000
namespace Go.Proofs.YtjikkhbcbfpocaaGreatDoor
open Go.RowKit Go.Shelf
attribute [local go_sem] Oper.semAt_some
theorem K.items_len:∀ k:K,k.items.length=k.flat.len
 | .nil=>rfl
 | .node _ _ _ _ _ _ ah be=>by rw [K.items,K.flat,F.aV,F.len,lA,lC,K.items_len ah,K.items_len be]
theorem qw (p:Nat) (w:World):
  Calls Tryz.prog 39 #[.pointer (some ⟨p,0,none⟩)] w fun e w'=>e=.returned (.func (.func 71) #[] #[.pointer (some ⟨w.heap.size,0,none⟩)])∧w'=w.alloc (.cells #[.pointer (some ⟨p,0,none⟩)] 32):=by
 have hmf:∀ (fn:Fn) (first cap:Array Value) (w:World),(Instr.makeFunc fn first cap).run Tryz.prog w=.ok (.func fn first cap) w:=fun _ _ _ _=>rfl
 go_enter Tryz.func39,Tryz.ntmps39
 go_wp2
 go_ret
 exact ⟨rfl,rfl⟩
theorem gv (n:Nat) (w0:World) (S l Bt p:Nat) (v:Vd) (m:Md) (k:K) (J Jx:List (iS w0 S)→World→Prop) (hJD:∀ pre W,J pre W→J pre W.drew)
  (hY:∀ pre (x:iS w0 S) W,J pre W→pre.length<k.items.length→YieldAt Fence.wide (n-1) Tryz.prog l #[.string x.1.nm,.pointer (some ⟨x.1.p,0,none⟩)] W fun e W'=>
   (e=.returned (.bool true)∧J (pre++[x]) W'∧Below w0.heap.size W W')∨(e=.returned (.bool false)∧Jx (pre++[x]) W'))
  (W:World) (hBt:W.cell? ⟨Bt,0,none⟩=some (.pointer (some ⟨p,0,none⟩))) (hT:AtT w0 p v m k) (hS:k.flat.size≤S) (hG:G w0 W) (h0:J [] W):
  CallsIn Fence.wide n Tryz.prog 71 #[.func (.yield l) #[] #[],.pointer (some ⟨Bt,0,none⟩)] W fun e W'=>(∃ v,e=.returned v)∧
   ((∃ ys:List (iS w0 S),kids ys=k.items∧J ys W')∨(∃ pre:List (iS w0 S),kids pre <+: k.items∧Jx pre W')):=by
 exact yw n w0 (fun x=>x.k.flat.size<S) l Bt p v m k J Jx hJD (fun pre x W hj hl _=>hY pre x W hj hl) W hBt hT (fun x hx=>Nat.lt_of_lt_of_le (yE x hx) hS) hG h0
theorem dU (n:Nat) (w0:World) (S Bt p:Nat) (v:Vd) (m:Md) (k:K) (w:World) (hBt:Bt<w.heap.size) (hc:w.cell? ⟨Bt,0,none⟩=some (.pointer (some ⟨p,0,none⟩))) (hT:AtT w0 p v m k) (hS:k.flat.size≤S) (hG:G w0 w):
  SeqStopsK Fence.wide n Tryz.prog 71 #[.pointer (some ⟨Bt,0,none⟩)] (fun x:iS w0 S=>#[Value.string x.1.nm,.pointer (some ⟨x.1.p,0,none⟩)]) (Below w0.heap.size) (fun ys=>kids ys=k.items) (fun pre=>kids pre <+: k.items) k.items.length w:=fun l J Jx W hW hJ _ hY h0=>
 gv n w0 S l Bt p v m k J Jx (fun pre A h=>hJ _ _ _ none h ⟨rfl,rfl,rfl,Nat.le_refl _,fun _ _ _=>rfl⟩ (fun r e=>by cases e)) hY W ((hW.cell (p:=⟨Bt,0,none⟩) hBt).trans hc) hT hS (hG.trans hW) h0
end Go.Proofs.YtjikkhbcbfpocaaGreatDoor
namespace Go.Proofs.YtjikkhbcbfpocaaGreatDoor
open Go.RowKit Go.Shelf
theorem build30 (v:Vd) (m:Md) (w:World):(Instr.build 30 #[(1,.agg (vx v).toArray),(2,.agg (mx m).toArray)]).run Tryz.prog w=.ok (.agg (nc ⟨#[]⟩ v m (.slice none 0 0))) w:=by
 refine run_build w 30 _ _ ?_
 have hz:∃ z:List Value,(Tryz.prog.info? 30).bind (·.zero)=some (.agg (List.toArray (.string ⟨#[]⟩::(z++[.slice none 0 0]))))∧z.length=39:=⟨vx Vd.zero++mx Md.zero,by kernel_rfl,by kernel_rfl⟩
 obtain ⟨z,hz,hl⟩:=hz
 have hp:(Tryz.prog.fieldsOf 30).toList.mapM (fun f=>(Tryz.prog.info? f.type).map fun i=>(f.offset,i.size))=some [(0,1),(1,35),(36,4),(40,1)]:=by kernel_rfl
 have hu2:Tryz.prog.underlying 30=some (.struct (Tryz.prog.fieldsOf 30)):=by kernel_rfl
 unfold Program.built
 cases hi:Tryz.prog.info? 30 with
 | none=>rw [hi] at hz;cases hz
 | some it=>
  rw [hi] at hz
  simp only [Option.bind_some] at hz
  simp only [hu2,hz,hp]
  show Instr.fill _ (List.toArray _) _=_
  have hx:=je v
  have hm:=qh m
  rw [qy _ _ 1 1 35 _ (vx v) _ rfl rfl hx (by simp;omega),qy _ _ 2 36 4 _ (mx m) _ rfl rfl hm (by simp [over,hx];omega),Instr.fill]
  simp only [over,nc,hx,hm]
  refine congrArg some (congrArg List.toArray ?_)
  simp only [List.take_succ_cons,List.take_zero,List.cons_append,List.nil_append,List.drop_succ_cons,Nat.reduceAdd]
  have t1:∀ r:List Value,(vx v++r).take 35=vx v:=fun r=>by
   rw [List.take_append_of_le_length (by omega),List.take_of_length_le (by omega)]
  have t2:((vx v++(z++[Value.slice none 0 0]).drop 35).drop 39)=[Value.slice none 0 0]:=by
   rw [List.drop_append,hx,List.drop_of_length_le (by omega),List.drop_drop,List.nil_append,List.drop_append,hl,List.drop_of_length_le (by omega)]
   rfl
  rw [t1,t2]
  simp
theorem ay {o:Oper} {a:Act} (parts:Array (Nat × Operand)) (ho:o.op=.build 30 parts) (v:Vd) (m:Md)
  (hp:(parts.map fun (p:Nat × Operand)=>(p.1,a.eval p.2))=#[(1,.agg (vx v).toArray),(2,.agg (mx m).toArray)]) (w:World):(execOp a.eval o).run Tryz.prog w=.ok (.value (.agg (nc ⟨#[]⟩ v m (.slice none 0 0)))) w:=by
 unfold execOp
 simp only [ho]
 have:(parts.map fun (x:Nat × Operand)=>match x with | (i,x)=>(i,a.eval x))=#[(1,.agg (vx v).toArray),(2,.agg (mx m).toArray)]:=hp
 rw [this]
 simp only [Sem.run_bind,build30 v m w,Result.andThen_ok,Sem.run_pure]
theorem kP {base e size g n cap:Nat}:∀ (vs:List Value) (o:Nat) (w:World) (xs:List Value),w.ownsRow base e size (.slice (some ⟨g,0,none⟩) n cap) n xs→o+vs.length≤xs.length→
  (w.setCells g o vs).ownsRow base e size (.slice (some ⟨g,0,none⟩) n cap) n (over xs o vs)∧w.grownBy (w.setCells g o vs) (some g)
 | [],o,w,xs,h,_=>⟨by simpa [over,World.setCells] using h,⟨rfl,rfl,rfl,Nat.le_refl _,fun _ _ _=>rfl⟩⟩
 | v::r,o,w,xs,h,hl=>by
  simp only [lC] at hl
  obtain ⟨h1,h2⟩:=h.stored o v
  obtain ⟨h3,h4⟩:=kP r (o+1) _ _ h1 (by simp;omega)
  refine ⟨?_,h2.trans h4⟩
  have:over (xs.set o v) (o+1) r=over xs o (v::r):=by
   unfold over
   rw [eE _ _ _ (by omega)]
   have h1:(xs.take o).length=o:=by simp;omega
   have e1:(xs.take o++v::xs.drop (o+1)).take (o+1)=xs.take o++[v]:=by
    rw [List.take_append,h1,show o+1-o=1 by omega,List.take_of_length_le (by omega)]
    rfl
   have e2:(xs.take o++v::xs.drop (o+1)).drop (o+1+r.length)=xs.drop (o+(r.length+1)):=by
    rw [List.drop_append,h1,List.drop_of_length_le (l:=xs.take o) (by omega),show o+1+r.length-o=r.length+1 by omega,List.drop_succ_cons,List.drop_drop]
    simp only [List.nil_append]
    congr 1
    omega
   rw [e1,e2]
   simp
  rw [this] at h3
  exact h3
theorem zt {w:World} {base e size g n cap:Nat} {xs:List Value} (h:w.ownsRow base e size (.slice (some ⟨g,0,none⟩) n cap) n xs) (o k:Nat) (hk:o+k≤xs.length):w.there g o k:=fun j hj=>by
 refine ⟨?_,h.frozenAt _⟩
 have:=h.cells (g:=g) rfl (o+j) (xs[o+j]'(by omega)) (by simp)
 rw [Addr.add_mid,Nat.zero_add] at this
 rw [this];rfl
theorem kQ {o:Oper} {a:Act} (x y:Operand) (ho:o.op=.store 30 x y) (g f:Nat) (c:Array Value) (hx:a.eval x=.pointer (some ⟨g,f,none⟩)) (hy:a.eval y=.agg c) (w:World) (ht:w.there g f 41)
  (hs:c.size=41) (h1:c.all (·.oneCell')=true):(execOp a.eval o).run Tryz.prog w=.ok .skip (w.setCells g f c.toList):=by
 unfold execOp
 simp only [ho,hx,hy,Sem.run_bind,Sem.run_pure,Result.andThen_ok,run_storeAt_mid (P:=Tryz.prog) w g f 30 c (by rw [hs];exact ht) (by rw [kL,hs]) h1]
theorem aF {o:Oper} {a:Act} (s x:Operand) (ho:o.op=.call { callee:=.builtin .append,args:=#[s,x],argTypes:=#[28,28] }) (base k:Nat) (v:Value) (xs:List Value) (w:World) (hs:a.eval s=v) (hown:w.ownsRow base 30 41 v k xs)
  (ad:Addr) (c:Array Value) (hx:a.eval x=.slice (some ad) 1 1) (hc:c.size=41) (hl:∀ j u,c[j]?=some u→w.cell? (ad.add j)=some u) (h1:c.all (·.oneCell')=true) (hk:k≤100000) (hb:base≤w.heap.size):
  ∃ g cap w',(execOp a.eval o).run Tryz.prog w=.ok (.value (.slice (some ⟨g,0,none⟩) (k+1) cap)) w'∧w'.ownsRow base 30 41 (.slice (some ⟨g,0,none⟩) (k+1) cap) (k+1) (xs++c.toList)∧w.grownBy w' v.ownBlock∧(v.ownBlock=some g∨g=w.heap.size):=by
 obtain ⟨i0,hi,hz0,hz1,hz2⟩:=info_parts gm
 obtain ⟨v',w',hr,h2,h3,_,h5⟩:=run_append_own_at (P:=Tryz.prog) w base 28 o.type 30 i0 (.agg z30) 41 128 Tryz.underlying28 hi hz0 hz1 hz2 jN (by decide) v k xs hown ad 1 1 c.toList (by simpa using hc) (fun j u hj=>hl j u (by simpa using hj)) (fun u hu=>(Array.all_eq_true_iff_forall_mem.1 h1) u (by simpa using hu)) (by unfold maxLen;omega) (by omega) hb
 obtain ⟨g,cap,rfl⟩:=yz h2
 refine ⟨g,cap,w',?_,h2,h3,?_⟩
 ·unfold execOp
  simp only [ho,resolve,invoke,builtin,Sem.run_bind,Sem.run_pure,Result.andThen_ok,List.map_toArray,List.map_cons,List.map_nil,hs,hx,hr]
 ·rcases h5 with h5 | h5
  ·exact .inl h5.symm
  ·exact .inr (by simpa [Value.ownBlock] using h5)
section
variable {ops:Array Oper} {Q:Exit→Act→World→Prop} {n l:Nat}
theorem iv {id:Nat} {a:Act} {w:World} (h:∀ ops' Q',ops'=ops→Q'=Q→wpAnyIn (Fence.wide.inRound l) n Tryz.prog .any ops' Q' ops.size (Array.replicate ops.size false) a w.drew):(Code.region id ops true).wpIn (Fence.wide.inRound l) n Tryz.prog Q a w:=
 wpIn_region_any (by kernel_rfl) (h ops Q rfl rfl)
theorem js (i d:Nat) (v:Value) (w':World) {oi:Oper} {fuel:Nat} {listed:Array Bool} {a:Act} {w:World} {rs:List Nat} (hi:ops[i]?=some oi) (hd:oi.dst=some d) (hw:Region.wanted oi (yielded ops a.tmps)=true) (hn:∀ c,oi.op≠.defer c)
  (hx:(execOp a.eval oi).run Tryz.prog w=.ok (.value v) w') (h:wpAnyIn (Fence.wide.inRound l) n Tryz.prog .any ops Q fuel (listed.setIfInBounds i true) (a.put (some d) v) w')
  (hs:AllReadyIn (Fence.wide.inRound l) n Tryz.prog .any ops Q fuel listed a w rs):AllReadyIn (Fence.wide.inRound l) n Tryz.prog .any ops Q fuel listed a w (i::rs):=by
 refine AllReadyIn.cons hi (fun K hK=>?_) hs
 rw [if_pos hw]
 refine ⟨fun _ _=>trivial,?_⟩
 rw [Oper.semAt_plain _ _ _ hn,hx,Oper.uponIn_value,hd]
 exact hK _ _ h
theorem cV (i:Nat) (w':World) {oi:Oper} {fuel:Nat} {listed:Array Bool} {a:Act} {w:World} {rs:List Nat} (hi:ops[i]?=some oi) (hd:oi.dst=none) (hw:Region.wanted oi (yielded ops a.tmps)=true) (hn:∀ c,oi.op≠.defer c)
  (hx:(execOp a.eval oi).run Tryz.prog w=.ok .skip w') (h:wpAnyIn (Fence.wide.inRound l) n Tryz.prog .any ops Q fuel (listed.setIfInBounds i true) a w')
  (hs:AllReadyIn (Fence.wide.inRound l) n Tryz.prog .any ops Q fuel listed a w rs):AllReadyIn (Fence.wide.inRound l) n Tryz.prog .any ops Q fuel listed a w (i::rs):=by
 refine AllReadyIn.cons hi (fun K hK=>?_) hs
 rw [if_pos hw]
 refine ⟨fun _ _=>trivial,?_⟩
 rw [Oper.semAt_plain _ _ _ hn,hx,Oper.uponIn_skip,hd]
 exact hK _ _ h
end
theorem qP {F:Fence} {n:Nat} {ops:Array Oper} {rest:List Oper} {o:Oper} {a:Act} {w:World} {Q:Exit→Act→World→Prop} (v:Value) (w':World) (hg:o.guard=none)
  (he:(execOp a.eval o).run Tryz.prog w=.ok (.value v) w') (hn:∀ c,o.op≠.defer c) (ha:∀ f,o.about Tryz.prog w a.eval=some f→F.fn f) (h:wpListIn F n Tryz.prog ops Q rest (a.put o.dst v) w'):wpListIn F n Tryz.prog ops Q (o::rest) a w:=by
 refine wpListIn_plain hg fun K hK=>?_
 refine ⟨ha,?_⟩
 rw [Oper.semAt_plain _ _ _ hn,he,Oper.uponIn_value]
 exact hK _ _ h
theorem kh {F:Fence} {n:Nat} {ops:Array Oper} {rest:List Oper} {o:Oper} {a:Act} {w:World} {Q:Exit→Act→World→Prop} (w':World) (hg:o.guard=none)
  (he:(execOp a.eval o).run Tryz.prog w=.ok .skip w') (hn:∀ c,o.op≠.defer c) (ha:∀ f,o.about Tryz.prog w a.eval=some f→F.fn f) (h:wpListIn F n Tryz.prog ops Q rest (a.put o.dst undef) w'):wpListIn F n Tryz.prog ops Q (o::rest) a w:=by
 refine wpListIn_plain hg fun K hK=>?_
 refine ⟨ha,?_⟩
 rw [Oper.semAt_plain _ _ _ hn,he,Oper.uponIn_skip]
 exact hK _ _ h
section
variable {ops:Array Oper} {Q:Exit→Act→World→Prop} {n:Nat}
theorem storeI (i:Nat) (w':World) {oi:Oper} {fuel:Nat} {listed:Array Bool} {a:Act} {w:World} {rs:List Nat} (hi:ops[i]?=some oi) (hd:oi.dst=none) (hw:Region.wanted oi (yielded ops a.tmps)=true)
  (hx:(execOp a.eval oi).run Tryz.prog w=.ok .skip w') (h:wpAnyIn Fence.wide n Tryz.prog .any ops Q fuel (listed.setIfInBounds i true) a w')
  (hs:AllReadyIn Fence.wide n Tryz.prog .any ops Q fuel listed a w rs):AllReadyIn Fence.wide n Tryz.prog .any ops Q fuel listed a w (i::rs):=by
 refine AllReadyIn.cons hi (fun K hK=>?_) hs
 rw [if_pos hw]
 refine ⟨fun _ _=>trivial,?_⟩
 rw [show (Fence.wide).round=none from rfl,Oper.semAt_none,hx,Oper.uponIn_skip,hd]
 exact hK _ _ h
end
end Go.Proofs.YtjikkhbcbfpocaaGreatDoor
namespace Go.Proofs.YtjikkhbcbfpocaaGreatDoor
open Go.RowKit
open Go.Shelf
def zI:Obj→Bool
 | .cells _ _ fr=>fr==(0,0)
 | _=>false
theorem ax {o:Obj} (h:zI o=true):o.isCells=true:=by cases o<;>first | rfl | cases h
def NewC (w w':World) (b:Nat):Prop:=w.heap.size≤b∧∃ o:Obj,w'.heap[b]?=some o∧zI o=true
def kU:List Kid→F
 | []=>.nil
 | x::r=>.cons x.nm x.v x.m x.k.flat (kU r)
theorem cU:∀ a b:List Kid,kU (a++b)=(kU a).app (kU b)
 | [],_=>rfl
 | x::a,b=>by rw [List.cons_append,kU,kU,F.app,cU a b]
theorem qC:∀ k:K,kU k.items=k.flat
 | .nil=>rfl
 | .node _ _ _ _ _ _ ah be=>by rw [K.items,cU,qC ah,kU,qC be,K.flat]
def NI (w:World) (B:Nat) (v:Vd) (m:Md) (fs:F) (k:Nat) (W:World):Prop:=∃ u xs T,G w W∧Var W B z30∧Var W (B+1) (nc ⟨#[]⟩ v m u)∧W.ownsRow (B+2) 30 41 u k xs∧ja W T fs xs∧
 ∀ b,T b→B+2≤b∧(∃ o:Obj,W.heap[b]?=some o∧zI o=true)∧some b≠u.ownBlock
theorem NI.own {w:World} {B B5 S:Nat} {w0:World} {v:Vd} {m:Md} (hB:w.heap.size=B) (h5:B≤B5):OwnFrom B5 (fun (pre:List (iS w0 S)) W=>NI w B v m (kU (kids pre)) pre.length W):=by
 intro s W W' row ⟨u,xs,T,h1,h2,h3,h4,h6,h7⟩ hg hr
 have hc:∀ (b:Nat) (o:Obj),W.heap[b]?=some o→zI o=true→W'.heap[b]?=W.heap[b]?:=fun b o hb ho=>hg.block b (gS hb) fun e=>by
  obtain ⟨_,o',ho',hc'⟩:=hr b e.symm
  rw [hb] at ho'
  cases ho'
  rw [ax ho] at hc'
  cases hc'
 refine ⟨u,xs,T,?_,(hc _ _ h2 rfl).trans h2,(hc _ _ h3 rfl).trans h3,?_,h6.keep fun b hb=>?_,fun b hb=>?_⟩
 ·exact Below.trans (B:=w.heap.size) h1 ⟨hg.os,hg.tape,hg.output,hg.size,fun b hb=>hg.block b (by have:=h1.size;omega) fun e=>by have:=(hr b e.symm).1;omega⟩
 ·obtain ⟨hl,h | ⟨g,cap,cur,hv,hb,hh,hr'⟩⟩:=h4
  ·exact ⟨hl,.inl h⟩
  ·exact ⟨hl,.inr ⟨g,cap,cur,hv,hb,(hc _ _ hh rfl).trans hh,hr'⟩⟩
 ·obtain ⟨_,⟨o,ho,hoc⟩,_⟩:=h7 b hb
  exact ⟨hc b o ho hoc,hb⟩
 ·obtain ⟨h8,⟨o,ho,hoc⟩,h9⟩:=h7 b hb
  exact ⟨h8,⟨o,(hc b o ho hoc).trans ho,hoc⟩,h9⟩
structure Left (Wa Wz:World) (B g k:Nat) (v:Vd) (m:Md) (u':Value) (ys:List Value):Prop where
 os:Wz.os=Wa.os
 tape:Wz.tape=Wa.tape
 output:Wz.output=Wa.output
 size:Wz.heap.size=Wa.heap.size
 block:∀ b,b≠B+1→b≠g→Wz.heap[b]?=Wa.heap[b]?
 var:Var Wz (B+1) (nc ⟨#[]⟩ v m u')
 row:Wz.ownsRow (B+2) 30 41 u' (k+1) ys
theorem NI.step {w W W3 Wa Wz:World} {B g k cap:Nat} {v:Vd} {m:Md} {fs:F} {u:Value} {xs:List Value} {T:Nat→Prop} {x:Kid} {kv:Value}
  (hB:w.heap.size=B) (h1:G w W) (h2:Var W B z30) (h3:Var W (B+1) (nc ⟨#[]⟩ v m u)) (h4:W.ownsRow (B+2) 30 41 u k xs) (h6:ja W T fs xs) (h7:∀ b,T b→B+2≤b∧(∃ o:Obj,W.heap[b]?=some o∧zI o=true)∧some b≠u.ownBlock)
  (hg3:G W W3) (hk:xA W3 (NewC W W3) kv x.k.flat) (hga:W3.grownBy Wa u.ownBlock) (hat:u.ownBlock=some g∨W3.heap.size≤g)
  (hL:Left Wa Wz B g k v m (.slice (some ⟨g,0,none⟩) (k+1) cap) (xs++(nc x.nm x.v x.m kv).toList)):
  KeepsOthers W Wz∧Below B W Wz∧NI w B v m (fs.app (.cons x.nm x.v x.m x.k.flat .nil)) (k+1) Wz:=by
 have hs1:=h1.size
 have hs3:=hg3.size
 have hsa:=hga.size
 have hlt:=World.ownsRow.lt h4
 have hB1:=h3.lt
 have hgB:B+2≤g:=by
  rcases hat with e | e
  ·exact (hlt g e).1
  ·have:=hB1;omega
 have hsame:∀ b,b<W3.heap.size→b≠B+1→some b≠u.ownBlock→Wz.heap[b]?=W3.heap[b]?:=fun b hb hn hu=>by
  rw [hL.block b hn (fun e=>by
   rcases hat with q | q
   ·exact hu (by rw [e,q])
   ·omega)]
  exact hga.block b hb hu
 have hold:∀ b,b<W.heap.size→b≠B+1→some b≠u.ownBlock→Wz.heap[b]?=W.heap[b]?:=fun b hb hn hu=>(hsame b (by omega) hn hu).trans (Below.block hg3 b hb)
 have hbel:Below B W Wz:=⟨by rw [hL.os,hga.os];exact hg3.os,by rw [hL.tape,hga.tape];exact hg3.tape,by rw [hL.output,hga.output];exact hg3.output,by rw [hL.size];omega,fun b hb=>hold b (by omega) (by omega) fun e=>by have:=(hlt b e.symm).1;omega⟩
 have hnu:∀ b,b<B+2→some b≠u.ownBlock:=fun b hb e=>by have:=(hlt b e.symm).1;omega
 refine ⟨⟨hbel.size,fun b o hb ho=>?_⟩,hbel,_,_,fun b=>T b∨NewC W W3 b,Below.trans (B:=w.heap.size) h1 (by rw [hB];exact hbel),(hold B h2.lt (by omega) (hnu B (by omega))).trans h2,hL.var,hL.row,?_,?_⟩
 ·rw [hold b (gS hb) (fun e=>?_) (fun e=>?_)]
  ·exact hb
  ·subst e
   have h3':W.heap[B+1]?=some (.cells (nc ⟨#[]⟩ v m u) 30 (0,0)):=h3
   rw [h3'] at hb
   cases hb
   cases ho
  ·obtain ⟨_,q | ⟨g',cap',cur,hv,_,hh,_⟩⟩:=h4
   ·rw [q.1] at e;cases e
   ·rw [hv] at e
    obtain rfl:b=g':=by simpa [Value.ownBlock] using e
    rw [hh] at hb
    cases hb
    cases ho
 ·refine ja.snoc (hk.keep fun b hb=>⟨?_,.inr hb⟩) (h6.keep fun b hb=>⟨?_,.inl hb⟩)
  ·obtain ⟨h8,o,ho,hoc⟩:=hb
   exact hsame b (gS ho) (by omega) fun e=>by have:=(hlt b e.symm).2;omega
  ·obtain ⟨h8,⟨o,ho,hoc⟩,h9⟩:=h7 b hb
   exact hold b (gS ho) (by omega) h9
 ·rintro b (hb | hb)
  ·obtain ⟨h8,⟨o,ho,hoc⟩,h9⟩:=h7 b hb
   have hbl:=(gS ho)
   refine ⟨h8,⟨o,(hold b hbl (by omega) h9).trans ho,hoc⟩,fun e=>?_⟩
   obtain rfl:b=g:=by simpa [Value.ownBlock] using e
   rcases hat with q | q
   ·exact h9 q.symm
   ·omega
  ·obtain ⟨h8,o,ho,hoc⟩:=hb
   have hbl:=(gS ho)
   have hu:some b≠u.ownBlock:=fun e=>by have:=(hlt b e.symm).2;omega
   refine ⟨by omega,⟨o,(hsame b hbl (by omega) hu).trans ho,hoc⟩,fun e=>?_⟩
   obtain rfl:b=g:=by simpa [Value.ownBlock] using e
   rcases hat with q | q
   ·exact hu q.symm
   ·omega
theorem jV (g:Nat):∀ (vs:List Value) (o:Nat) (w:World) (b:Nat),b≠g→(w.setCells g o vs).heap[b]?=w.heap[b]?
 | [],_,_,_,_=>rfl
 | _::r,o,_,b,h=>(jV g r (o+1) _ b h).trans (Below.heap_setCell _ _ _ _ h)
theorem qZ (g:Nat):∀ (vs:List Value) (o:Nat) (w:World),(w.setCells g o vs).heap.size=w.heap.size
 | [],_,_=>rfl
 | _::r,o,w=>(qZ g r (o+1) _).trans (by simp)
theorem bV (xs zs cs:List Value) (o:Nat) (h1:xs.length=o) (h2:zs.length=cs.length):over (xs++zs) o cs=xs++cs:=by
 unfold over
 rw [List.take_append_of_le_length (by omega),List.take_of_length_le (by omega),List.drop_of_length_le (by simp;omega),List.append_nil]
theorem ke {w w':World} {base e size g n cap:Nat} {xs:List Value} (h:w.ownsRow base e size (.slice (some ⟨g,0,none⟩) n cap) n xs) (hb:w'.heap[g]?=w.heap[g]?):w'.ownsRow base e size (.slice (some ⟨g,0,none⟩) n cap) n xs:=by
 obtain ⟨hl,q | ⟨g',cap',cur,hv,h1,hh,hr⟩⟩:=h
 ·cases q.1
 ·injection hv with e1 e2 e3
  injection e1 with e1
  injection e1 with e1
  subst e1 e3
  exact ⟨hl,.inr ⟨g,cap,cur,rfl,h1,hb.trans hh,hr⟩⟩
theorem a0F {Wa:World} {B g k cap:Nat} {v:Vd} {m:Md} {u:Value} {xs:List Value} {cn:Array Value} (ho:Wa.ownsRow (B+2) 30 41 (.slice (some ⟨g,0,none⟩) (k+1) cap) (k+1) (xs++z30.toList)) (hx:xs.length=k*41) (hv:Var Wa (B+1) (nc ⟨#[]⟩ v m u)) (hg:B+2≤g) (hc:cn.size=41):
  Left Wa ((Wa.setCells g (k*41) cn.toList).setCell ⟨B+1,40,none⟩ (.slice (some ⟨g,0,none⟩) (k+1) cap)) B g k v m (.slice (some ⟨g,0,none⟩) (k+1) cap) (xs++cn.toList):=by
 obtain ⟨r1,r2⟩:=kP cn.toList (k*41) Wa _ ho (by simp [jN,hx,hc])
 rw [bV _ _ _ _ hx (by simp [jN,hc])] at r1
 refine ⟨r2.os,r2.tape,r2.output,?_,fun b h1 h2=>?_,?_,ke r1 (Below.heap_setCell _ _ _ _ (by show g≠B+1;omega))⟩
 ·rw [World.size_setCell,qZ]
 ·exact (Below.heap_setCell _ _ _ _ h1).trans (jV g _ _ _ _ h2)
 ·have h:=Var.setCell (w:=Wa.setCells g (k*41) cn.toList) ((jV g _ _ _ _ (by omega)).trans hv) 40 (.slice (some ⟨g,0,none⟩) (k+1) cap)
  rw [cg] at h
  exact h
theorem a0G {Wa:World} {B g k cap:Nat} {v:Vd} {m:Md} {u:Value} {xs:List Value} {cn:Array Value} (ho:Wa.ownsRow (B+2) 30 41 (.slice (some ⟨g,0,none⟩) (k+1) cap) (k+1) (xs++z30.toList)) (hx:xs.length=k*41) (hv:Var Wa (B+1) (nc ⟨#[]⟩ v m u)) (hg:B+2≤g) (hc:cn.size=41):
  Left Wa ((Wa.setCell ⟨B+1,40,none⟩ (.slice (some ⟨g,0,none⟩) (k+1) cap)).setCells g (k*41) cn.toList) B g k v m (.slice (some ⟨g,0,none⟩) (k+1) cap) (xs++cn.toList):=by
 have ho2:(Wa.setCell ⟨B+1,40,none⟩ (.slice (some ⟨g,0,none⟩) (k+1) cap)).ownsRow (B+2) 30 41 (.slice (some ⟨g,0,none⟩) (k+1) cap) (k+1) (xs++z30.toList):=ke ho (Below.heap_setCell _ _ _ _ (by show g≠B+1;omega))
 obtain ⟨r1,r2⟩:=kP cn.toList (k*41) _ _ ho2 (by simp [jN,hx,hc])
 rw [bV _ _ _ _ hx (by simp [jN,hc])] at r1
 refine ⟨r2.os,r2.tape,r2.output,?_,fun b h1 h2=>?_,?_,r1⟩
 ·rw [qZ,World.size_setCell]
 ·exact (jV g _ _ _ _ h2).trans (Below.heap_setCell _ _ _ _ h1)
 ·have h:=hv.setCell 40 (.slice (some ⟨g,0,none⟩) (k+1) cap)
  rw [cg] at h
  exact (jV g _ _ _ _ (by omega)).trans h
theorem NI.start {w Wz W4:World} {B p N:Nat} {v:Vd} {m:Md} (hB:w.heap.size=B) (hG:G w Wz) (hV0:Var Wz B z30) (hV1:Var Wz (B+1) (nc ⟨#[]⟩ v m (.slice none 0 0))) (how:W4.ownsRow (B+2) 30 41 (.slice (some ⟨B+2,0,none⟩) 0 N) 0 []) (hgr:Wz.grownBy W4 none):
  NI w B v m .nil 0 ((W4.setCell ⟨B+1,40,none⟩ (.slice (some ⟨B+2,0,none⟩) 0 N)).alloc (.cells #[.pointer (some ⟨p,0,none⟩)] 32)):=by
 have hs:=hG.size
 have hsg:=hgr.size
 have hl1:=hV1.lt
 have hlt:=(World.ownsRow.lt how (B+2) rfl).2
 have e1:Var W4 (B+1) (nc ⟨#[]⟩ v m (.slice none 0 0)):=(hgr.block _ hl1 (by simp)).trans hV1
 have e0:Var W4 B z30:=(hgr.block _ (by omega) (by simp)).trans hV0
 have hG4:G w W4:=Below.trans (B:=w.heap.size) hG ⟨hgr.os,hgr.tape,hgr.output,hgr.size,fun b hb=>hgr.block b (by omega) (by simp)⟩
 refine ⟨_,[],fun _=>False,?_,?_,?_,World.ownsRow.alloc (ke how (Below.heap_setCell _ _ _ _ (by show B+2≠B+1;omega))) _,rfl,fun b hb=>hb.elim⟩
 ·refine Below.trans (B:=w.heap.size) hG4 (Below.trans (b:=W4.setCell ⟨B+1,40,none⟩ (.slice (some ⟨B+2,0,none⟩) 0 N)) ⟨rfl,rfl,rfl,by simp,fun b hb=>Below.heap_setCell _ _ _ _ (by show b≠B+1;omega)⟩ ((Below.refl _ _).alloc (by simp;omega) _))
 ·exact (Below.heap_alloc _ _ _ (by simp;omega)).trans ((Below.heap_setCell _ _ _ _ (by show B≠B+1;omega)).trans e0)
 ·have h:=e1.setCell 40 (.slice (some ⟨B+2,0,none⟩) 0 N)
  rw [cg] at h
  exact (Below.heap_alloc _ _ _ (by simp;omega)).trans h
theorem kO {w:World} {base e size n:Nat} {u:Value} {xs:List Value} (h:w.ownsRow base e size u n xs):∃ ao uc,u=.slice ao n uc:=by
 obtain ⟨_,q | ⟨g,cap,cur,hv,_⟩⟩:=h
 ·obtain ⟨rfl,rfl⟩:=q;exact ⟨_,_,rfl⟩
 ·exact ⟨_,_,hv⟩
theorem iu {W W2 V:World} {D:Nat} {c2:Array Value} {v:Vd} {m:Md} {f:F} (hD:W2.heap.size=D) (hn:zL W2 (NewC W W2) c2 ⟨#[]⟩ v m f) (hg:G W W2) (hv:G W2 V∧Var V D c2∧V.heap.size=D+1) (nm:ByteArray):
  ∃ kv,G W (V.setCell ⟨D,0,none⟩ (.string nm)).drew∧Var (V.setCell ⟨D,0,none⟩ (.string nm)).drew D (nc nm v m kv)∧xA (V.setCell ⟨D,0,none⟩ (.string nm)).drew (NewC W (V.setCell ⟨D,0,none⟩ (.string nm)).drew) kv f∧(V.setCell ⟨D,0,none⟩ (.string nm)).drew.heap.size=D+1:=by
 obtain ⟨kv,rfl,hk⟩:=hn
 have hb:∀ b,b<D→(V.setCell ⟨D,0,none⟩ (.string nm)).drew.heap[b]?=W2.heap[b]?:=fun b hb=>(Below.heap_setCell _ _ _ _ (by show b≠D;omega)).trans (Below.block hv.1 b (by omega))
 have hs:=hg.size
 refine ⟨kv,?_,?_,hk.keep fun b hb'=>?_,?_⟩
 ·exact Below.trans (B:=W.heap.size) hg ⟨hv.1.os,hv.1.tape,hv.1.output,by have:=hv.1.size;show _≤(V.setCell ⟨D,0,none⟩ (.string nm)).heap.size;rw [World.size_setCell];exact this,fun b h=>hb b (by omega)⟩
 ·have h:=hv.2.1.setCell 0 (.string nm)
  rw [rT] at h
  exact h
 ·obtain ⟨h8,o,ho,hoc⟩:=hb'
  have hlt:=(gS ho)
  exact ⟨hb b (by omega),h8,o,(hb b (by omega)).trans ho,hoc⟩
 ·show (V.setCell ⟨D,0,none⟩ (.string nm)).heap.size=D+1
  rw [World.size_setCell]
  exact hv.2.2
theorem jy {o:Oper} {a:Act} (x:Operand) (ho:o.op=.buildSlice 28 1 #[(0,x)]) (c:Array Value) (hx:a.eval x=.agg c) (hs:c.size=41) (w:World) (b:Nat) (hb:w.heap.size=b):
  (execOp a.eval o).run Tryz.prog w=.ok (.value (.slice (some ⟨b,0,none⟩) 1 1)) (w.alloc (.cells c 30)):=by
 subst hb;exact lF x ho c hx hs w
end Go.Proofs.YtjikkhbcbfpocaaGreatDoor
namespace Go.Proofs.YtjikkhbcbfpocaaGreatDoor
open Go.RowKit
def F.mp (fv:Vd→Vd) (fm:Md→Md):F→F
 | .nil=>.nil
 | .cons nm v m ks r=>.cons nm (fv v) (fm m) (F.mp fv fm ks) (F.mp fv fm r)
theorem F.mp_len (fv:Vd→Vd) (fm:Md→Md):∀ f:F,(f.mp fv fm).len=f.len
 | .nil=>rfl
 | .cons _ _ _ _ r=>by simp only [F.mp,F.len,F.mp_len fv fm r]
theorem F.mp_weight (fv:Vd→Vd) (fm:Md→Md):∀ f:F,(f.mp fv fm).weight=f.weight
 | .nil=>rfl
 | .cons _ _ _ k r=>by simp only [F.mp,F.weight,F.mp_weight fv fm k,F.mp_weight fv fm r]
end Go.Proofs.YtjikkhbcbfpocaaGreatDoor
