import Derived.Test.YtjikkhbcbfpocaaGreatDoorM2
set_option maxRecDepth 100000
set_option maxHeartbeats 2000000
namespace Go.Proofs.YtjikkhbcbfpocaaGreatDoor
open Go.RowKit Go.Shelf
theorem eV (n:Nat) (w0:World) (S:Kid→Prop) (l Bt p:Nat) (v:Vd) (m:Md) (k:K) (J Jx:List (qs w0 S)→World→Prop) (hJD:∀ pre W,J pre W→J pre W.drew)
  (hY:∀ pre (x:qs w0 S) W,J pre W→pre.length<k.items.length→YieldAt Fence.wide (n-1) Tryz.prog l #[.string x.1.nm,.pointer (some ⟨x.1.p,0,none⟩)] W fun e W'=>
   (e=.returned (.bool true)∧J (pre++[x]) W'∧Below w0.heap.size W W')∨(e=.returned (.bool false)∧Jx (pre++[x]) W'))
  (W:World) (hBt:W.cell? ⟨Bt,0,none⟩=some (.pointer (some ⟨p,0,none⟩))) (hT:AtT w0 p v m k) (hS:(∀ x∈k.items,S x)) (hG:G w0 W) (h0:J [] W):
  CallsIn Fence.wide n Tryz.prog 71 #[.func (.yield l) #[] #[],.pointer (some ⟨Bt,0,none⟩)] W fun e W'=>(∃ v,e=.returned v)∧
   ((∃ ys:List (qs w0 S),jk ys=k.items∧J ys W')∨(∃ pre:List (qs w0 S),jk pre <+: k.items∧Jx pre W')):=by
 exact yw n w0 S l Bt p v m k J Jx hJD (fun pre x W hj hl _=>hY pre x W hj hl) W hBt hT hS hG h0
theorem yK (n:Nat) (w0:World) (S:Kid→Prop) (Bt p:Nat) (v:Vd) (m:Md) (k:K) (w:World) (hBt:Bt<w.heap.size) (hc:w.cell? ⟨Bt,0,none⟩=some (.pointer (some ⟨p,0,none⟩))) (hT:AtT w0 p v m k) (hS:(∀ x∈k.items,S x)) (hG:G w0 w):
  SeqStopsK Fence.wide n Tryz.prog 71 #[.pointer (some ⟨Bt,0,none⟩)] (fun x:qs w0 S=>#[Value.string x.1.nm,.pointer (some ⟨x.1.p,0,none⟩)]) (Below w0.heap.size) (fun ys=>jk ys=k.items) (fun pre=>jk pre <+: k.items) k.items.length w:=fun l J Jx W hW hJ _ hY h0=>
 eV n w0 S l Bt p v m k J Jx (fun pre A h=>hJ _ _ _ none h ⟨rfl,rfl,rfl,Nat.le_refl _,fun _ _ _=>rfl⟩ (fun r e=>by cases e)) hY W ((hW.cell (p:=⟨Bt,0,none⟩) hBt).trans hc) hT hS (hG.trans hW) h0
attribute [local go_sem] Oper.semAt_some
def kcl (x:Kid) (h:List Nat):List Value:=.string x.nm::.pointer (some ⟨x.p,0,none⟩)::h.map Su.vb
def krow (l:List Kid):List Value:=(l.map fun x=>kcl x jl).flatten
theorem tQ (l:List Kid) (x:Kid):krow (l++[x])=krow l++kcl x jl:=by simp [krow]
theorem zY (x:Kid) {h:List Nat} (hh:h.length=32):(kcl x h).length=34:=by simp [kcl,hh]
theorem info267:(Tryz.prog.info? 267).map (fun i=>(i.zero,i.size,i.bytes))=some (some (.agg (.string ⟨#[]⟩::.pointer none::jl.map Su.vb).toArray),34,56):=by kernel_rfl
theorem vi (x:Kid) (h:List Nat):∀ u∈kcl x h,u.oneCell'=true:=fun u hu=>by
 simp only [kcl,List.mem_cons,List.mem_map] at hu
 rcases hu with rfl | rfl | ⟨_,_,rfl⟩<;>rfl
theorem vj (w:World) (x:Kid) (c:Array Value) (hc:c=(kcl x jl).toArray):∀ j u,(kcl x jl)[j]?=some u→(w.alloc (.cells c 267)).cell? ((⟨w.heap.size,0,none⟩:Addr).add j)=some u:=fun j u hj=>by
 rw [Su.kj,Nat.zero_add]
 exact jB (jW w c 267) j u (by rw [hc];simpa using hj)
theorem nT (p:Nat) (v:Vd) (m:Md) (k:K) (w:World) (hT:AtT w p v m k) (hsz:k.flat.size≤100000):
  Calls Tryz.prog 155 #[.pointer (some ⟨p,0,none⟩)] w fun e w'=>∃ u,e=.returned u∧w'.ownsRow w.heap.size 267 34 u k.items.length (krow k.items)∧G w w':=by
 obtain ⟨B,hB⟩:∃ B,w.heap.size=B:=⟨_,rfl⟩
 have HH:=hid (⟨hT,hsz,hB⟩:_∧_∧_)
 clear hT hsz
 refine (callsIn_wide (n:=3)).1 ?_
 refine callsIn_of_wp_marks Tryz.func155 rfl trivial (Go.wpIn_mono (Q:=RetM Tryz.f155 _) ?_ RetM.post) rfl
 simp only [Tryz.ntmps155,List.size_toArray,lC,lN,Nat.reduceAdd,Nat.reduceSub,Array.replicate_succ,Array.replicate_zero,List.push_toArray,List.append_toArray,List.nil_append,List.cons_append]
 gi_wp2_with (refine ⟨trivial,?_⟩;gi_at_call 39;refine (callsIn_wide.2 (qw p _)).mono ?_;rintro e w' ⟨rfl,rfl⟩)
 obtain ⟨W5,hW5⟩:∃ W5,W5=(w.alloc (.cells #[.slice none 0 0] 233)).alloc (.cells #[.pointer (some ⟨p,0,none⟩)] 32):=⟨_,rfl⟩
 have H5:Hid (G w W5∧Boxed W5 B 233 (.slice none 0 0)∧W5.cell? ⟨B+1,0,none⟩=some (.pointer (some ⟨p,0,none⟩))∧W5.heap.size=B+2):=by
  rw [hW5,← hB]
  refine ⟨(G.alloc _ _).trans (G.alloc _ _),(Boxed.new w 233 _).alloc _,?_,by simp⟩
  have:=jB (jW (w.alloc (.cells #[.slice none 0 0] 233)) #[.pointer (some ⟨p,0,none⟩)] 32) 0 _ rfl
  rwa [World.size_alloc] at this
 rw [← hW5]
 clear hW5
 have hs5:=H5.o.2.2.2
 have hle5:w.heap.size≤W5.heap.size:=by omega
 refine wpIn_rangeFunc_ownF rfl (by omega) (gf:=71) (lb:=#[.pointer (some ⟨B+1,0,none⟩)]) rfl trivial (enters_of Tryz.func71 (by kernel_rfl) rfl)
  (yK 2 w (fun x=>x∈k.items) (B+1) p v m k W5 (by omega) H5.o.2.2.1 HH.o.1 (fun x hx=>hx) H5.o.1)
  (fun h k=>h.trans k) (belowK_b hle5) (Below.refl _ _) (fun _=>rfl)
  (fun pre W=>(∃ u,Boxed W B 233 u∧W.ownsRow B 267 34 u (jk pre).length (krow (jk pre))∧True)∧G w W) (fun _ _ _=>False)
  ((Own.from (holdsRow_own B B 233 267 34 (fun pre=>(jk pre).length) (fun pre=>krow (jk pre)) (fun _ _=>True)) _).and (fun s W W' row hs hg hr=>Below.trans (B:=w.heap.size) hs ⟨hg.os,hg.tape,hg.output,hg.size,fun b hb=>hg.block b (by have:=hs.size;omega) fun e=>by have:=(hr b e.symm).1;omega⟩)) (fun _ _ _ _ _ hs _ _=>hs) ⟨⟨_,H5.o.2.1,World.ownsRow_nil _ _ _ _,trivial⟩,H5.o.1⟩
  ?a1 ?assign ?body ?done ?stop
 case assign=>
  intro l x W K hK
  gi_wp2
  exact hK
 case stop=>
  rintro D c pre W _ _ h _
  exact h.elim
 case body=>
  rintro l pre x W ⟨⟨u,hbx,how,_⟩,hg⟩ hlen
  obtain ⟨⟨xnm,xp,xv,xm,xk⟩,hxT,hxS⟩:=x
  have e:jk (pre++[⟨⟨xnm,xp,xv,xm,xk⟩,hxT,hxS⟩])=jk pre++[⟨xnm,xp,xv,xm,xk⟩]:=by simp
  have hll:(jk pre).length≤100000:=by
   rw [K.items_len] at hlen
   have:=HH.o.2.1
   have:=k.flat.len_le_size
   simp only [List.length_map]
   omega
  obtain ⟨L,hL⟩:∃ L,jk pre=L:=⟨_,rfl⟩
  rw [hL] at how hll e
  have hc:=hbx.cell
  obtain ⟨i0,hi,hz0,hz1,hz2⟩:=info_parts info267
  have hws:B≤W.heap.size:=by have:=hbx.lt;omega
  have HB:=hid (⟨hbx,how,hg,e⟩:_∧_∧_∧_)
  have HN:=hid hll
  clear hg hll hlen hbx
  gi_wp2_with (gi_at_builtin;refine wpListIn_append_own_at _ rfl _ _ 233 rfl B 267 i0 _ 34 56 Tryz.underlying233 hi hz0 hz1 hz2 (by kernel_rfl) (by decide) _ _ _ rfl (World.ownsRow.alloc how _) ⟨W.heap.size,0,none⟩ 1 1 (kcl ⟨xnm,xp,xv,xm,xk⟩ jl) rfl rfl (vj W _ _ rfl) (vi _ _) (by have:=HN.o;unfold maxLen;omega) (by have:=HN.o;omega) (by simp;omega) ?_;intro v' w1 hown' hgrow _ _;obtain ⟨g',cap',rfl⟩:=ownsRow_succ hown';obtain ⟨b1,b2,b3,b4,b5⟩:=Boxed.appended HB.o.1 (by decide) HB.o.2.1 hws (Nat.le_refl _) hown' hgrow;have c1:=b1.cell;have f1:=b1.frozen)
  have hbe:Below w.heap.size W (w1.setCell ⟨B,0,none⟩ (.slice (some ⟨g',0,none⟩) (L.length+1) cap')):=by rw [hB];exact b5
  refine ⟨b4,b5,⟨_,b2,?_⟩,Below.trans (B:=w.heap.size) HB.o.2.2.1 hbe⟩
  have e1:List.unattach (pre++[(⟨⟨xnm,xp,xv,xm,xk⟩,hxT,hxS⟩:qs w (fun x=>x∈k.items))])=L++[⟨xnm,xp,xv,xm,xk⟩]:=by rw [← hL];simp
  have e2:(pre++[(⟨⟨xnm,xp,xv,xm,xk⟩,hxT,hxS⟩:qs w (fun x=>x∈k.items))]).length=L.length+1:=by rw [← hL];simp
  rw [e1,e2,tQ]
  exact b3
 case done=>
  rintro D ys W hD hys ⟨⟨u,hbx,how,_⟩,hg⟩ hK
  have hys1:jk ys=k.items:=hys
  rw [hys1] at how
  have hc:=hbx.cell
  have HF:=hid (⟨how,hg,hK⟩:_∧_∧_)
  clear how hg hK hys
  gi_wp2_with fail
  obtain ⟨how,hg,hK⟩:=HF.o
  refine ⟨by simp,.inl ⟨_,_,rfl,run_takeDeferred hK,?_⟩⟩
  refine ⟨_,results_tmp rfl _ _ _,u,rfl,by rw [hB];exact ownsRow_putObj how _ hK rfl,Below.trans (B:=w.heap.size) hg ⟨rfl,rfl,rfl,by simp,fun b hb=>World.putObj_heap_other (by omega)⟩⟩
theorem aB (t:TypeId) (z:Array Value) (hz:(Tryz.prog.info? t).bind (·.zero)=some (.agg z)) (w:World):(zeroValue t).run Tryz.prog w=.ok (.agg z) w:=by
 cases hq:Tryz.prog.info? t with
 | none=>rw [hq] at hz;cases hz
 | some i=>
  rw [hq] at hz
  simp only [Option.bind_some] at hz
  simp [zeroValue,typeInfo,hq,hz]
theorem jG {o:Oper} {a:Act} (t:TypeId) (z:Array Value) (ho:o.op=.alloc t) (hz:(Tryz.prog.info? t).bind (·.zero)=some (.agg z)) (w:World) (b:Nat) (hb:w.heap.size=b):(execOp a.eval o).run Tryz.prog w=.ok (.value (.pointer (some ⟨b,0,none⟩))) (w.alloc (.cells z t)):=by
 subst hb
 unfold execOp
 simp only [ho,Instr.alloc,Sem.run_bind,aB t z hz,Result.andThen_ok]
 simp [newVar,newRow,newObj,Value.cells]
 rfl
theorem jL {o:Oper} {a:Act} (t:TypeId) (x y:Operand) (ho:o.op=.store t x y) (g:Nat) (c old:Array Value) (hx:a.eval x=.pointer (some ⟨g,0,none⟩)) (hy:a.eval y=.agg c) (w:World) (hg:w.heap[g]?=some (.cells old t (0,0)))
  (hz:(Tryz.prog.info? t).map (·.size)=some c.size) (hs':old.size=c.size) (h1:c.all (·.oneCell')=true):(execOp a.eval o).run Tryz.prog w=.ok .skip (w.setRow g c):=by
 unfold execOp
 simp only [ho,hx,hy,Instr.storeAt,Instr.sureAddr,Sem.run_bind,Sem.run_pure,Result.andThen_ok,run_storeVar_row (P:=Tryz.prog) w g t t old c hg hz hs' h1]
def z24:Array Value:=(.int .i64 0::.int .i64 0::.int .i64 0::jl.map Su.vb).toArray
def z22:Array Value:=(jl.map Su.vb).toArray
theorem dv:(Tryz.prog.info? 24).bind (·.zero)=some (.agg z24):=by kernel_rfl
theorem qm:(Tryz.prog.info? 22).bind (·.zero)=some (.agg z22):=by kernel_rfl
theorem il:(Tryz.prog.info? 24).map (·.size)=some 35:=by kernel_rfl
theorem jx:(Tryz.prog.info? 22).map (·.size)=some 32:=by kernel_rfl
theorem zr:z24.size=35:=rfl
theorem ju:z22.size=32:=rfl
theorem qX (w:World) (t:TypeId) (z c:Array Value):G w ((w.alloc (.cells z t)).setRow w.heap.size c)∧((w.alloc (.cells z t)).setRow w.heap.size c).heap[w.heap.size]?=some (.cells c t (0,0))∧((w.alloc (.cells z t)).setRow w.heap.size c).heap.size=w.heap.size+1:=by
 refine ⟨⟨rfl,rfl,rfl,by simp,fun b hb=>?_⟩,setRow_heap _ _ z c t _ (World.alloc_heap_new w _),by simp⟩
 rw [setRow_other _ _ _ _ (by omega),Below.heap_alloc _ _ _ hb]
theorem xC (v:Vd):(vx v).toArray.all (·.oneCell')=true:=by
 simp only [vx,List.all_toArray,List.all_cons,List.all_map]
 simp [Value.oneCell']
theorem kV (l:List Nat):(l.map Su.vb).toArray.all (·.oneCell')=true:=Su.bD l
theorem ym (p:Nat) (v:Vd) (m:Md) (k:K) (w:World) (hT:AtT w p v m k):Calls Tryz.prog 19 #[.pointer (some ⟨p,0,none⟩)] w fun e w'=>e=.returned (.agg (vx v).toArray)∧G w w':=by
 obtain ⟨pk,hl,_⟩:=hT
 have hl1:=hl.part 0 35
 rw [gw] at hl1
 have HX:Hid ((vx v).toArray.size=35∧(vx v).toArray.all (·.oneCell')=true):=⟨by simp [je],xC v⟩
 have HG:=hid (qX w 24 z24 (vx v).toArray)
 have HL:Hid (Lies (w.alloc (.cells z24 24)) p 0 (vx v).toArray):=(G.alloc _ _).lies hl1
 generalize (vx v).toArray=X at *
 clear hl hl1
 go_enter Tryz.func19,Tryz.ntmps19
 obtain ⟨B,hB⟩:∃ B,w.heap.size=B:=⟨_,rfl⟩
 rw [hB] at HG
 go_wp2_with (first
  | ((with_reducible refine jF (.pointer (some ⟨B,0,none⟩)) (w.alloc (.cells z24 24)) ?_ ?_);exact jG 24 z24 rfl dv _ _ hB)
  | ((with_reducible refine jA (.agg X) ?_ ?_);exact jJ _ rfl p 0 rfl X HX.o.1 HL.o)
  | ((with_reducible refine jC ((w.alloc (.cells z24 24)).setRow B X) ?_ ?_);exact jL 24 _ _ rfl B X z24 rfl rfl _ (by rw [← hB];exact World.alloc_heap_new w _) (by rw [il,HX.o.1]) (by rw [zr,HX.o.1]) HX.o.2))
 refine bodyPost_ret (results_cell_row (P:=Tryz.prog) (p:=2) (ty:=24) rfl _ _ B 24 X (0,0) _ rfl HG.o.2.1 iT rfl (by rw [il,HX.o.1])) rfl ⟨rfl,HG.o.1⟩
end Go.Proofs.YtjikkhbcbfpocaaGreatDoor
namespace Go.Proofs.YtjikkhbcbfpocaaGreatDoor
open Go.RowKit Go.Shelf
structure KeepM (M:Nat→Prop) (W W':World):Prop where
 os:W'.os=W.os
 tape:W'.tape=W.tape
 output:W'.output=W.output
 size:W.heap.size≤W'.heap.size
 same:∀ b,M b→W'.heap[b]?=W.heap[b]?
structure Fr (M:Nat→Prop) (W W':World):Prop where
 os:W'.os=W.os
 tape:W'.tape=W.tape
 output:W'.output=W.output
 size:W.heap.size≤W'.heap.size
 same:∀ b,b<W.heap.size→¬ M b→W'.heap[b]?=W.heap[b]?
theorem Fr.of_G {M:Nat→Prop} {W W':World} (h:G W W'):Fr M W W':=⟨h.os,h.tape,h.output,h.size,fun b hb _=>h.block b hb⟩
theorem KeepM.of_G {M:Nat→Prop} {W W':World} (h:G W W') (hM:∀ b,M b→b<W.heap.size):KeepM M W W':=⟨h.os,h.tape,h.output,h.size,fun b hb=>h.block b (hM b hb)⟩
theorem Fr.trans {M M1:Nat→Prop} {A B C:World} (h:Fr M A B) (hM:∀ b,M1 b→M b∨A.heap.size≤b) (k:Fr M1 B C):Fr M A C:=
 ⟨k.os.trans h.os,k.tape.trans h.tape,k.output.trans h.output,Nat.le_trans h.size k.size,fun b hb hn=>(k.same b (Nat.lt_of_lt_of_le hb h.size) fun e=>by rcases hM b e with e | e;exact hn e;omega).trans (h.same b hb hn)⟩
theorem Fr.row (M:Nat→Prop) (W:World) (B:Nat) (c:Array Value) (A:World) (h:Fr M A W) (hB:A.heap.size≤B):Fr M A (W.setRow B c):=
 ⟨h.os,h.tape,h.output,by simpa using h.size,fun b hb hn=>(setRow_other _ B b _ (by omega)).trans (h.same b hb hn)⟩
theorem KeepM.row {M:Nat→Prop} (W:World) (B:Nat) (c:Array Value) (h:¬ M B):KeepM M W (W.setRow B c):=
 ⟨rfl,rfl,rfl,by simp,fun b hb=>setRow_other _ B b _ fun e=>h (e ▸ hb)⟩
theorem Fr.below {M:Nat→Prop} {lo:Nat} {W W':World} (h:Fr M W W') (hM:∀ b,M b→lo≤b) (hl:lo≤W.heap.size):Below lo W W':=⟨h.os,h.tape,h.output,h.size,fun b hb=>h.same b (by omega) fun e=>by have:=hM b e;omega⟩
def qT (W:World) (Wb:Nat) (p1 p2 p3:Value):Prop:=W.heap[Wb]?=some (.cells #[.func (.func 119) #[] #[p1,p2,p3],.bool false,.map none] 190 (0,0))
theorem qT.lt {W:World} {Wb:Nat} {p1 p2 p3:Value} (h:qT W Wb p1 p2 p3):Wb<W.heap.size:=(gS h)
theorem qT.lies {W:World} {Wb:Nat} {p1 p2 p3:Value} (h:qT W Wb p1 p2 p3):Lies W Wb 0 #[.func (.func 119) #[] #[p1,p2,p3],.bool false,.map none]:=fun j u hj=>by
 have h':W.heap[Wb]?=_:=h
 simp only [World.cell?,h',Nat.zero_add]
 exact hj
theorem qT.fr {M:Nat→Prop} {W W':World} {Wb:Nat} {p1 p2 p3:Value} (h:qT W Wb p1 p2 p3) (hf:Fr M W W') (hM:¬ M Wb):qT W' Wb p1 p2 p3:=(hf.same Wb h.lt hM).trans h
theorem qT.grow {W W':World} {Wb:Nat} {p1 p2 p3:Value} (h:qT W Wb p1 p2 p3) (hg:G W W'):qT W' Wb p1 p2 p3:=(hg.block Wb h.lt).trans h
structure CB (St:List (List Nat)→(Nat→Prop)→World→Prop) (lo Wb:Nat) (p1 p2 p3:Value):Prop where
 keep:∀ {pre M W W'},St pre M W→KeepM M W W'→St pre M W'
 bnd:∀ {pre M W},St pre M W→lo≤W.heap.size∧∀ b,M b→lo≤b∧b<W.heap.size
 four:4≤lo
 call:∀ {pre M W u t},St pre M W→pre.length<1000000→Su.Has W u t→Su.Bytes t→1≤t.length→t.length≤1000000→Su.Tabs W→qT W Wb p1 p2 p3→Calls Tryz.prog 119 #[u,p1,p2,p3] W fun e W'=>e=.returned (.agg ((shaL t).map Su.vb).toArray)∧∃ M',St (pre++[t]) M' W'∧(∀ b,M' b→M b∨W.heap.size≤b)∧Fr M W W'
def Po (St:List (List Nat)→(Nat→Prop)→World→Prop) (pre ts:List (List Nat)) (M:Nat→Prop) (W W':World):Prop:=∃ M',St (pre++ts) M' W'∧(∀ b,M' b→M b∨W.heap.size≤b)∧Fr M W W'
theorem Tabs.fr {M:Nat→Prop} {lo:Nat} {W W':World} (h:Su.Tabs W) (hf:Fr M W W') (hM:∀ b,M b→lo≤b) (hl:lo≤W.heap.size) (h4:4≤lo):Su.Tabs W':=h.below (hf.below hM hl) h4
section
variable {St:List (List Nat)→(Nat→Prop)→World→Prop} {lo Wb:Nat} {c1 c2 c3:Addr}
theorem bU (hC:CB St lo Wb (.pointer (some c1)) (.pointer (some c2)) (.pointer (some c3))) {pre:List (List Nat)} {M:Nat→Prop} {W:World} {u:Value} {t:List Nat} (hS:St pre M W) (hW:qT W Wb (.pointer (some c1)) (.pointer (some c2)) (.pointer (some c3))) (hT:Su.Tabs W) (hu:Su.Has W u t) (hB:Su.Bytes t) (h1:1≤t.length) (hl:t.length≤1000000) (hP:pre.length<1000000):
  Calls Tryz.prog 153 #[.pointer (some ⟨Wb,0,none⟩),u] W fun e W'=>e=.returned (.agg ((shaL t).map Su.vb).toArray)∧Po St pre [t] M W W':=by
 have hb:=hC.bnd hS
 obtain ⟨B,hBs⟩:∃ B,W.heap.size=B:=⟨_,rfl⟩
 have hG:G W (W.alloc (.cells z22 22)):=G.alloc _ _
 have CC:=hC.call (hC.keep hS (KeepM.of_G hG fun b h=>(hb.2 b h).2)) hP (hu.below hG) hB h1 hl (hT.up hG) (hW.grow hG)
 have q0:=jB (hG.lies hW.lies) 0 _ rfl
 have q1:=jB (hG.lies hW.lies) 1 _ rfl
 have HX:Hid (((shaL t).map Su.vb).toArray.size=32∧((shaL t).map Su.vb).toArray.all (·.oneCell')=true):=⟨by simp [qg],kV _⟩
 have HH:=hid (⟨hb,hG,World.alloc_heap_new W (.cells z22 22)⟩:_∧_∧_)
 rw [hBs] at HH
 generalize ((shaL t).map Su.vb).toArray=X at *
 clear hS hW hT hu hb hG hP
 go_enter Tryz.func153,Tryz.ntmps153
 go_wp2_with (first
  | ((with_reducible refine jF (.pointer (some ⟨B,0,none⟩)) (W.alloc (.cells z22 22)) ?_ ?_);exact jG 22 z22 rfl qm _ _ hBs)
  | (go_at_call 119;refine CC.mono ?_;rintro e w2 ⟨rfl,M',hS',hM',hf⟩;have hnB:¬ M B:=fun h=>(by have:=(HH.o.1.2 B h).2;omega);have HF:=hid (⟨hS',hM',hf,(hf.same B (by simp;omega) hnB).trans HH.o.2.2,hnB⟩:_∧_∧_∧_∧_);clear hS' hM' hf CC)
  | ((with_reducible refine jC (w2.setRow B X) ?_ ?_);exact jL 22 _ _ rfl B X z22 rfl rfl _ HF.o.2.2.2.1 (by rw [jx,HX.o.1]) (by rw [ju,HX.o.1]) HX.o.2))
 obtain ⟨hS',hM',hf,hv,hnB⟩:=HF.o
 refine bodyPost_ret (results_cell_row (P:=Tryz.prog) (p:=4) (ty:=22) rfl _ _ B 22 X (0,0) _ rfl (setRow_heap _ _ _ _ _ _ hv) Tryz.underlying22 rfl (by rw [jx,HX.o.1])) rfl ⟨rfl,M',?_,?_,?_⟩
 ·refine hC.keep hS' (KeepM.row _ _ _ fun h=>?_)
  rcases hM' B h with h | h
  ·exact hnB h
  ·simp at h;omega
 ·intro b h
  rcases hM' b h with h | h
  ·exact .inl h
  ·simp at h;exact .inr (by omega)
 ·exact Fr.row _ _ _ _ _ ((Fr.of_G HH.o.2.1).trans (fun b h=>.inl h) hf) (by omega)
end
structure Rp where
 lo:Nat
 X:Nat
 lr:Nat
 R:Nat
 l:List Int
 ver:Int
 hB:Wire.Bytes l
def FltP (w:World) (M:Nat→Prop) (fp:Value):Option (Int × Int)→Prop
 | none=>fp=.pointer none
 | some x=>∃ b,fp=.pointer (some ⟨b,0,none⟩)∧M b∧w.heap[b]?=some (.cells #[.int .i64 x.1,.string ⟨#[]⟩,.int .i64 x.2] 93 (0,0))
def Spot (w:World) (M:Nat→Prop):List ByteArray→Nat→Prop
 | [],b=>M b∧w.heap[b]?=some (.cells #[.pointer none,.string ⟨#[]⟩,.int .i64 0] 167 (0,0))
 | nm::up,b=>M b∧∃ u,w.heap[b]?=some (.cells #[.pointer (some ⟨u,0,none⟩),.string nm,.int .i64 (up.length+1:Nat)] 167 (0,0))∧Spot w M up u
def stc (b:Nat) (s:Stp):List Value:=.pointer (some ⟨b,0,none⟩)::.int .i64 (s.pl:Int)::s.hash.map Su.vb
def StR (w:World) (M:Nat→Prop):List Stp→List Value→Prop
 | [],xs=>xs=[]
 | s::r,xs=>∃ b xs',xs=stc b s++xs'∧s.hash.length=32∧s.names.length≤64∧(∀ x∈s.names,x.size≤255)∧Spot w M s.names b∧StR w M r xs'
theorem Spot.keep {w w':World} {M M':Nat→Prop} (hM:∀ b,M b→M' b):∀ {ns:List ByteArray} {b:Nat},(∀ b c,M b→w.heap[b]?=some (.cells c 167 (0,0))→w'.heap[b]?=w.heap[b]?)→Spot w M ns b→Spot w' M' ns b
 | [],_,h,⟨h1,h2⟩=>⟨hM _ h1,(h _ _ h1 h2).trans h2⟩
 | _::_,_,h,⟨h1,u,h2,h3⟩=>⟨hM _ h1,u,(h _ _ h1 h2).trans h2,Spot.keep hM h h3⟩
theorem StR.keep {w w':World} {M M':Nat→Prop} (hM:∀ b,M b→M' b) (h:∀ b c,M b→w.heap[b]?=some (.cells c 167 (0,0))→w'.heap[b]?=w.heap[b]?):∀ {st:List Stp} {xs:List Value},StR w M st xs→StR w' M' st xs
 | [],_,q=>q
 | _::_,_,⟨b,xs',h1,h2,h3,h4,h5,h6⟩=>⟨b,xs',h1,h2,h3,h4,h5.keep hM h,StR.keep hM h h6⟩
theorem StR.len {w:World} {M:Nat→Prop}:∀ {st:List Stp} {xs:List Value},StR w M st xs→xs.length=st.length*34
 | [],_,h=>by rw [h];rfl
 | s::r,xs,⟨b,xs',h1,h2,_,_,_,h6⟩=>by rw [h1,lA,StR.len h6];simp [stc,h2];omega
theorem StR.snoc {w:World} {M:Nat→Prop} {s:Stp} {b:Nat} (h1:s.hash.length=32) (h2:s.names.length≤64) (h3:∀ x∈s.names,x.size≤255) (h4:Spot w M s.names b):∀ {st:List Stp} {xs:List Value},StR w M st xs→StR w M (st++[s]) (xs++stc b s)
 | [],xs,h=>⟨b,[],by rw [h];simp,h1,h2,h3,h4,rfl⟩
 | _::_,xs,⟨b',xs',q1,q2,q3,q4,q5,q6⟩=>⟨b',xs'++stc b s,by rw [q1,List.append_assoc],q2,q3,q4,q5,StR.snoc h1 h2 h3 h4 q6⟩
theorem FltP.keep {w w':World} {M M':Nat→Prop} (hM:∀ b,M b→M' b) {fp:Value}:∀ {x:Option (Int × Int)},(∀ b c,M b→w.heap[b]?=some (.cells c 93 (0,0))→w'.heap[b]?=w.heap[b]?)→FltP w M fp x→FltP w' M' fp x
 | none,_,h=>h
 | some _,hk,⟨b,h1,h2,h3⟩=>⟨b,h1,hM _ h2,(hk b _ h2 h3).trans h3⟩
structure Ro (c:Rp) (r:Rv) (M:Nat→Prop) (fp sv:Value) (xs:List Value) (w:World):Prop where
 at_:w.heap[c.X]?=some (.cells #[.pointer (some ⟨c.R,0,none⟩),.int .i64 c.ver,.int .i64 r.left,fp,sv] 79 (0,0))
 rd:Wi.RdS w c.lr c.R c.l r.s
 lr:c.lo≤c.lr
 mX:M c.X
 mR:∀ k,c.lr≤k→k≤c.R→M k
 fl:FltP w M fp r.flt
 ow:w.ownsRow c.lo 128 34 sv r.st.length xs
 st:StR w M r.st xs
 mS:∀ k,sv.ownBlock=some k→M k
 bnd:∀ b,M b→c.lo≤b∧b<w.heap.size
def Rs (c:Rp) (r:Rv) (M:Nat→Prop) (w:World):Prop:=∃ fp sv xs,Ro c r M fp sv xs w
structure Frs (M:Nat→Prop) (W W':World):Prop where
 fr:Fr M W W'
 sp:∀ b cs,M b→W.heap[b]?=some (.cells cs 167 (0,0))→W'.heap[b]?=W.heap[b]?
theorem Frs.size {M:Nat→Prop} {W W':World} (h:Frs M W W'):W.heap.size≤W'.heap.size:=h.fr.size
theorem Frs.spot {M:Nat→Prop} {W W':World} (h:Frs M W W') (b:Nat) (cs:Array Value) (hb:W.heap[b]?=some (.cells cs 167 (0,0))):W'.heap[b]?=W.heap[b]?:=by
 by_cases hm:M b
 ·exact h.sp b cs hm hb
 ·exact h.fr.same b (gS hb) hm
theorem Frs.of_G {M:Nat→Prop} {W W':World} (h:G W W'):Frs M W W':=⟨Fr.of_G h,fun b _ _ hb=>h.block b (gS hb)⟩
theorem Frs.trans {M M1:Nat→Prop} {A B C:World} (h:Frs M A B) (hM:∀ b,M1 b→M b∨A.heap.size≤b) (k:Frs M1 B C):Frs M A C:=
 ⟨h.fr.trans hM k.fr,fun b cs _ hb=>by
  have e:=h.spot b cs hb
  exact (k.spot b cs (e.trans hb)).trans e⟩
def Pr (c:Rp) (r:Rv) (M:Nat→Prop) (w w':World):Prop:=∃ M',Rs c r M' w'∧(∀ b,M' b→M b∨w.heap.size≤b)∧Frs M w w'
theorem Ro.lrR {c:Rp} {r:Rv} {M:Nat→Prop} {fp sv:Value} {xs:List Value} {w:World} (h:Ro c r M fp sv xs w):c.lr≤c.R:=by
 obtain ⟨v,_,_,_,q,_⟩:=h.rd
 exact q
theorem Ro.len {c:Rp} {r:Rv} {M:Nat→Prop} {fp sv:Value} {xs:List Value} {w:World} (h:Ro c r M fp sv xs w):c.l.length≤16777216∧r.s.p≤c.l.length:=by
 obtain ⟨v,_,_,_,_,q1,q2⟩:=h.rd
 exact ⟨q2,q1⟩
theorem Ro.atR {c:Rp} {r:Rv} {M:Nat→Prop} {fp sv:Value} {xs:List Value} {w:World} (h:Ro c r M fp sv xs w):∃ cs,w.heap[c.R]?=some (.cells cs 158 (0,0)):=by
 obtain ⟨v,q,_⟩:=h.rd
 exact ⟨_,q⟩
theorem Ro.neX {c:Rp} {r:Rv} {M:Nat→Prop} {fp sv:Value} {xs:List Value} {w:World} (h:Ro c r M fp sv xs w):c.X≠c.R:=fun e=>by
 obtain ⟨cs,q⟩:=h.atR
 rw [← e,h.at_] at q
 cases q
theorem Ro.neS {c:Rp} {r:Rv} {M:Nat→Prop} {fp sv:Value} {xs:List Value} {w:World} (h:Ro c r M fp sv xs w) {b:Nat} {cs:Array Value} {T:TypeId} (hb:w.heap[b]?=some (.cells cs T (0,0))) (hT:T≠128):some b≠sv.ownBlock:=fun e=>by
 obtain ⟨_,⟨rfl,_⟩ | ⟨g,cp,cur,rv,_,rh,_⟩⟩:=h.ow
 ·cases e
 ·rw [rv] at e
  have:b=g:=by simpa [Value.ownBlock] using e
  subst this
  rw [hb] at rh
  cases rh
  exact hT rfl
theorem Ro.keep {c:Rp} {r:Rv} {M:Nat→Prop} {fp sv:Value} {xs:List Value} {w w':World} (h:Ro c r M fp sv xs w) (hs:w.heap.size≤w'.heap.size) (hk:∀ b,M b→w'.heap[b]?=w.heap[b]?):Ro c r M fp sv xs w':=
 ⟨(hk _ h.mX).trans h.at_,Wi.Rdr.kept h.rd fun k h1 h2=>hk k (h.mR k h1 h2),h.lr,h.mX,h.mR,h.fl.keep (fun _ q=>q) fun b _ hb _=>hk b hb,
  by
   obtain ⟨h1,q | ⟨g,cp,cur,rv,rl,rh,rr⟩⟩:=h.ow
   ·exact ⟨h1,.inl q⟩
   ·exact ⟨h1,.inr ⟨g,cp,cur,rv,rl,(hk g (h.mS g (by rw [rv];rfl))).trans rh,rr⟩⟩,
  h.st.keep (fun _ q=>q) fun b _ hb _=>hk b hb,h.mS,fun b hb=>⟨(h.bnd b hb).1,Nat.lt_of_lt_of_le (h.bnd b hb).2 hs⟩⟩
theorem Rs.keep {c:Rp} {r:Rv} {M:Nat→Prop} {w w':World} (h:Rs c r M w) (hs:w.heap.size≤w'.heap.size) (hk:∀ b,M b→w'.heap[b]?=w.heap[b]?):Rs c r M w':=by
 obtain ⟨fp,sv,xs,h⟩:=h
 exact ⟨fp,sv,xs,h.keep hs hk⟩
theorem Rs.bnd {c:Rp} {r:Rv} {M:Nat→Prop} {w:World} (h:Rs c r M w):∀ b,M b→c.lo≤b∧b<w.heap.size:=by
 obtain ⟨fp,sv,xs,h⟩:=h
 exact h.bnd
theorem Rs.grow {c:Rp} {r:Rv} {M:Nat→Prop} {w w':World} (h:Rs c r M w) (hg:G w w'):Rs c r M w':=h.keep hg.size fun b hb=>hg.block b (h.bnd b hb).2
theorem Pr.refl {c:Rp} {r:Rv} {M:Nat→Prop} {w:World} (h:Rs c r M w):Pr c r M w w:=⟨M,h,fun _ q=>.inl q,Frs.of_G (G.refl _)⟩
theorem Pr.after {c:Rp} {r:Rv} {M:Nat→Prop} {w w1 w2:World} (h:Pr c r M w1 w2) (hg:G w w1):Pr c r M w w2:=by
 obtain ⟨M',h1,h2,h3⟩:=h
 exact ⟨M',h1,fun b hb=>(h2 b hb).imp id fun q=>Nat.le_trans hg.size q,(Frs.of_G hg).trans (fun _ q=>.inl q) h3⟩
theorem Pr.grow {c:Rp} {r:Rv} {M:Nat→Prop} {w w1 w2:World} (h:Pr c r M w w1) (hg:G w1 w2):Pr c r M w w2:=by
 obtain ⟨M',h1,h2,h3⟩:=h
 exact ⟨M',h1.grow hg,h2,h3.trans (M1:=fun _=>False) (fun b q=>q.elim) (Frs.of_G hg)⟩
theorem Pr.comp {c:Rp} {r:Rv} {M M1:Nat→Prop} {w w1 w2:World} (h2:∀ b,M1 b→M b∨w.heap.size≤b) (h3:Frs M w w1) (k:Pr c r M1 w1 w2):Pr c r M w w2:=by
 obtain ⟨M',k1,k2,k3⟩:=k
 exact ⟨M',k1,fun b hb=>(k2 b hb).elim (h2 b) fun q=>.inr (Nat.le_trans h3.size q),h3.trans h2 k3⟩
theorem Ro.wire {c:Rp} {r:Rv} {M:Nat→Prop} {fp sv:Value} {xs:List Value} {w w':World} {s:Wi.St} (h:Ro c r M fp sv xs w) (hr:Wi.RdS w' c.lr c.R c.l s) (hg:w.grownBy w' (some c.R)):Ro c { r with s:=s } M fp sv xs w'∧Frs M w w':=by
 obtain ⟨cs,hR⟩:=h.atR
 have hb:∀ b,b<w.heap.size→b≠c.R→w'.heap[b]?=w.heap[b]?:=fun b h1 h2=>hg.block b h1 (by simpa using h2)
 have hn:∀ b cs T,M b→w.heap[b]?=some (.cells cs T (0,0))→T≠158→w'.heap[b]?=w.heap[b]?:=fun b cs T h1 h2 h3=>hb b (h.bnd b h1).2 fun e=>by
  rw [e,hR] at h2
  cases h2
  exact h3 rfl
 refine ⟨⟨(hb _ (h.bnd _ h.mX).2 h.neX).trans h.at_,hr,h.lr,h.mX,h.mR,h.fl.keep (fun _ q=>q) fun b cs h1 h2=>hn b cs 93 h1 h2 (by decide),?_,h.st.keep (fun _ q=>q) fun b cs h1 h2=>hn b cs 167 h1 h2 (by decide),h.mS,fun b q=>⟨(h.bnd b q).1,Nat.lt_of_lt_of_le (h.bnd b q).2 hg.size⟩⟩,⟨⟨hg.os,hg.tape,hg.output,hg.size,fun b h1 h2=>hb b h1 fun e=>h2 (by rw [e];exact h.mR _ h.lrR (Nat.le_refl _))⟩,fun b cs h1 h2=>hn b cs 167 h1 h2 (by decide)⟩⟩
 obtain ⟨h1,q | ⟨g,cp,cur,rv,rl,rh,rr⟩⟩:=h.ow
 ·exact ⟨h1,.inl q⟩
 ·exact ⟨h1,.inr ⟨g,cp,cur,rv,rl,(hn g cur 128 (h.mS g (by rw [rv];rfl)) rh (by decide)).trans rh,rr⟩⟩
theorem Rs.wire {c:Rp} {r:Rv} {M:Nat→Prop} {w w':World} {s:Wi.St} (h:Rs c r M w) (hr:Wi.RdS w' c.lr c.R c.l s) (hg:w.grownBy w' (some c.R)):Rs c { r with s:=s } M w'∧Frs M w w':=by
 obtain ⟨fp,sv,xs,h⟩:=h
 have:=h.wire hr hg
 exact ⟨⟨_,_,_,this.1⟩,this.2⟩
theorem Pr.wire {c:Rp} {r:Rv} {M:Nat→Prop} {w w':World} {s:Wi.St} (h:Rs c r M w) (hr:Wi.RdS w' c.lr c.R c.l s) (hg:w.grownBy w' (some c.R)):Pr c { r with s:=s } M w w':=⟨M,(h.wire hr hg).1,fun _ q=>.inl q,(h.wire hr hg).2⟩
theorem Ro.others {c:Rp} {r:Rv} {M:Nat→Prop} {fp sv:Value} {xs:List Value} {w:World} (h:Ro c r M fp sv xs w) (o:Nat) (x:Value):∀ b cs T,M b→w.heap[b]?=some (.cells cs T (0,0))→T≠79→(w.setCell ⟨c.X,o,none⟩ x).heap[b]?=w.heap[b]?:=fun b cs T _ h2 h3=>Below.heap_setCell _ _ _ _ fun (e:b=c.X)=>by
 rw [e,h.at_] at h2
 cases h2
 exact h3 rfl
theorem Fr.setCell {M:Nat→Prop} {w:World} {b o:Nat} {x:Value} (h:M b):Fr M w (w.setCell ⟨b,o,none⟩ x):=
 ⟨rfl,rfl,rfl,by rw [World.size_setCell];exact Nat.le_refl _,fun k _ hn=>Below.heap_setCell _ _ _ _ fun (e:k=b)=>hn (e ▸ h)⟩
theorem Ro.rdk {c:Rp} {r:Rv} {M:Nat→Prop} {fp sv:Value} {xs:List Value} {w w':World} (h:Ro c r M fp sv xs w) (ho:∀ b cs T,M b→w.heap[b]?=some (.cells cs T (0,0))→T≠79→T≠128→w'.heap[b]?=w.heap[b]?):Wi.RdS w' c.lr c.R c.l r.s:=by
 obtain ⟨v,q1,q2,q3⟩:=h.rd
 refine ⟨v,(ho c.R _ _ (h.mR _ h.lrR (Nat.le_refl _)) q1 (by decide) (by decide)).trans q1,?_,q3⟩
 obtain ⟨h1,q | ⟨g,cp,cur,rv,rl,rh,rr⟩⟩:=q2
 ·exact ⟨h1,.inl q⟩
 ·exact ⟨h1,.inr ⟨g,cp,cur,rv,rl,(ho g _ _ (h.mR g rl (Nat.le_of_lt (q3.1 g (by rw [rv];rfl)))) rh (by decide) (by decide)).trans rh,rr⟩⟩
theorem Ro.owk {c:Rp} {r:Rv} {M:Nat→Prop} {fp sv:Value} {xs:List Value} {w w':World} (h:Ro c r M fp sv xs w) (ho:∀ b cs T,M b→w.heap[b]?=some (.cells cs T (0,0))→T≠79→w'.heap[b]?=w.heap[b]?):w'.ownsRow c.lo 128 34 sv r.st.length xs:=by
 obtain ⟨h1,q | ⟨g,cp,cur,rv,rl,rh,rr⟩⟩:=h.ow
 ·exact ⟨h1,.inl q⟩
 ·exact ⟨h1,.inr ⟨g,cp,cur,rv,rl,(ho g cur 128 (h.mS g (by rw [rv];rfl)) rh (by decide)).trans rh,rr⟩⟩
theorem Ro.setLeft {c:Rp} {r:Rv} {M:Nat→Prop} {fp sv:Value} {xs:List Value} {w:World} (h:Ro c r M fp sv xs w) (x:Int):Ro c { r with left:=x } M fp sv xs (w.setCell ⟨c.X,2,none⟩ (.int .i64 x))∧Frs M w (w.setCell ⟨c.X,2,none⟩ (.int .i64 x)):=by
 have ho:=h.others 2 (.int .i64 x)
 refine ⟨⟨?_,h.rdk fun b cs T h1 h2 h3 _=>ho b cs T h1 h2 h3,h.lr,h.mX,h.mR,h.fl.keep (fun _ q=>q) fun b cs h1 h2=>ho b cs 93 h1 h2 (by decide),h.owk ho,h.st.keep (fun _ q=>q) fun b cs h1 h2=>ho b cs 167 h1 h2 (by decide),h.mS,fun b q=>by rw [World.size_setCell];exact h.bnd b q⟩,⟨Fr.setCell h.mX,fun b cs h1 h2=>ho b cs 167 h1 h2 (by decide)⟩⟩
 rw [Wi.jM _ h.at_];rfl
theorem Ro.setFault {c:Rp} {r:Rv} {M:Nat→Prop} {fp sv:Value} {xs:List Value} {w w1:World} {B:Nat} (h:Ro c r M fp sv xs w) (a e:Int) (hB:w.heap.size≤B) (hg:G w w1) (hb:w1.heap[B]?=some (.cells #[.int .i64 a,.string ⟨#[]⟩,.int .i64 e] 93 (0,0))):
  Pr c { r with flt:=some (a,e) } M w (w1.setCell ⟨c.X,3,none⟩ (.pointer (some ⟨B,0,none⟩))):=by
 have h1:=h.keep hg.size fun b hb=>hg.block b (h.bnd b hb).2
 have hX:=(h.bnd _ h.mX).2
 have hBl:=(gS hb)
 have ho:∀ b cs T,M b→w1.heap[b]?=some (.cells cs T (0,0))→T≠79→(w1.setCell ⟨c.X,3,none⟩ (.pointer (some ⟨B,0,none⟩))).heap[b]?=w1.heap[b]?:=h1.others 3 (.pointer (some ⟨B,0,none⟩))
 refine ⟨fun b=>M b∨b=B,⟨.pointer (some ⟨B,0,none⟩),sv,xs,⟨?_,h1.rdk fun b cs T h1 h2 h3 _=>ho b cs T h1 h2 h3,h.lr,.inl h.mX,fun k q1 q2=>.inl (h.mR k q1 q2),⟨B,rfl,.inr rfl,?_⟩,h1.owk ho,h1.st.keep (fun _ q=>.inl q) fun b cs h1 h2=>ho b cs 167 h1 h2 (by decide),fun k q=>.inl (h.mS k q),fun b q=>?_⟩⟩,fun b q=>q.elim .inl fun e=>.inr (by omega),(Frs.of_G hg).trans (fun _ q=>.inl q) ⟨Fr.setCell h.mX,fun b cs h1 h2=>ho b cs 167 h1 h2 (by decide)⟩⟩
 ·rw [Wi.jM _ h1.at_];rfl
 ·exact (Below.heap_setCell _ _ _ _ (by show B≠c.X;omega)).trans hb
 ·rw [World.size_setCell]
  rcases q with q | q
  ·exact h1.bnd b q
  ·subst q
   exact ⟨by have:=(h.bnd _ h.mX);omega,hBl⟩
attribute [local go_sem] Oper.semAt_some
theorem Ro.lies {c:Rp} {r:Rv} {M:Nat→Prop} {fp sv:Value} {xs:List Value} {w:World} (h:Ro c r M fp sv xs w):Lies w c.X 0 #[.pointer (some ⟨c.R,0,none⟩),.int .i64 c.ver,.int .i64 r.left,fp,sv]:=fun j u hj=>by
 simp only [World.cell?,h.at_,Nat.zero_add]
 exact hj
theorem Ro.frz {c:Rp} {r:Rv} {M:Nat→Prop} {fp sv:Value} {xs:List Value} {w:World} (h:Ro c r M fp sv xs w) (o:Nat):w.frozen? ⟨c.X,o,none⟩=false:=by simp [World.frozen?,h.at_]
theorem Rs.q0 {c:Rp} {r:Rv} {M:Nat→Prop} {w:World} (h:Rs c r M w):w.cell? ⟨c.X,0,none⟩=some (.pointer (some ⟨c.R,0,none⟩)):=by
 obtain ⟨fp,sv,xs,h⟩:=h
 exact jB h.lies 0 _ rfl
theorem Rs.q1 {c:Rp} {r:Rv} {M:Nat→Prop} {w:World} (h:Rs c r M w):w.cell? ⟨c.X,1,none⟩=some (.int .i64 c.ver):=by
 obtain ⟨fp,sv,xs,h⟩:=h
 exact jB h.lies 1 _ rfl
theorem Rs.q2 {c:Rp} {r:Rv} {M:Nat→Prop} {w:World} (h:Rs c r M w):w.cell? ⟨c.X,2,none⟩=some (.int .i64 r.left):=by
 obtain ⟨fp,sv,xs,h⟩:=h
 exact jB h.lies 2 _ rfl
theorem Rs.rd {c:Rp} {r:Rv} {M:Nat→Prop} {w:World} (h:Rs c r M w):Wi.RdS w c.lr c.R c.l r.s:=by
 obtain ⟨fp,sv,xs,h⟩:=h
 exact h.rd
theorem Rs.len {c:Rp} {r:Rv} {M:Nat→Prop} {w:World} (h:Rs c r M w):c.l.length≤16777216∧r.s.p≤c.l.length:=by
 obtain ⟨fp,sv,xs,h⟩:=h
 exact h.len
theorem oO {r:Rv} (h:r.flt=none) (a e:Int):refR a e r={ r with flt:=some (a,e) }:=by unfold refR;rw [h];rfl
theorem oP {r:Rv} {x:Int × Int} (h:r.flt=some x) (a e:Int):refR a e r=r:=by unfold refR;rw [h];show ({ r with flt:=some x }:Rv)=r;rw [← h]
theorem km {c:Rp} {r:Rv} {M:Nat→Prop} {w:World} (a e:Int) (hS:Rs c r M w):
  Calls Tryz.prog 69 #[.pointer (some ⟨c.X,0,none⟩),.int .i64 a,.int .i64 e] w fun x w'=>x=.returned (.tuple #[])∧Pr c (refR a e r) M w w':=by
 obtain ⟨fp,sv,xs,h⟩:=hS
 have q3:=jB h.lies 3 _ rfl
 cases hf:r.flt with
 | none=>
  have hfl:=h.fl
  rw [hf] at hfl
  have hfp:fp=.pointer none:=hfl
  subst hfp
  rw [oO hf]
  obtain ⟨B,hB⟩:∃ B,w.heap.size=B:=⟨_,rfl⟩
  have hG:G w (w.alloc (.cells #[.int .i64 a,.string ⟨#[]⟩,.int .i64 e] 93)):=G.alloc _ _
  have h2:=h.setFault a e (Nat.le_of_eq hB) hG (by rw [← hB];exact World.alloc_heap_new w _)
  have q4:(w.alloc (.cells #[.int .i64 a,.string ⟨#[]⟩,.int .i64 e] 93)).cell? ⟨c.X,3,none⟩=some (.pointer none):=hG.cell q3
  have f4:(w.alloc (.cells #[.int .i64 a,.string ⟨#[]⟩,.int .i64 e] 93)).frozen? ⟨c.X,3,none⟩=false:=by
   simp [World.frozen?,(hG.block _ (h.bnd _ h.mX).2).trans h.at_]
  have HH:=hid h2
  clear h h2 hfl hf hG
  go_enter Tryz.func69,Tryz.ntmps69
  go_wp2
  go_end0
  exact ⟨rfl,HH.o⟩
 | some x=>
  have hfl:=h.fl
  rw [hf] at hfl
  obtain ⟨b,rfl,hb⟩:=hfl
  rw [oP hf]
  have HH:=hid (Pr.refl (⟨_,_,_,h⟩:Rs c r M w))
  clear h hb hf
  go_enter Tryz.func69,Tryz.ntmps69
  go_wp2
  go_end0
  exact ⟨rfl,HH.o⟩
theorem zl {c:Rp} {r:Rv} {M:Nat→Prop} {w:World} (a:Int) (ok:Bool) (hS:Rs c r M w):
  Calls Tryz.prog 66 #[.pointer (some ⟨c.X,0,none⟩),.int .i64 a,.bool ok] w fun x w'=>x=.returned (.tuple #[])∧Pr c (kT a ok r) M w w':=by
 have q0:=hS.q0
 by_cases hf:r.s.fe=0
 ·have C1:=Wi.mq c.lr c.R c.l r.s.p r.s.fa w (by have:=hS.rd;unfold Wi.RdS at this ⊢;rw [hf] at this;exact this)
  cases ok with
  | true=>
   have e:kT a true r=r:=by unfold kT;rw [if_neg (by simp [hf])]
   rw [e]
   have HH:=hid (Pr.refl hS)
   clear hS
   go_enter Tryz.func66,Tryz.ntmps66
   go_wp2_with (go_at_call 99;refine C1.mono ?_;rintro e w1 ⟨rfl,rfl⟩)
   go_end0
   exact ⟨rfl,HH.o⟩
  | false=>
   have e:kT a false r=refR a 63 r:=by unfold kT;rw [if_pos (by simp)]
   rw [e]
   have HH:=hid hS
   clear hS
   go_enter Tryz.func66,Tryz.ntmps66
   go_wp2_with (first
    | (go_at_call 99;refine C1.mono ?_;rintro e w1 ⟨rfl,rfl⟩)
    | (go_at_call 69;refine (km a 63 HH.o).mono ?_;rintro e w2 ⟨rfl,h2⟩;have HP:=hid h2;clear h2))
   go_end0
   exact ⟨rfl,HP.o⟩
 ·have e:kT a ok r=refR a 63 r:=by unfold kT;rw [if_pos (.inl hf)]
  rw [e]
  have C1:=Wi.mr c.lr c.R c.l r.s w hS.rd hf
  have hG:G w (w.alloc (.cells #[.int .i64 r.s.fa,.string ⟨#[]⟩,.int .i64 r.s.fe] 93)):=G.alloc _ _
  have HH:=hid (⟨hS.grow hG,hG⟩:_∧_)
  clear hS hf hG
  generalize w.alloc (.cells #[.int .i64 r.s.fa,.string ⟨#[]⟩,.int .i64 r.s.fe] 93)=w1 at *
  go_enter Tryz.func66,Tryz.ntmps66
  go_wp2_with (first
   | (go_at_call 99;refine C1.mono ?_;rintro e w2 ⟨rfl,hw2⟩;subst hw2)
   | (go_at_call 69;refine (km a 63 HH.o.1).mono ?_;rintro e w2 ⟨rfl,h2⟩;have HP:=hid h2;clear h2))
  go_end0
  exact ⟨rfl,HP.o.after HH.o.2⟩
theorem Pr.must {c:Rp} {r:Rv} {M:Nat→Prop} {w w1:World} (h:Pr c r M w w1) (a:Int) (ok:Bool):
  Calls Tryz.prog 66 #[.pointer (some ⟨c.X,0,none⟩),.int .i64 a,.bool ok] w1 fun x w'=>x=.returned (.tuple #[])∧Pr c (kT a ok r) M w w':=by
 obtain ⟨M1,h1,h2,h3⟩:=h
 exact (zl a ok h1).mono fun _ _ q=>⟨q.1,Pr.comp h2 h3 q.2⟩
theorem Pr.q0 {c:Rp} {r:Rv} {M:Nat→Prop} {w w1:World} (h:Pr c r M w w1):w1.cell? ⟨c.X,0,none⟩=some (.pointer (some ⟨c.R,0,none⟩)):=by
 obtain ⟨M1,h1,_⟩:=h
 exact h1.q0
theorem Pr.q1 {c:Rp} {r:Rv} {M:Nat→Prop} {w w1:World} (h:Pr c r M w w1):w1.cell? ⟨c.X,1,none⟩=some (.int .i64 c.ver):=by
 obtain ⟨M1,h1,_⟩:=h
 exact h1.q1
theorem Pr.q2 {c:Rp} {r:Rv} {M:Nat→Prop} {w w1:World} (h:Pr c r M w w1):w1.cell? ⟨c.X,2,none⟩=some (.int .i64 r.left):=by
 obtain ⟨M1,h1,_⟩:=h
 exact h1.q2
theorem Rs.at_ {c:Rp} {r:Rv} {M:Nat→Prop} {w:World} (h:Rs c r M w):Calls Tryz.prog 62 #[.pointer (some ⟨c.R,0,none⟩)] w fun e w'=>e=.returned (.int .i64 r.s.p)∧w'=w:=Wi.fT c.lr c.R c.l r.s w h.rd
theorem Rs.uint {c:Rp} {r:Rv} {M:Nat→Prop} {w:World} (h:Rs c r M w) (most:Nat):Calls Tryz.prog 63 #[.pointer (some ⟨c.R,0,none⟩),.int .u64 most] w fun e w'=>e=.returned (.int .u64 (Wi.uintS c.l r.s most).1)∧Pr c { r with s:=(Wi.uintS c.l r.s most).2 } M w w':=
 (Wi.mu c.lr c.R most c.l r.s w h.rd c.hB).mono fun _ _ q=>⟨q.1,Pr.wire h q.2.1 q.2.2⟩
theorem Rs.byte {c:Rp} {r:Rv} {M:Nat→Prop} {w:World} (h:Rs c r M w):Calls Tryz.prog 134 #[.pointer (some ⟨c.R,0,none⟩)] w fun e w'=>e=.returned (.int .u8 (Wi.byteS c.l r.s).1)∧Pr c { r with s:=(Wi.byteS c.l r.s).2 } M w w':=
 (Wi.uF c.lr c.R c.l r.s w h.rd).mono fun _ _ q=>⟨q.1,Pr.wire h q.2.1 q.2.2⟩
theorem Rs.text {c:Rp} {r:Rv} {M:Nat→Prop} {w:World} (h:Rs c r M w) (most:Int) (hm:-9223372036854775808≤most∧most≤9223372036854775807):Calls Tryz.prog 135 #[.pointer (some ⟨c.R,0,none⟩),.int .i64 most] w fun e w'=>e=.returned (.string (Wi.mkStr (Wi.textS c.l r.s most).1))∧Pr c { r with s:=(Wi.textS c.l r.s most).2 } M w w':=
 (Wi.lW c.lr c.R most c.l r.s w h.rd c.hB hm).mono fun _ _ q=>⟨q.1,Pr.wire h q.2.1 q.2.2⟩
theorem Rs.raw {c:Rp} {r:Rv} {M:Nat→Prop} {w:World} (h:Rs c r M w) (n:Int) (hn:-9223372036854775808≤n∧n≤9223372036854775807):Calls Tryz.prog 61 #[.pointer (some ⟨c.R,0,none⟩),.int .i64 n] w fun e w'=>∃ v,e=.returned v∧Pr c { r with s:=Wi.rawS c.l r.s n } M w w'∧Wi.Owns w' w.heap.size v (Wi.rawB c.l r.s n):=
 (Wi.mg c.lr c.R n c.l r.s w h.rd hn).mono fun _ _ ⟨v,q1,q2,q3,q4⟩=>⟨v,q1,Pr.wire h q2 q3,q4⟩
theorem Rs.end_ {c:Rp} {r:Rv} {M:Nat→Prop} {w:World} (h:Rs c r M w):Calls Tryz.prog 68 #[.pointer (some ⟨c.R,0,none⟩)] w fun e w'=>e=.returned (.tuple #[])∧Pr c { r with s:=Wi.endS c.l r.s } M w w':=
 (Wi.wP c.lr c.R c.l r.s w h.rd).mono fun _ _ q=>⟨q.1,Pr.wire h q.2.1 q.2.2⟩
theorem eI (l:List Int) (s:Wi.St) (m:Nat):(Wi.uintS l s m).1≤m:=by
 unfold Wi.uintS
 split
 ·exact Nat.zero_le _
 ·split
  ·split
   ·assumption
   ·exact Nat.zero_le _
  ·exact Nat.zero_le _
  ·exact Nat.zero_le _
theorem dW {l:List Int} (hB:Wire.Bytes l) (s:Wi.St):0≤(Wi.byteS l s).1∧(Wi.byteS l s).1<256:=by
 unfold Wi.byteS
 split
 ·exact ⟨Int.le_refl _,by show (0:Int)<256;decide⟩
 ·split
  ·exact hB.at ‹_›
  ·exact ⟨Int.le_refl _,by show (0:Int)<256;decide⟩
theorem yW {c:Rp} {r:Rv} {M:Nat→Prop} {w:World} (least:Int) (most:Nat) (hm:most<9223372036854775808) (hS:Rs c r M w):
  Calls Tryz.prog 137 #[.pointer (some ⟨c.X,0,none⟩),.int .i64 least,.int .i64 (most:Int)] w fun x w'=>x=.returned (.int .i64 ((numR c.l least most r).1:Int))∧Pr c (numR c.l least most r).2 M w w':=by
 have q0:=hS.q0
 have C1:=hS.at_
 have C2:=hS.uint most
 have hle:=eI c.l r.s most
 unfold numR
 simp only
 generalize hN:(Wi.uintS c.l r.s most).1=N at *
 obtain ⟨P,hP⟩:∃ P:Nat,r.s.p=P:=⟨_,rfl⟩
 rw [hP] at C1 ⊢
 have hn1:(N:Int)<9223372036854775808:=by omega
 clear hS hle hN hP
 go_enter Tryz.func137,Tryz.ntmps137
 go_wp2_with (first
  | (go_at_call 62;refine C1.mono ?_;rintro e w1 ⟨rfl,hw1⟩;subst hw1)
  | (go_at_call 63;refine C2.mono ?_;rintro e w2 ⟨rfl,h2⟩;have HP:=hid h2;clear h2)
  | (go_at_call 66;refine (HP.o.must _ _).mono ?_;rintro e w3 ⟨rfl,h3⟩;have HQ:=hid h3;clear h3))
 go_ret
 exact ⟨rfl,HQ.o⟩
end Go.Proofs.YtjikkhbcbfpocaaGreatDoor
