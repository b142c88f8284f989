import Derived.Test.YthfcanpkhjgomaaGreatVj
set_option maxRecDepth 100000
set_option maxHeartbeats 8000000
namespace Go.Proofs.YthfcanpkhjgomaaGreat
open Go.RowKit
structure Et where
 p:ByteArray
 v:Vd
 m:Md
def ec (e:Et):Array Value:=(Value.string e.p::(vx e.v++mx e.m)).toArray
theorem ec_size (e:Et):(ec e).size=40:=by simp [ec,jQ,ji]
theorem ec_one (e:Et):(ec e).all (·.oneCell')=true:=by
 have h:=vx_oneM e.v
 rw [Array.all_eq_true_iff_forall_mem] at h ⊢
 intro u hu
 simp only [ec,List.mem_toArray,List.mem_cons,List.mem_append] at hu
 rcases hu with rfl | hu | hu
 ·rfl
 ·exact h u (by simpa using hu)
 ·simp [mx] at hu
  rcases hu with rfl | rfl | rfl | rfl<;>rfl
def ez:Et:=⟨⟨#[]⟩,Vd.zero,Md.zero⟩
def z64:Array Value:=ec ez
theorem z64_size:z64.size=40:=ec_size _
theorem zero64:(Tryz.prog.info? 91).bind (·.zero)=some (.agg z64):=by kernel_rfl
theorem info64:(Tryz.prog.info? 91).map (fun i=>(i.zero,i.size,i.bytes))=some (some (.agg z64),40,104):=by kernel_rfl
theorem under64:Tryz.prog.underlying 91=some (.struct (Tryz.prog.fieldsOf 91)):=by kernel_rfl
theorem size64:(Tryz.prog.info? 91).map (·.size)=some 40:=by kernel_rfl
theorem places64:(Tryz.prog.fieldsOf 91).toList.mapM (fun f=>(Tryz.prog.info? f.type).map fun i=>(f.offset,i.size))=some [(0,1),(1,35),(36,4)]:=by kernel_rfl
theorem hz64:∃ z:List Value,(Tryz.prog.info? 91).bind (·.zero)=some (.agg (List.toArray z))∧z=.string ⟨#[]⟩::(vx Vd.zero++mx Md.zero):=⟨_,zero64,rfl⟩
open Ch in
theorem exec_slice64 {o:Oper} {a:Act} (x:Operand) (ho:o.op=.buildSlice 86 1 #[(0,x)]) (c:Array Value) (hx:a.eval x=.agg c) (hs:c.size=40) (w:World) (b:Nat) (hb:w.heap.size=b):
  (execOp a.eval o).run Tryz.prog w=.ok (.value (.slice (some ⟨b,0,none⟩) 1 1)) (w.alloc (.cells c 91)):=by
 subst hb
 obtain ⟨i0,hi,hz0,hz1,hz2⟩:=info_parts info64
 have hf:Instr.fill (fun i=>some (i*40,40)) ((Array.range (1*40)).map (z64[·%z64.size]!)) [(0,.agg c)]=some c:=by
  obtain ⟨z,hz,hzl⟩:∃ z:List Value,((Array.range (1*40)).map (z64[·%z64.size]!))=z.toArray∧z.length=40:=⟨((Array.range (1*40)).map (z64[·%z64.size]!)).toList,Array.toArray_toList.symm,by simp⟩
  rw [hz,Ch.fill_cons _ z 0 0 40 _ c.toList _ rfl (by simp [Value.cells]) (by simpa using hs) (by omega),Instr.fill]
  have hd:z.drop 40=[]:=List.drop_of_length_le (by omega)
  simp [Ch.over,hs,hd]
 have hsz:(sizeOf 91).run Tryz.prog w=.ok 40 w:=by simp [sizeOf,typeInfo,hi,hz1]
 have hzv:=Ch.run_zeroT 91 z64 zero64 w
 generalize z64=zz at hf hzv
 have hb:(Instr.buildSlice 86 1 #[(0,.agg c)]).run Tryz.prog w=.ok (.slice (some ⟨w.heap.size,0,none⟩) 1 1) (w.alloc (.cells c 91)):=by
  unfold Instr.buildSlice
  simp only [Sem.run_bind,run_underlying Tryz.underlying86,Result.andThen_ok,hsz]
  have h1:¬ (1*40 > 2 ^ 24):=by omega
  have h2:¬ (1*40=0):=by omega
  simp only [h1,h2,if_false,Sem.run_bind,Sem.run_pure,Result.andThen_ok,hzv,Value.cells,hf]
  rfl
 unfold execOp
 simp only [ho]
 have hmap:(#[(0,x)].map fun (p:Nat × Operand)=>match p with | (i,x)=>(i,a.eval x))=#[(0,.agg c)]:=by simp [hx]
 rw [hmap]
 simp only [Sem.run_bind,hb,Result.andThen_ok,Sem.run_pure]
theorem build64 (p:ByteArray) (v:Vd) (m:Md) (w:World):(Instr.build 91 #[(0,.string p),(1,.agg (vx v).toArray),(2,.agg (mx m).toArray)]).run Tryz.prog w=.ok (.agg (ec ⟨p,v,m⟩)) w:=by
 refine run_build w 91 _ _ ?_
 obtain ⟨z,hz,hl⟩:=hz64
 unfold Program.built
 cases hi:Tryz.prog.info? 91 with
 | none=>rw [hi] at hz;cases hz
 | some it=>
  rw [hi] at hz
  simp only [Option.bind_some] at hz
  simp only [under64,hz,places64]
  show Instr.fill _ (List.toArray _) _=_
  have h0:=jQ Vd.zero
  have h3:=ji Md.zero
  have h1:=jQ v
  have h2:=ji m
  have hz0:z.length=40:=by rw [hl];simp [h0,h3]
  rw [Ch.fill_cons _ _ 0 0 1 _ [.string p] _ rfl rfl rfl (by omega),Ch.fill_cons _ _ 1 1 35 _ (vx v) _ rfl rfl h1 (by simp [Ch.over,hz0]),Ch.fill_cons _ _ 2 36 4 _ (mx m) _ rfl rfl h2 (by simp [Ch.over,hz0,h1]),Instr.fill,hl]
  refine congrArg some (congrArg List.toArray ?_)
  have t1:∀ r:List Value,(vx v++r).take 35=vx v:=fun r=>by
   rw [List.take_append_of_le_length (by omega),List.take_of_length_le (by omega)]
  have t2:(vx Vd.zero++mx Md.zero).drop 35=mx Md.zero:=by
   rw [List.drop_append_of_le_length (by omega),List.drop_of_length_le (by omega),List.nil_append]
  have t3:(vx v++mx Md.zero).drop 39=[]:=List.drop_of_length_le (by simp [h3,h1])
  simp only [Ch.over,h1,h2,List.take_succ_cons,List.take_zero,List.cons_append,List.nil_append,List.drop_succ_cons,List.drop_zero,List.length_cons,List.length_nil,Nat.zero_add,Nat.reduceAdd,t2,t1,t3,List.append_nil]
theorem exec_build64 {o:Oper} {a:Act} (x y z:Operand) (ho:o.op=.build 91 #[(0,x),(1,y),(2,z)]) (p:ByteArray) (v:Vd) (m:Md) (hx:a.eval x=.string p) (hy:a.eval y=.agg (vx v).toArray) (hz:a.eval z=.agg (mx m).toArray) (w:World):(execOp a.eval o).run Tryz.prog w=.ok (.value (.agg (ec ⟨p,v,m⟩))) w:=by
 unfold execOp
 simp only [ho]
 have hmap:(#[(0,x),(1,y),(2,z)].map fun (p:Nat × Operand)=>match p with | (i,x)=>(i,a.eval x))=#[(0,.string p),(1,.agg (vx v).toArray),(2,.agg (mx m).toArray)]:=by simp [hx,hy,hz]
 rw [hmap]
 simp only [Sem.run_bind,build64 p v m w,Result.andThen_ok,Sem.run_pure]
def ecs (L:List Et):List Value:=Ch.flat ec L
theorem ecs_len (L:List Et):(ecs L).length=L.length*40:=Ch.flat_len ec_size L
def OwnsE (w:World) (lo:Nat) (u:Value) (L:List Et):Prop:=w.ownsRow lo 91 40 u L.length (ecs L)
theorem OwnsE.up {w w':World} {lo:Nat} {v:Value} {L:List Et} (h:OwnsE w lo v L) (hb:Below w.heap.size w w'):OwnsE w' lo v L:=World.ownsRow.kept h (Ch.grown_of hb) (by cases hv:v.ownBlock<;>simp)
theorem ecs_app (K L:List Et):ecs (K++L)=ecs K++ecs L:=Ch.flat_app _ K L
theorem OwnsE.at {w:World} {lo g n c:Nat} {L:List Et} (h:OwnsE w lo (.slice (some ⟨g,0,none⟩) n c) L) (j:Nat) (u:Value) (hj:(ecs L)[j]?=some u):w.cell? ⟨g,j,none⟩=some u:=by
 have h0:w.ownsRow lo 91 40 (.slice (some ⟨g,0,none⟩) L.length c) L.length (ecs L):=by
  obtain ⟨h1,h2⟩:=h
  refine ⟨h1,?_⟩
  rcases h2 with ⟨e,_⟩ | ⟨g',cap,cur,e,h3⟩
  ·cases e
  ·injection e with e1 e2 e3
   injection e1 with e1
   injection e1 with e1 _
   subst e1 e3
   exact .inr ⟨_,_,cur,rfl,h3⟩
 have hlt:=(List.getElem?_eq_some_iff.1 hj).1
 rw [ecs_len] at hlt
 rw [World.ownsRow.cellAt h0 j hlt]
 exact hj
theorem appE_run {w:World} {lo lo2 g n c:Nat} {v:Value} {R L:List Et} (ty:TypeId) (h:OwnsE w lo v R) (hs:OwnsE w lo2 (.slice (some ⟨g,0,none⟩) n c) L) (hn:L.length=n) (hb:lo≤w.heap.size) (hl:R.length+L.length≤100000):
  ∃ v' w',(Builtin.append_ #[86,86] ty #[v,.slice (some ⟨g,0,none⟩) n c]).run Tryz.prog w=.ok v' w'∧OwnsE w' lo v' (R++L)∧w.grownBy w' v.ownBlock:=by
 obtain ⟨i0,hi,hz0,hz1,hz2⟩:=info_parts info64
 subst hn
 obtain ⟨v',w',h1,h2,h3,h4,h5⟩:=run_append_own_at (P:=Tryz.prog) w lo 86 ty 91 i0 (.agg z64) 40 104 Tryz.underlying86 hi hz0 hz1 hz2 z64_size (by omega) v R.length (ecs R) h ⟨g,0,none⟩ L.length c (ecs L) (ecs_len L) (fun j u hj=>by
  rw [Addr.add_mid,Nat.zero_add];exact hs.at j u hj) (Ch.flat_one ec_one L) (by unfold maxLen;omega) (by omega) hb
 refine ⟨v',w',h1,?_,h3⟩
 unfold OwnsE
 rw [List.length_append,ecs_app]
 exact h2
def flatK (p:ByteArray):F→List Et
 | .nil=>[]
 | .cons nm v m k r=>(⟨belowS p nm,v,m⟩::flatK (belowS p nm) k)++flatK p r
theorem qN:∀ (f:F) (p:ByteArray),(flatK p f).length=f.size
 | .nil,_=>rfl
 | .cons nm v m k r,p=>by simp only [flatK,List.length_append,List.length_cons,qN k,qN r,F.size];omega
open Ch
noncomputable abbrev o74x5:Array Oper:=opsAt Tryz.f74 5
theorem backE:backB o74x5=true:=by kernel_rfl
theorem dstE:dstB o74x5 38=true:=by kernel_rfl
theorem sizeE:o74x5.size=17:=by kernel_rfl
theorem freeE1:freeB o74x5 1=true:=by kernel_rfl
theorem freeE2:freeB o74x5 2=true:=by kernel_rfl
theorem freeE6:freeB o74x5 6=true:=by kernel_rfl
theorem sE_0:say o74x5 0=some (some 21,.move (.tmp 5),none):=by kernel_rfl
theorem dE_0:slotB o74x5 0=some 21:=by kernel_rfl
theorem sE_1:say o74x5 1=some (some 22,.fieldAddr 30 (.tmp 2) 3,none):=by kernel_rfl
theorem dE_1:slotB o74x5 1=some 22:=by kernel_rfl
theorem sE_2:say o74x5 2=some (some 23,.load 28 (.tmp 22),none):=by kernel_rfl
theorem dE_2:slotB o74x5 2=some 23:=by kernel_rfl
theorem sE_3:say o74x5 3=some (some 24,.move (.tmp 6),none):=by kernel_rfl
theorem dE_3:slotB o74x5 3=some 24:=by kernel_rfl
theorem sE_4:say o74x5 4=some (some 25,.indexAddr 28 (.tmp 23) (.tmp 24),none):=by kernel_rfl
theorem dE_4:slotB o74x5 4=some 25:=by kernel_rfl
theorem sE_5:say o74x5 5=some (some 26,.load 30 (.tmp 25),none):=by kernel_rfl
theorem dE_5:slotB o74x5 5=some 26:=by kernel_rfl
theorem sE_6:say o74x5 6=some (some 27,.move (.tmp 1),none):=by kernel_rfl
theorem dE_6:slotB o74x5 6=some 27:=by kernel_rfl
theorem sE_7:say o74x5 7=some (some 28,.fieldAddr 30 (.tmp 2) 3,none):=by kernel_rfl
theorem dE_7:slotB o74x5 7=some 28:=by kernel_rfl
theorem sE_8:say o74x5 8=some (some 29,.load 28 (.tmp 28),none):=by kernel_rfl
theorem dE_8:slotB o74x5 8=some 29:=by kernel_rfl
theorem sE_9:say o74x5 9=some (some 30,.move (.tmp 6),none):=by kernel_rfl
theorem dE_9:slotB o74x5 9=some 30:=by kernel_rfl
theorem sE_10:say o74x5 10=some (some 31,.indexAddr 28 (.tmp 29) (.tmp 30),none):=by kernel_rfl
theorem dE_10:slotB o74x5 10=some 31:=by kernel_rfl
theorem sE_11:say o74x5 11=some (some 32,.fieldAddr 30 (.tmp 31) 0,none):=by kernel_rfl
theorem dE_11:slotB o74x5 11=some 32:=by kernel_rfl
theorem sE_12:say o74x5 12=some (some 33,.load 9 (.tmp 32),none):=by kernel_rfl
theorem dE_12:slotB o74x5 12=some 33:=by kernel_rfl
theorem sE_13:say o74x5 13=some (some 34,.call { callee:=.value (.func 109),args:=#[.tmp 27,.tmp 33],argTypes:=#[9,9] },none):=by kernel_rfl
theorem dE_13:slotB o74x5 13=some 34:=by kernel_rfl
theorem sE_14:say o74x5 14=some (some 35,.call { callee:=.value (.func 74),args:=#[.tmp 26,.tmp 34],argTypes:=#[30,9] },none):=by kernel_rfl
theorem dE_14:slotB o74x5 14=some 35:=by kernel_rfl
theorem sE_15:say o74x5 15=some (some 36,.call { callee:=.builtin .append,args:=#[.tmp 21,.tmp 35],argTypes:=#[86,86] },none):=by kernel_rfl
theorem dE_15:slotB o74x5 15=some 36:=by kernel_rfl
theorem sE_16:say o74x5 16=some (some 5,.assign (.tmp 36),none):=by kernel_rfl
theorem dE_16:slotB o74x5 16=some 5:=by kernel_rfl
structure Lr where
 u:Value
 v2:Value
 w2:World
 w3:World
def VE (B g o N cap k:Nat) (v:Value) (ck:Array Value) (p nm q:ByteArray) (r:Lr):Nat→Value
 | 0=>v
 | 1=>.pointer (some ⟨B,40,none⟩)
 | 2=>.slice (some ⟨g,o,none⟩) N cap
 | 3=>.int .i64 (k:Int)
 | 4=>.pointer (some ⟨g,o+k*41,none⟩)
 | 5=>.agg ck
 | 6=>.string p
 | 7=>.pointer (some ⟨B,40,none⟩)
 | 8=>.slice (some ⟨g,o,none⟩) N cap
 | 9=>.int .i64 (k:Int)
 | 10=>.pointer (some ⟨g,o+k*41,none⟩)
 | 11=>.pointer (some ⟨g,o+k*41,none⟩)
 | 12=>.string nm
 | 13=>.string q
 | 14=>r.u
 | 15=>r.v2
 | 16=>r.v2
 | _=>undef
def ME (v:Value) (F:Lr→Prop) (wr:World) (r:Lr) (done:Nat→Bool) (w:World):Prop:=(done 14=true→(Builtin.append_ #[86,86] 86 #[v,r.u]).run Tryz.prog r.w2=.ok r.v2 r.w3∧F r)∧w=(if done 15=true then r.w3 else if done 14=true then r.w2 else wr.drew)
theorem ME.step {v:Value} {F:Lr→Prop} {wr:World} {r:Lr} {done:Nat→Bool} {w:World} (h:ME v F wr r done w) {j:Nat} (h1:j≠14) (h2:j≠15):ME v F wr r (upd done j) w:=by
 unfold ME at *
 rw [upd_ne done (Ne.symm h1),upd_ne done (Ne.symm h2)]
 exact h
theorem regE (B g o N cap k:Nat) (v:Value) (ck:Array Value) (p nm q:ByteArray) (F:Lr→Prop) (t0:Array Value) (wr:World) {Q:Exit→Act→World→Prop} (ht:t0.size=38) (h1:t0.getD 1 undef=.string p) (h2:t0.getD 2 undef=.pointer (some ⟨B,0,none⟩)) (h6:t0.getD 6 undef=.int .i64 (k:Int)) (h5:t0.getD 5 undef=v)
  (hk:k<N) (c40:wr.cell? ⟨B,40,none⟩=some (.slice (some ⟨g,o,none⟩) N cap)) (lk:Lies wr g (o+k*41) ck) (sk:ck.size=41) (cn:wr.cell? ⟨g,o+k*41,none⟩=some (.string nm)) (hq:belowS p nm=q) (hp:p.size≤1000000) (hn:nm.size≤1000000)
  (hC:Calls Tryz.prog 74 #[.agg ck,.string q] wr.drew fun e w'=>∃ r:Lr,e=.returned r.u∧r.w2=w'∧(Builtin.append_ #[86,86] 86 #[v,r.u]).run Tryz.prog r.w2=.ok r.v2 r.w3∧F r)
  (hQ:∀ r,F r→Q .normal ⟨fold o74x5 (VE B g o N cap k v ck p nm q r) t0 17,[]⟩ r.w3) (r0:Lr):(Code.region 5 o74x5 true).wp Tryz.prog Q ⟨t0,[]⟩ wr:=by
 have hB:dstB o74x5 t0.size=true:=by rw [ht];exact dstE
 have kI:(k:Int)<(N:Int):=by omega
 have k0:(0:Int)≤(k:Int):=by omega
 refine jk (by kernel_rfl) (IE o74x5 (VE B g o N cap k v ck p nm q) t0 (ME v F wr)) backE ⟨r0,t0,rfl,⟨rfl,fun _ _=>rfl,fun _ _ _ _ _ h=>by cases h⟩,(fun h=>by cases h),by simp⟩ ?_ ?_
 rotate_left 1
 ·rintro done a w ⟨r,t,rfl,hS,hF,hw⟩ hall
  have a14:=hall 14 (by rw [sizeE];decide)
  have a15:=hall 15 (by rw [sizeE];decide)
  rw [a15,if_pos rfl] at hw
  rw [hS.end hB hall,sizeE,hw]
  exact hQ r (hF a14).2
 ·rintro jz op done a w ho ⟨r,t,rfl,hS,hM⟩ hnd hdep hcl
  have e1:t[1]?.getD undef=.string p:=(hS.old freeE1).trans h1
  have e2:t[2]?.getD undef=.pointer (some ⟨B,0,none⟩):=(hS.old freeE2).trans h2
  have e6:t[6]?.getD undef=.int .i64 (k:Int):=(hS.old freeE6).trans h6
  have hlt:jz<17:=by rw [← sizeE];exact (Array.getElem?_eq_some_iff.1 ho).1
  match jz,hlt,ho,hnd,hdep with
  | 0,_,ho,hnd,hdep=>
   obtain ⟨hd,hop,hgd⟩:=jC sE_0 ho
   have yt15:done 15=false:=jM (k:=0) (j:=15) (by kernel_rfl) hcl hnd
   have yt16:done 16=false:=jM (k:=15) (j:=16) (by kernel_rfl) hcl yt15
   have e5:t[5]?.getD undef=_:=(hS.yet hB dE_16 yt16).trans h5
   refine jK r hB ho (jB hgd) hd hS (hM.step (by decide) (by decide)) ?_
   unfold execOp
   simp only [hop]
   simp [e5,VE,go_sem]
  | 1,_,ho,hnd,hdep=>
   obtain ⟨hd,hop,hgd⟩:=jC sE_1 ho
   have ny2:done 2=false:=jM (k:=1) (j:=2) (by kernel_rfl) hcl hnd
   have ny4:done 4=false:=jM (k:=2) (j:=4) (by kernel_rfl) hcl ny2
   have ny5:done 5=false:=jM (k:=4) (j:=5) (by kernel_rfl) hcl ny4
   have ny14:done 14=false:=jM (k:=5) (j:=14) (by kernel_rfl) hcl ny5
   have ny15:done 15=false:=jM (k:=14) (j:=15) (by kernel_rfl) hcl ny14
   have hw0:w=wr.drew:=by rw [hM.2];simp [ny14,ny15]
   refine jK r hB ho (jB hgd) hd hS (hM.step (by decide) (by decide)) ?_
   unfold execOp
   simp only [hop]
   simp [e2,VE,go_sem]
  | 2,_,ho,hnd,hdep=>
   obtain ⟨hd,hop,hgd⟩:=jC sE_2 ho
   have x22:=hS.gt dE_1 ho hdep
   simp only [VE] at x22
   have ny4:done 4=false:=jM (k:=2) (j:=4) (by kernel_rfl) hcl hnd
   have ny5:done 5=false:=jM (k:=4) (j:=5) (by kernel_rfl) hcl ny4
   have ny14:done 14=false:=jM (k:=5) (j:=14) (by kernel_rfl) hcl ny5
   have ny15:done 15=false:=jM (k:=14) (j:=15) (by kernel_rfl) hcl ny14
   have hw0:w=wr.drew:=by rw [hM.2];simp [ny14,ny15]
   refine jK r hB ho (jB hgd) hd hS (hM.step (by decide) (by decide)) ?_
   subst hw0
   have c40d:wr.drew.cell? ⟨B,40,none⟩=some (.slice (some ⟨g,o,none⟩) N cap):=c40
   unfold execOp
   simp only [hop]
   simp [x22,c40d,VE,go_sem]
  | 3,_,ho,hnd,hdep=>
   obtain ⟨hd,hop,hgd⟩:=jC sE_3 ho
   have ny4:done 4=false:=jM (k:=3) (j:=4) (by kernel_rfl) hcl hnd
   have ny5:done 5=false:=jM (k:=4) (j:=5) (by kernel_rfl) hcl ny4
   have ny14:done 14=false:=jM (k:=5) (j:=14) (by kernel_rfl) hcl ny5
   have ny15:done 15=false:=jM (k:=14) (j:=15) (by kernel_rfl) hcl ny14
   have hw0:w=wr.drew:=by rw [hM.2];simp [ny14,ny15]
   refine jK r hB ho (jB hgd) hd hS (hM.step (by decide) (by decide)) ?_
   unfold execOp
   simp only [hop]
   simp [e6,VE,go_sem]
  | 4,_,ho,hnd,hdep=>
   obtain ⟨hd,hop,hgd⟩:=jC sE_4 ho
   have x23:=hS.gt dE_2 ho hdep
   simp only [VE] at x23
   have x24:=hS.gt dE_3 ho hdep
   simp only [VE] at x24
   have ny5:done 5=false:=jM (k:=4) (j:=5) (by kernel_rfl) hcl hnd
   have ny14:done 14=false:=jM (k:=5) (j:=14) (by kernel_rfl) hcl ny5
   have ny15:done 15=false:=jM (k:=14) (j:=15) (by kernel_rfl) hcl ny14
   have hw0:w=wr.drew:=by rw [hM.2];simp [ny14,ny15]
   refine jK r hB ho (jB hgd) hd hS (hM.step (by decide) (by decide)) ?_
   unfold execOp
   simp only [hop]
   simp [x23,x24,VE,kI,k0,Ch.addr_add,go_sem]
  | 5,_,ho,hnd,hdep=>
   obtain ⟨hd,hop,hgd⟩:=jC sE_5 ho
   have x25:=hS.gt dE_4 ho hdep
   simp only [VE] at x25
   have ny14:done 14=false:=jM (k:=5) (j:=14) (by kernel_rfl) hcl hnd
   have ny15:done 15=false:=jM (k:=14) (j:=15) (by kernel_rfl) hcl ny14
   have hw0:w=wr.drew:=by rw [hM.2];simp [ny14,ny15]
   refine jK r hB ho (jB hgd) hd hS (hM.step (by decide) (by decide)) ?_
   exact jH (a:=⟨t,[]⟩) _ hop g (o+k*41) (by show t.getD 25 undef=_;rw [Array.getD_eq_getD_getElem?];exact x25) ck sk (by rw [hw0];exact lk)
  | 6,_,ho,hnd,hdep=>
   obtain ⟨hd,hop,hgd⟩:=jC sE_6 ho
   have ny13:done 13=false:=jM (k:=6) (j:=13) (by kernel_rfl) hcl hnd
   have ny14:done 14=false:=jM (k:=13) (j:=14) (by kernel_rfl) hcl ny13
   have ny15:done 15=false:=jM (k:=14) (j:=15) (by kernel_rfl) hcl ny14
   have hw0:w=wr.drew:=by rw [hM.2];simp [ny14,ny15]
   refine jK r hB ho (jB hgd) hd hS (hM.step (by decide) (by decide)) ?_
   unfold execOp
   simp only [hop]
   simp [e1,VE,go_sem]
  | 7,_,ho,hnd,hdep=>
   obtain ⟨hd,hop,hgd⟩:=jC sE_7 ho
   have ny8:done 8=false:=jM (k:=7) (j:=8) (by kernel_rfl) hcl hnd
   have ny10:done 10=false:=jM (k:=8) (j:=10) (by kernel_rfl) hcl ny8
   have ny11:done 11=false:=jM (k:=10) (j:=11) (by kernel_rfl) hcl ny10
   have ny12:done 12=false:=jM (k:=11) (j:=12) (by kernel_rfl) hcl ny11
   have ny13:done 13=false:=jM (k:=12) (j:=13) (by kernel_rfl) hcl ny12
   have ny14:done 14=false:=jM (k:=13) (j:=14) (by kernel_rfl) hcl ny13
   have ny15:done 15=false:=jM (k:=14) (j:=15) (by kernel_rfl) hcl ny14
   have hw0:w=wr.drew:=by rw [hM.2];simp [ny14,ny15]
   refine jK r hB ho (jB hgd) hd hS (hM.step (by decide) (by decide)) ?_
   unfold execOp
   simp only [hop]
   simp [e2,VE,go_sem]
  | 8,_,ho,hnd,hdep=>
   obtain ⟨hd,hop,hgd⟩:=jC sE_8 ho
   have x28:=hS.gt dE_7 ho hdep
   simp only [VE] at x28
   have ny10:done 10=false:=jM (k:=8) (j:=10) (by kernel_rfl) hcl hnd
   have ny11:done 11=false:=jM (k:=10) (j:=11) (by kernel_rfl) hcl ny10
   have ny12:done 12=false:=jM (k:=11) (j:=12) (by kernel_rfl) hcl ny11
   have ny13:done 13=false:=jM (k:=12) (j:=13) (by kernel_rfl) hcl ny12
   have ny14:done 14=false:=jM (k:=13) (j:=14) (by kernel_rfl) hcl ny13
   have ny15:done 15=false:=jM (k:=14) (j:=15) (by kernel_rfl) hcl ny14
   have hw0:w=wr.drew:=by rw [hM.2];simp [ny14,ny15]
   refine jK r hB ho (jB hgd) hd hS (hM.step (by decide) (by decide)) ?_
   subst hw0
   have c40d:wr.drew.cell? ⟨B,40,none⟩=some (.slice (some ⟨g,o,none⟩) N cap):=c40
   unfold execOp
   simp only [hop]
   simp [x28,c40d,VE,go_sem]
  | 9,_,ho,hnd,hdep=>
   obtain ⟨hd,hop,hgd⟩:=jC sE_9 ho
   have ny10:done 10=false:=jM (k:=9) (j:=10) (by kernel_rfl) hcl hnd
   have ny11:done 11=false:=jM (k:=10) (j:=11) (by kernel_rfl) hcl ny10
   have ny12:done 12=false:=jM (k:=11) (j:=12) (by kernel_rfl) hcl ny11
   have ny13:done 13=false:=jM (k:=12) (j:=13) (by kernel_rfl) hcl ny12
   have ny14:done 14=false:=jM (k:=13) (j:=14) (by kernel_rfl) hcl ny13
   have ny15:done 15=false:=jM (k:=14) (j:=15) (by kernel_rfl) hcl ny14
   have hw0:w=wr.drew:=by rw [hM.2];simp [ny14,ny15]
   refine jK r hB ho (jB hgd) hd hS (hM.step (by decide) (by decide)) ?_
   unfold execOp
   simp only [hop]
   simp [e6,VE,go_sem]
  | 10,_,ho,hnd,hdep=>
   obtain ⟨hd,hop,hgd⟩:=jC sE_10 ho
   have x29:=hS.gt dE_8 ho hdep
   simp only [VE] at x29
   have x30:=hS.gt dE_9 ho hdep
   simp only [VE] at x30
   have ny11:done 11=false:=jM (k:=10) (j:=11) (by kernel_rfl) hcl hnd
   have ny12:done 12=false:=jM (k:=11) (j:=12) (by kernel_rfl) hcl ny11
   have ny13:done 13=false:=jM (k:=12) (j:=13) (by kernel_rfl) hcl ny12
   have ny14:done 14=false:=jM (k:=13) (j:=14) (by kernel_rfl) hcl ny13
   have ny15:done 15=false:=jM (k:=14) (j:=15) (by kernel_rfl) hcl ny14
   have hw0:w=wr.drew:=by rw [hM.2];simp [ny14,ny15]
   refine jK r hB ho (jB hgd) hd hS (hM.step (by decide) (by decide)) ?_
   unfold execOp
   simp only [hop]
   simp [x29,x30,VE,kI,k0,Ch.addr_add,go_sem]
  | 11,_,ho,hnd,hdep=>
   obtain ⟨hd,hop,hgd⟩:=jC sE_11 ho
   have x31:=hS.gt dE_10 ho hdep
   simp only [VE] at x31
   have ny12:done 12=false:=jM (k:=11) (j:=12) (by kernel_rfl) hcl hnd
   have ny13:done 13=false:=jM (k:=12) (j:=13) (by kernel_rfl) hcl ny12
   have ny14:done 14=false:=jM (k:=13) (j:=14) (by kernel_rfl) hcl ny13
   have ny15:done 15=false:=jM (k:=14) (j:=15) (by kernel_rfl) hcl ny14
   have hw0:w=wr.drew:=by rw [hM.2];simp [ny14,ny15]
   refine jK r hB ho (jB hgd) hd hS (hM.step (by decide) (by decide)) ?_
   unfold execOp
   simp only [hop]
   simp [x31,VE,go_sem]
  | 12,_,ho,hnd,hdep=>
   obtain ⟨hd,hop,hgd⟩:=jC sE_12 ho
   have x32:=hS.gt dE_11 ho hdep
   simp only [VE] at x32
   have ny13:done 13=false:=jM (k:=12) (j:=13) (by kernel_rfl) hcl hnd
   have ny14:done 14=false:=jM (k:=13) (j:=14) (by kernel_rfl) hcl ny13
   have ny15:done 15=false:=jM (k:=14) (j:=15) (by kernel_rfl) hcl ny14
   have hw0:w=wr.drew:=by rw [hM.2];simp [ny14,ny15]
   refine jK r hB ho (jB hgd) hd hS (hM.step (by decide) (by decide)) ?_
   subst hw0
   have cnd:wr.drew.cell? ⟨g,o+k*41,none⟩=some (.string nm):=cn
   unfold execOp
   simp only [hop]
   simp [x32,cnd,VE,go_sem]
  | 13,_,ho,hnd,hdep=>
   obtain ⟨hd,hop,hgd⟩:=jC sE_13 ho
   have x27:=hS.gt dE_6 ho hdep
   simp only [VE] at x27
   have x33:=hS.gt dE_12 ho hdep
   simp only [VE] at x33
   have ny14:done 14=false:=jM (k:=13) (j:=14) (by kernel_rfl) hcl hnd
   have ny15:done 15=false:=jM (k:=14) (j:=15) (by kernel_rfl) hcl ny14
   have hw0:w=wr.drew:=by rw [hM.2];simp [ny14,ny15]
   refine qI r 109 #[.string p,.string nm] hB ho (jB hgd) hd hS ?_ ?_
   ·skip
    unfold execOp
    simp only [hop]
    simp [x27,x33,go_sem]
   ·exact (below13_any p nm w hp hn).mono fun e w2 h=>⟨r,by rw [h.1,hq];rfl,fun _ _=>rfl,h.2 ▸ hM.step (by decide) (by decide)⟩
  | 14,_,ho,hnd,hdep=>
   obtain ⟨hd,hop,hgd⟩:=jC sE_14 ho
   have x26:=hS.gt dE_5 ho hdep
   simp only [VE] at x26
   have x34:=hS.gt dE_13 ho hdep
   simp only [VE] at x34
   have ny15:done 15=false:=jM (k:=14) (j:=15) (by kernel_rfl) hcl hnd
   have ny16:done 16=false:=jM (k:=15) (j:=16) (by kernel_rfl) hcl ny15
   have hw0:w=wr.drew:=by rw [hM.2];simp [hnd,ny15]
   refine qI r 74 #[.agg ck,.string q] hB ho (jB hgd) hd hS ?_ ?_
   ·skip
    unfold execOp
    simp only [hop]
    simp [x26,x34,go_sem]
   ·rw [hw0]
    refine hC.mono ?_
    rintro e w' ⟨r',rfl,rfl,hr,hF⟩
    refine ⟨r',rfl,fun k hk=>?_,fun _=>⟨hr,hF⟩,by simp [upd,ny15]⟩
    have h1:k≠14:=fun e=>by rw [e,hnd] at hk;cases hk
    have h2:k≠15:=fun e=>by rw [e,ny15] at hk;cases hk
    have h3:k≠16:=fun e=>by rw [e,ny16] at hk;cases hk
    unfold VE
    split<;>first | rfl | exact absurd rfl h1 | exact absurd rfl h2 | exact absurd rfl h3
  | 15,_,ho,hnd,hdep=>
   obtain ⟨hd,hop,hgd⟩:=jC sE_15 ho
   have x21:=hS.gt dE_0 ho hdep
   simp only [VE] at x21
   have x35:=hS.gt dE_14 ho hdep
   simp only [VE] at x35
   have a14:done 14=true:=waits (j:=14) (by kernel_rfl) ho hdep
   have hw0:w=r.w2:=by rw [hM.2];simp [hnd,a14]
   subst hw0
   refine jK (w':=r.w3) r hB ho (jB hgd) hd hS ⟨fun _=>hM.1 a14,by simp [upd]⟩ ?_
   unfold execOp
   have ht2:op.type=86:=by have:=congrArg (·.map (·.type)) ho;simpa using this.symm.trans (show _=some 86 from by kernel_rfl)
   simp only [hop,ht2,resolve,invoke,builtin,Sem.run_bind,Sem.run_pure,Result.andThen_ok,List.map_toArray,List.map_cons,List.map_nil]
   have ex:(Act.mk t []).eval (.tmp 21)=v:=(by show t.getD 21 undef=_;rw [Array.getD_eq_getD_getElem?];exact x21)
   have ey:(Act.mk t []).eval (.tmp 35)=r.u:=(by show t.getD 35 undef=_;rw [Array.getD_eq_getD_getElem?];exact x35)
   rw [ex,ey,(hM.1 a14).1]
   rfl
  | 16,_,ho,hnd,hdep=>
   obtain ⟨hd,hop,hgd⟩:=jC sE_16 ho
   have x36:=hS.gt dE_15 ho hdep
   simp only [VE] at x36
   refine jK r hB ho (jB hgd) hd hS (hM.step (by decide) (by decide)) ?_
   unfold execOp
   simp only [hop]
   simp [x36,VE,go_sem]
theorem foldE (B g o N cap k:Nat) (v:Value) (ck:Array Value) (p nm q:ByteArray) (r:Lr) (t0:Array Value):fold o74x5 (VE B g o N cap k v ck p nm q r) t0 17=(((((((((((((((((t0.setIfInBounds 21 (v)).setIfInBounds 22 (.pointer (some ⟨B,40,none⟩))).setIfInBounds 23 (.slice (some ⟨g,o,none⟩) N cap)).setIfInBounds 24 (.int .i64 (k:Int))).setIfInBounds 25 (.pointer (some ⟨g,o+k*41,none⟩))).setIfInBounds 26 (.agg ck)).setIfInBounds 27 (.string p)).setIfInBounds 28 (.pointer (some ⟨B,40,none⟩))).setIfInBounds 29 (.slice (some ⟨g,o,none⟩) N cap)).setIfInBounds 30 (.int .i64 (k:Int))).setIfInBounds 31 (.pointer (some ⟨g,o+k*41,none⟩))).setIfInBounds 32 (.pointer (some ⟨g,o+k*41,none⟩))).setIfInBounds 33 (.string nm)).setIfInBounds 34 (.string q)).setIfInBounds 35 (r.u)).setIfInBounds 36 (r.v2)).setIfInBounds 5 (r.v2)):=by kernel_rfl
def FlatOk (ks:F):Prop:=∀ (nm:ByteArray) (v:Vd) (m:Md) (c:Array Value) (w:World) (p:ByteArray),HasN w c nm v m ks→p.size+ks.weight≤90000→
  Calls Tryz.prog 74 #[.agg c,.string p] w fun e w'=>∃ g n cap,e=.returned (.slice (some ⟨g,0,none⟩) n cap)∧OwnsE w' w.heap.size (.slice (some ⟨g,0,none⟩) n cap) (⟨p,v,m⟩::flatK p ks)∧Below w.heap.size w w'
theorem row_low {w:World} {lo lo' e s n:Nat} {v:Value} {xs:List Value} (h:w.ownsRow lo e s v n xs) (hb:lo'≤lo):w.ownsRow lo' e s v n xs:=by
 obtain ⟨h1,h2⟩:=h
 exact ⟨h1,h2.imp id fun ⟨g,cap,cur,e,h3,r⟩=>⟨g,cap,cur,e,by omega,r⟩⟩
theorem belowS_size (p nm:ByteArray):(belowS p nm).size≤p.size+1+nm.size:=by
 unfold belowS
 split
 ·omega
 ·rw [ByteArray.size_append,ByteArray.size_append]
  show p.size+1+nm.size≤_
  omega
theorem OwnsE.some {w:World} {lo:Nat} {u:Value} {e:Et} {L:List Et} (h:OwnsE w lo u (e::L)):∃ g c,u=.slice (some ⟨g,0,none⟩) (L.length+1) c:=by
 obtain ⟨_,⟨_,e⟩ | ⟨g,cap,cur,hv,_⟩⟩:=h
 ·simp at e
 ·exact ⟨g,cap,hv⟩
theorem take_snoc:∀ (f:F) (k:Nat) {nm:ByteArray} {v:Vd} {m:Md} {ks:F},f.drop k=.cons nm v m ks (f.drop (k+1))→f.take (k+1)=(f.take k).app (.cons nm v m ks .nil)
 | .nil,0,_,_,_,_,h=>by simp [F.drop] at h
 | .nil,k+1,_,_,_,_,h=>by simp [F.drop] at h
 | .cons a b c d r,0,_,_,_,_,h=>by
  simp only [F.drop,F.cons.injEq] at h
  obtain ⟨rfl,rfl,rfl,rfl,_⟩:=h
  simp [F.take,F.app]
 | .cons a b c d r,k+1,_,_,_,_,h=>by
  have:=take_snoc r k (by simpa [F.drop] using h)
  rw [F.take,this]
  simp [F.take,F.app]
theorem flatK_app (p:ByteArray):∀ f g:F,flatK p (f.app g)=flatK p f++flatK p g
 | .nil,_=>rfl
 | .cons nm v m k r,g=>by rw [F.app,flatK,flatK,flatK_app p r g,List.append_assoc]
theorem flat_any:∀ (Z:Nat) (ks:F),ks.size<Z→FlatOk ks:=by
 intro Z
 induction Z with
 | zero=>intro f h;omega
 | succ Z ih=>
  intro ks hZ nm v m c w p ⟨kv,hc,hS⟩ hw
  obtain ⟨a,cap,rfl,_⟩:=hS.form
  obtain ⟨N,hN⟩:∃ N,ks.len=N:=⟨_,rfl⟩
  have hN2:N≤100000:=by have:=ks.len_le_size;have:=F.size_le_weight ks;omega
  rw [hN] at hc
  have hsz:c.size=41:=by rw [hc];exact jZ ..
  obtain ⟨B,hB⟩:∃ B,w.heap.size=B:=⟨_,rfl⟩
  obtain ⟨w1,hw1⟩:∃ w1,w.alloc (.cells c 30)=w1:=⟨_,rfl⟩
  have g1:Below w.heap.size w w1:=by rw [← hw1];exact (Below.refl _ w).alloc (Nat.le_refl _) _
  have s1:w1.heap.size=B+1:=by rw [← hw1];simp [hB]
  have v1:w1.heap[B]?=some (.cells c 30 (0,0)):=by rw [← hw1,← hB];exact heap_alloc_new _ _
  have l1:Lies w1 B 0 c:=fun j u hj=>by rw [Nat.zero_add];exact (cell_of_row _ _ j _ _ _ v1).trans hj
  obtain ⟨X,hX⟩:∃ X,(vx v).toArray=X:=⟨_,rfl⟩
  obtain ⟨Y,hY⟩:∃ Y,(mx m).toArray=Y:=⟨_,rfl⟩
  have lX:Lies w1 B 1 X:=by have:=l1.part 1 36;rw [hc,nc_val,hX,Nat.zero_add] at this;exact this
  have lY:Lies w1 B 36 Y:=by have:=l1.part 36 40;rw [hc,nc_marks,hY,Nat.zero_add] at this;exact this
  have HX:Hid ((vx v).toArray=X∧X.size=35∧(mx m).toArray=Y∧Y.size=4∧Lies w1 B 1 X∧Lies w1 B 36 Y):=⟨hX,by rw [← hX];simp [jQ],hY,by rw [← hY];simp [ji],lX,lY⟩
  obtain ⟨W,hW⟩:∃ W,ec ⟨p,v,m⟩=W:=⟨_,rfl⟩
  have HW:Hid (ec ⟨p,v,m⟩=W∧W.size=40):=⟨hW,by rw [← hW];exact ec_size _⟩
  obtain ⟨w2,hw2⟩:∃ w2,w1.alloc (.cells W 91)=w2:=⟨_,rfl⟩
  have g2:Below w1.heap.size w1 w2:=by rw [← hw2];exact (Below.refl _ w1).alloc (Nat.le_refl _) _
  have o2:OwnsE w2 (B+1) (.slice (some ⟨B+1,0,none⟩) 1 1) [⟨p,v,m⟩]:=by
   refine ⟨by rw [ecs_len],.inr ⟨B+1,1,W,rfl,by omega,?_,Nat.le_refl _,by unfold maxLen;omega,by rw [HW.out.2],?_⟩⟩
   ·rw [← hw2,← s1];exact heap_alloc_new _ _
   ·rw [List.take_of_length_le (by simp [HW.out.2])];simp [ecs,Ch.flat,← hW]
  have v2:w2.heap[B]?=some (.cells c 30 (0,0)):=(g2.block B (by omega)).trans v1
  have H2:Hid (Below w.heap.size w w2∧w2.heap[B]?=some (.cells c 30 (0,0))∧OwnsE w2 (B+1) (.slice (some ⟨B+1,0,none⟩) 1 1) (⟨p,v,m⟩::flatK p (ks.take 0))):=⟨Below.trans g1 (g2.mono g1.size),v2,by rw [F.take_zero];exact o2⟩
  have HS:=hid (And.intro hS (And.intro hN (And.intro hZ (And.intro hw hc))))
  have HIH:=hid ih
  clear hc hS hN hZ ih g1 v1 l1 lX lY hX hY hW g2 o2 v2
  go_enter Tryz.func74,Tryz.ntmps74
  go_upto_region 2 with (first
   | ((with_reducible refine jA (.agg X) ?_ ?_ ?_);exact Ch.exec_load 24 _ rfl B 1 rfl X _ HX.out.2.2.2.2.1 under24v rfl (by rw [size24v,HX.out.2.1]);kernel_rfl)
   | ((with_reducible refine jA (.agg Y) ?_ ?_ ?_);exact jO _ rfl B 36 rfl Y HX.out.2.2.2.1 HX.out.2.2.2.2.2;kernel_rfl)
   | ((with_reducible refine jA (.agg W) ?_ ?_ ?_);exact (by rw [← HW.out.1];exact exec_build64 _ _ _ rfl p v m rfl (by rw [HX.out.1];rfl) (by rw [HX.out.2.2.1];rfl) _);kernel_rfl)
   | ((with_reducible refine jJ (.slice (some ⟨B+1,0,none⟩) 1 1) (w1.alloc (.cells W 91)) ?_ ?_ ?_);exact exec_slice64 _ rfl W rfl HW.out.2 _ _ s1;kernel_rfl))
  clear hw1 hw2 s1
  go_wp2
  go_loopg [5,6] N (fun gh u i wr=>∃ k:Nat,k≤N∧gh=N-k∧i=.int .i64 (k:Int)∧Hid (Below w.heap.size w wr∧wr.heap[B]?=some (.cells c 30 (0,0))∧OwnsE wr (B+1) u (⟨p,v,m⟩::flatK p (ks.take k))))
  case atStart=>exact ⟨0,Nat.zero_le _,rfl,rfl,H2.out⟩
  case round=>
   clear H2
   obtain ⟨k,hk,rfl,rfl,HI⟩:=hrel
   have q40:wr.cell? ⟨B,40,none⟩=some (.slice a N cap):=(cell_of_row _ _ 40 _ _ _ HI.out.2.1).trans (by rw [HS.out.2.2.2.2];exact qB ..)
   obtain ⟨g0,c0,hu⟩:=HI.out.2.2.some
   subst hu
   by_cases hlt:k<N
   ·have i1:(k:Int)<(N:Int):=by omega
    obtain ⟨g2,o2,cp,nm1,v1,m1,ks1,c1,hv1,hd1,hN1,hc1⟩:=HS.out.1.at (k:=k) (by rw [HS.out.2.1];exact hlt)
    obtain rfl:a=some ⟨g2,o2,none⟩:=by injection hv1
    clear hv1
    have hksz:=F.kids_size hd1
    have hwt:1+nm1.size+ks1.weight≤ks.weight:=by
     have h2:=congrArg F.weight (F.jw ks k)
     rw [F.app_weight,hd1,F.weight] at h2
     omega
    have hww:=HS.out.2.2.2.1
    have hts:=take_snoc ks k hd1
    have hbs:=belowS_size p nm1
    have cn:wr.cell? ⟨g2,o2+k*41,none⟩=some (.string nm1):=by
     obtain ⟨kv1,e1,_⟩:=hN1
     have:=hc1 0 (.string nm1) (by rw [e1];simp [nc])
     exact (HI.out.1.cell (World.block_lt_of_cell? w _ this)).trans this
    have lk:Lies wr g2 (o2+k*41) c1:=fun j u hj=>(HI.out.1.cell (World.block_lt_of_cell? w _ (hc1 j u hj))).trans (hc1 j u hj)
    have sk:c1.size=41:=by obtain ⟨_,rfl,_⟩:=hN1;exact jZ ..
    have gd:Below wr.heap.size wr wr.drew:=(Below.refl _ wr).drew
    have CC:=HIH.out ks1 (by have:=HS.out.2.2.1;omega) nm1 v1 m1 c1 wr.drew (belowS p nm1) ((hN1.below HI.out.1).below gd) (by omega)
    have hsum:(ks.take k).size+ks1.size+1≤90000:=by
     have h2:=congrArg F.size (F.jw ks k)
     have h3:=F.size_le_weight ks
     rw [F.app_size,hd1,F.size] at h2
     omega
    go_upto_region 5 with fail
    refine regE B g2 o2 N cap k _ c1 p nm1 (belowS p nm1) (fun r=>Below w.heap.size w r.w3∧r.w3.heap[B]?=some (.cells c 30 (0,0))∧OwnsE r.w3 (B+1) r.v2 (⟨p,v,m⟩::flatK p (ks.take (k+1)))) _ wr rfl rfl rfl rfl rfl hlt q40 lk sk cn rfl (by omega) (by omega) ?_ ?_ ⟨undef,undef,wr,wr⟩
    ·refine CC.mono ?_
     rintro e w' ⟨g,n,cq,rfl,ow,bl⟩
     have b1:Below wr.heap.size wr w':=Below.trans gd (bl.mono gd.size)
     have ou:=HI.out.2.2.up b1
     obtain ⟨gq,cc2,hn⟩:=ow.some
     have hn2:(⟨belowS p nm1,v1,m1⟩::flatK (belowS p nm1) ks1:List Et).length=n:=by injection hn with _ e2 _;rw [e2];simp
     obtain ⟨v',w3,hr,o3,gr⟩:=appE_run 86 ou ow hn2 (by have:=HI.out.1.size;have:=b1.size;have:=(Array.getElem?_eq_some_iff.1 HI.out.2.1).1;omega) (by simp only [List.length_cons,qN];omega)
     refine ⟨⟨_,v',w',w3⟩,rfl,rfl,hr,?_,?_,?_⟩
     ·have s0:=HI.out.1.size
      have s1:=b1.size
      refine ⟨gr.os.trans (b1.os.trans HI.out.1.os),gr.tape.trans (b1.tape.trans HI.out.1.tape),gr.output.trans (b1.output.trans HI.out.1.output),Nat.le_trans s0 (Nat.le_trans s1 gr.size),fun b hb=>(gr.block b (by omega) (fun e=>?_)).trans ((b1.block b (by omega)).trans (HI.out.1.block b hb))⟩
      have:=(World.ownsRow.lt ou b e.symm).1
      omega
     ·have hBl:=(Array.getElem?_eq_some_iff.1 HI.out.2.1).1
      refine (gr.block B (by have:=b1.size;omega) (fun e=>?_)).trans ((b1.block B hBl).trans HI.out.2.1)
      have:=(World.ownsRow.lt ou B e.symm).1
      omega
     ·rw [hts,flatK_app,flatK,flatK,List.append_nil]
      exact o3
    ·intro r hF
     have HE:=hid hF
     rw [foldE]
     clear hF CC HI q40 lk sk cn gd hd1 hN1 hc1 hts hsum hbs hwt hksz
     go_simp
     go_wp2
     go_roundg (N-(k+1))
     case measure=>omega
     case rel=>exact ⟨k+1,by omega,rfl,by go_num,HE.out⟩
   ·obtain rfl:k=N:=by omega
    have i1:¬ ((k:Int)<(k:Int)):=by omega
    have HF:Hid (Below w.heap.size w wr∧OwnsE wr w.heap.size (.slice (some ⟨g0,0,none⟩) ((flatK p (ks.take k)).length+1) c0) (⟨p,v,m⟩::flatK p ks)):=by
     refine ⟨HI.out.1,?_⟩
     have h:=HI.out.2.2
     have e:=F.take_all ks k (by rw [HS.out.2.1];exact Nat.le_refl _)
     rw [e] at h ⊢
     exact row_low h (by omega)
    clear HI
    go_wp2
    go_ret
    have hf:=HF.out
    rw [hB] at hf
    exact ⟨_,_,_,rfl,hf.2,hf.1⟩
theorem flat20_any (nm:ByteArray) (v:Vd) (m:Md) (ks:F) (c:Array Value) (w:World) (hN:HasN w c nm v m ks) (hw:ks.weight≤90000):
  Calls Tryz.prog 32 #[.agg c] w fun e w'=>∃ g n cap,e=.returned (.slice (some ⟨g,0,none⟩) n cap)∧OwnsE w' w.heap.size (.slice (some ⟨g,0,none⟩) n cap) (⟨⟨#[]⟩,v,m⟩::flatK ⟨#[]⟩ ks)∧Below w.heap.size w w':=by
 obtain ⟨B,hB⟩:∃ B,w.heap.size=B:=⟨_,rfl⟩
 obtain ⟨w1,hw1⟩:∃ w1,w.alloc (.cells c 30)=w1:=⟨_,rfl⟩
 have g1:Below w.heap.size w w1:=by rw [← hw1];exact (Below.refl _ w).alloc (Nat.le_refl _) _
 have v1:w1.heap[B]?=some (.cells c 30 (0,0)):=by rw [← hw1,← hB];exact heap_alloc_new _ _
 have HL:Hid (Lies w1 B 0 c∧c.size=41):=⟨fun j u hj=>by rw [Nat.zero_add];exact (cell_of_row _ _ j _ _ _ v1).trans hj,by obtain ⟨_,rfl,_⟩:=hN;exact jZ ..⟩
 have CC:=hid (flat_any (ks.size+1) ks (by omega) nm v m c w1 ⟨#[]⟩ (hN.below g1) (by show 0+ks.weight≤90000;omega))
 have HG:=hid g1
 clear hN g1 v1
 go_enter Tryz.func32,Tryz.ntmps32
 go_wp2_with (first
  | ((with_reducible refine jA (.agg c) ?_ ?_ ?_);exact jH _ rfl B 0 rfl c HL.out.2 HL.out.1;kernel_rfl)
  | (go_at_call 74;refine CC.out.mono ?_;rintro e w2 ⟨g,n,cap,rfl,ow,bl⟩))
 go_ret
 have g1:=HG.out
 have ow2:=row_low ow (lo':=w.heap.size) g1.size
 have bl2:Below w.heap.size w w2:=Below.trans g1 (bl.mono g1.size)
 first
  | exact ⟨g,n,cap,rfl,ow2,bl2⟩
  | (rw [hB] at ow2 bl2;exact ⟨g,n,cap,rfl,ow2,bl2⟩)
def goodN:F→Prop
 | .nil=>True
 | .cons nm _ _ k r=>nameB (tl nm)=true∧goodN k∧goodN r
theorem own_kind {v:Vd} {m:Md} {b:Bool} (h:ownE v m b=0):v≠DO.vz:=by
 rintro rfl
 unfold ownE at h
 rw [if_pos (by decide)] at h
 cases h
theorem bl_below:∀ a b:By,Op.bytesLess a b=belowL a b
 | [],[]=>rfl
 | [],_::_=>rfl
 | _::_,[]=>rfl
 | x::a,y::b=>by
  have ih:=bl_below a b
  unfold Op.bytesLess belowL
  by_cases e:x=y
  ·subst e
   simp [ih]
  ·simp [e,UInt8.lt_iff_toNat_lt]
theorem fault_none:∀ (f:F) (prev:Option ByteArray) (L:List ByteArray),faultF f prev L=none→DO.Rise f∧goodN f∧∀ p,prev=some p→∀ x∈DO.nms f,belowL (tl p) x=true
 | .nil,_,_,_=>⟨trivial,trivial,fun _ _ _ h=>by cases h⟩
 | .cons nm v m k r,prev,L,h=>by
  rw [faultF] at h
  by_cases h1:placeE prev nm (L.length+1)≠0
  ·rw [if_pos h1] at h;cases h
  ·rw [if_neg h1] at h
   by_cases h2:ownE v m (decide (0<k.len))≠0
   ·rw [if_pos h2] at h;cases h
   ·rw [if_neg h2] at h
    cases hk:faultF k none (L++[nm]) with
    | some x=>rw [hk] at h;cases h
    | none=>
     rw [hk] at h
     obtain ⟨a1,a2,_⟩:=fault_none k none _ hk
     obtain ⟨b1,b2,b3⟩:=fault_none r (some nm) L h
     have h1':placeE prev nm (L.length+1)=0:=by simpa using h1
     have hv:=own_kind (by simpa using h2:ownE v m (decide (0<k.len))=0)
     unfold placeE at h1'
     split at h1'
     ·cases h1'
     ·split at h1'
      ·cases h1'
      ·rename_i hn
       split at h1'
       ·cases h1'
       ·rename_i hle
        refine ⟨⟨hv,a1,b1,b3 nm rfl⟩,⟨by simpa using hn,a2,b2⟩,fun p hp x hx=>?_⟩
        subst hp
        have hlt:belowL (tl p) (tl nm)=true:=by
         have h9:leB nm p=false:=by simpa [leP] using hle
         rw [leB_geq] at h9
         rw [← bl_below]
         simpa using h9
        rcases List.mem_cons.1 hx with rfl | hx
        ·exact hlt
        ·exact DO.below_trans hlt (b3 nm rfl x hx)
theorem fault_nz:∀ (f:F) (prev:Option ByteArray) (L P:List ByteArray) (e:Int),faultF f prev L=some (P,e)→e≠0
 | .nil,_,_,_,_,h=>by cases h
 | .cons nm v m k r,prev,L,P,e,h=>by
  rw [faultF] at h
  by_cases h1:placeE prev nm (L.length+1)≠0
  ·rw [if_pos h1] at h
   injection h with h
   injection h with _ h
   rw [← h]
   exact h1
  ·rw [if_neg h1] at h
   by_cases h2:ownE v m (decide (0<k.len))≠0
   ·rw [if_pos h2] at h
    injection h with h
    injection h with _ h
    rw [← h]
    exact h2
   ·rw [if_neg h2] at h
    cases hk:faultF k none (L++[nm]) with
    | some x=>
     rw [hk] at h
     obtain ⟨P',e'⟩:=x
     injection h with h
     injection h with _ h
     rw [← h]
     exact fault_nz k _ _ _ _ hk
    | none=>
     rw [hk] at h
     exact fault_nz r _ _ _ _ h
theorem check_rise {v:Vd} {m:Md} {ks:F} (h:checkE v m ks=0):DO.Rise ks∧goodN ks:=by
 unfold checkE at h
 have hn:faultN v m ks []=none:=by
  cases hf:faultN v m ks [] with
  | none=>rfl
  | some x=>
   obtain ⟨P,e⟩:=x
   rw [hf] at h
   exfalso
   unfold faultN at hf
   split at hf
   ·rename_i h1
    injection hf with hf
    injection hf with _ hf
    exact h1 (hf.trans h)
   ·exact fault_nz _ _ _ _ _ hf h
 unfold faultN at hn
 split at hn
 ·cases hn
 ·obtain ⟨h1,h2,_⟩:=fault_none ks none [] hn
  exact ⟨h1,h2⟩
def goodL (L:List By):Prop:=∀ x∈L,nameB x=true
theorem qA {L:List By} (h:goodL L):pieces (joinL L)=L:=by
 cases L with
 | nil=>rfl
 | cons x L=>
  have hx:∀ p∈x::L,1≤p.length∧∀ y∈p,y≠47:=fun p hp=>by
   have:=h p hp
   unfold nameB at this
   simp only [decide_eq_true_eq] at this
   exact ⟨this.1,fun y hy=>(this.2.2.2.2 y hy).1⟩
  unfold pieces
  rw [if_neg ?_,cuts_join (by simp) fun p hp=>(hx p hp).2]
  intro e
  have h1:=(hx x (by simp)).1
  have:(joinL (x::L)).length=0:=by rw [e];rfl
  cases L with
  | nil=>simp only [joinL] at this;omega
  | cons y L=>simp only [joinL,List.length_append,List.length_cons] at this;omega
theorem cmpL_join {L M:List By} (h1:goodL L) (h2:goodL M):cmpL (joinL L) (joinL M)=cmpP L M:=by
 rw [← cmpP_pieces,qA h1,qA h2]
def Tells (e:Et) (d:DO.Ent):Prop:=e.p=ofB (joinL d.p)∧e.v=d.v∧goodL d.p
inductive Tells2:List Et→List DO.Ent→Prop
 | nil:Tells2 [] []
 | cons {e d a b} (h:Tells e d) (t:Tells2 a b):Tells2 (e::a) (d::b)
theorem Tells2.append {a a' b b'} (h:Tells2 a b) (k:Tells2 a' b'):Tells2 (a++a') (b++b'):=by
 induction h with
 | nil=>exact k
 | cons h _ ih=>exact .cons h ih
theorem goodL.snoc {L:List By} (h:goodL L) {x:By} (hx:nameB x=true):goodL (L++[x]):=fun y hy=>by
 rcases List.mem_append.1 hy with hy | hy
 ·exact h y hy
 ·simp at hy;rw [hy];exact hx
theorem belowS_join {L:List By} (h:goodL L) (nm:ByteArray):belowS (ofB (joinL L)) nm=ofB (joinL (L++[tl nm])):=by
 unfold belowS
 have e0:(ofB (joinL L)).toList=joinL L:=qF _
 by_cases hL:L=[]
 ·subst hL
  rw [if_pos (by rw [e0];rfl)]
  exact (ofB_tl nm).symm
 ·have hne:joinL L≠[]:=by
   intro e
   have:=qA h
   rw [e] at this
   exact hL this.symm
  rw [if_neg (by rw [e0];simpa using hne),joinL_snoc L _ hL]
  refine ext_of _ _ ?_
  rw [qF,tl_append,tl_append,qF]
  simp [tl]
theorem flat_tells:∀ (f:F) (L:List By),goodL L→goodN f→Tells2 (flatK (ofB (joinL L)) f) (DO.flatF L f)
 | .nil,_,_,_=>.nil
 | .cons nm v m k r,L,hL,⟨h1,h2,h3⟩=>by
  rw [flatK,DO.flatF,belowS_join hL]
  have hL':=hL.snoc h1
  exact Tells2.append (.cons ⟨rfl,rfl,hL'⟩ (flat_tells k _ hL' h2)) (flat_tells r L hL h3)
end Go.Proofs.YthfcanpkhjgomaaGreat
namespace Go.Proofs.YthfcanpkhjgomaaGreat
open Go.RowKit
open DO (flatF flatN Rise Srt At_ nms vz)
theorem tl_inj {a b:ByteArray} (h:tl a=tl b):a=b:=by rw [← ofB_tl a,← ofB_tl b,h]
theorem map_tl_inj:∀ {a b:List ByteArray},a.map tl=b.map tl→a=b
 | [],[],_=>rfl
 | [],_::_,h=>by simp at h
 | _::_,[],h=>by simp at h
 | x::xs,y::ys,h=>by
  simp only [List.map_cons,List.cons.injEq] at h
  rw [tl_inj h.1,map_tl_inj h.2]
theorem flat_mem:∀ {f:F} {L:List By} {e:DO.Ent},f.rises→(e∈flatF L f↔∃ n M m,e.p=L++(n::M).map tl∧((f.get n).bind fun s=>val s M)=some (e.v,m))
 | .nil,L,e,_=>by simp [flatF,F.get]
 | .cons nm v m k r,L,e,h=>by
  obtain ⟨hab,hk,hr⟩:r.above nm∧k.rises∧r.rises:=by simpa [F.rises] using h
  rw [flatF,List.mem_cons,List.mem_append,flat_mem hk,flat_mem hr]
  constructor
  ·rintro (rfl | ⟨n,M,m',e1,e2⟩ | ⟨n,M,m',e1,e2⟩)
   ·exact ⟨nm,[],m,rfl,by rw [F.get_cons_eq];rfl⟩
   ·refine ⟨nm,n::M,m',by rw [e1];simp,?_⟩
    rw [F.get_cons_eq,Option.bind_some,jY]
    exact e2
   ·refine ⟨n,M,m',e1,?_⟩
    rw [F.get,if_neg]
    ·exact e2
    ·rintro rfl
     rw [F.get_above hab] at e2
     cases e2
  ·rintro ⟨n,M,m',e1,e2⟩
   by_cases hn:nm=n
   ·subst hn
    rw [F.get_cons_eq,Option.bind_some] at e2
    cases M with
    | nil=>
     left
     rw [qO] at e2
     injection e2 with e2
     injection e2 with e3 _
     cases e
     simp only at e1 e3
     rw [e1,e3];rfl
    | cons x N=>
     right;left
     rw [jY] at e2
     exact ⟨x,N,m',by rw [e1];simp,e2⟩
   ·right;right
    rw [F.get,if_neg fun q=>hn q.symm] at e2
    exact ⟨n,M,m',e1,e2⟩
theorem cmpP_ext (L:List By) (x:By) (q:List By):cmpP L (L++x::q)=-1:=by
 have:=DO.cmpP_pre L [] (x::q)
 rw [List.append_nil] at this
 rw [this];rfl
theorem flat_srt:∀ {f:F} {L:List By},Rise f→Srt (flatF L f)
 | .nil,_,_=>.nil
 | .cons nm v m k r,L,h=>by
  obtain ⟨_,hk,hr,hn⟩:=h
  have hb:∀ e∈flatF L r,∀ q,cmpP (L++tl nm::q) e.p=-1:=fun e he q=>by
   obtain ⟨x,hx,q',e1⟩:=DO.flat_in r L e he
   rw [e1]
   exact DO.cmpP_lt (hn x hx) q q'
  refine List.pairwise_cons.2 ⟨fun e he=>?_,List.pairwise_append.2 ⟨flat_srt hk,flat_srt hr,fun a ha b hb'=>?_⟩⟩
  ·rcases List.mem_append.1 he with he | he
   ·obtain ⟨x,_,q,e1⟩:=DO.flat_in k _ e he
    show cmpP (L++[tl nm]) e.p=-1
    rw [e1]
    exact cmpP_ext _ _ _
   ·exact hb e he []
  ·obtain ⟨x,_,q,e1⟩:=DO.flat_in k _ a ha
   rw [e1,List.append_assoc]
   exact hb b hb' _
theorem flat_vals:∀ {f:F} {L:List By},Rise f→∀ e∈flatF L f,e.v≠vz
 | .nil,_,_,e,h=>(List.not_mem_nil h).elim
 | .cons nm v m k r,L,h,e,he=>by
  obtain ⟨h1,hk,hr,_⟩:=h
  rw [flatF] at he
  rcases List.mem_cons.1 he with rfl | he
  ·exact h1
  ·rcases List.mem_append.1 he with he | he
   ·exact flat_vals hk e he
   ·exact flat_vals hr e he
structure Good (t:T3):Prop where
 c:checkE t.1 t.2.1 t.2.2=0
theorem Good.rises {t:T3} (h:Good t):t.2.2.rises:=rises_of_check h.c
theorem Good.rise {t:T3} (h:Good t):Rise t.2.2:=(check_rise h.c).1
theorem Good.own {t:T3} (h:Good t):ownE t.1 t.2.1 (decide (0<t.2.2.len))=0:=(check_none h.c).1
def flatT (t:T3):List DO.Ent:=flatN t.1 t.2.2
theorem Good.srt {t:T3} (h:Good t):Srt (flatT t):=List.pairwise_cons.2 ⟨fun e he=>by
  obtain ⟨x,_,q,e1⟩:=DO.flat_in _ _ e he
  rw [e1];rfl,flat_srt h.rise⟩
theorem Good.vals {t:T3} (h:Good t):∀ e∈flatT t,e.v≠vz:=fun e he=>by
 rcases List.mem_cons.1 he with rfl | he
 ·exact own_kind h.own
 ·exact flat_vals h.rise e he
def vl (t:T3) (M:List ByteArray):Vd:=((val t M).map (·.1)).getD vz
theorem Good.at_ {t:T3} (h:Good t) (M:List ByteArray):At_ (flatT t) (M.map tl) (vl t M):=by
 cases e:val t M with
 | some x=>
  have e1:vl t M=x.1:=by unfold vl;rw [e];rfl
  rw [e1]
  left
  cases M with
  | nil=>
   rw [qO] at e
   injection e with e
   exact ⟨⟨[],t.1⟩,List.mem_cons_self,rfl,by rw [← e]⟩
  | cons n N=>
   rw [jY] at e
   exact ⟨⟨(n::N).map tl,x.1⟩,List.mem_cons_of_mem _ ((flat_mem h.rises).2 ⟨n,N,x.2,rfl,e⟩),rfl,rfl⟩
 | none=>
  have e1:vl t M=vz:=by unfold vl;rw [e];rfl
  rw [e1]
  refine .inr ⟨fun a ha q=>?_,rfl⟩
  rcases List.mem_cons.1 ha with rfl | ha
  ·cases M with
   | nil=>rw [qO] at e;cases e
   | cons n N=>simp at q
  ·obtain ⟨n,N,m,e2,e3⟩:=(flat_mem h.rises).1 ha
   rw [e2,List.nil_append] at q
   have:n::N=M:=map_tl_inj q
   subst this
   rw [jY,e3] at e
   cases e
theorem Good.mem {t:T3} (h:Good t) {e:DO.Ent} (he:e∈flatT t):∃ M m,e.p=M.map tl∧val t M=some (e.v,m):=by
 rcases List.mem_cons.1 he with rfl | he
 ·exact ⟨[],t.2.1,rfl,rfl⟩
 ·obtain ⟨n,N,m,e2,e3⟩:=(flat_mem h.rises).1 he
  exact ⟨n::N,m,by rw [e2];rfl,by rw [jY];exact e3⟩
theorem Good.nz {t:T3} (h:Good t) {M:List ByteArray} {x:Vd × Md} (e:val t M=some x):x.1≠vz:=by
 have h1:=h.at_ M
 have e1:vl t M=x.1:=by unfold vl;rw [e];rfl
 rw [e1] at h1
 rcases h1 with ⟨a,ha,_,e2⟩ | ⟨h2,_⟩
 ·rw [← e2];exact h.vals a ha
 ·exfalso
  cases M with
  | nil=>exact h2 _ List.mem_cons_self rfl
  | cons n N=>
   rw [jY] at e
   exact h2 ⟨(n::N).map tl,x.1⟩ (List.mem_cons_of_mem _ ((flat_mem h.rises).2 ⟨n,N,x.2,rfl,e⟩)) rfl
theorem vl_none {t:T3} (h:Good t) {M:List ByteArray}:vl t M=vz↔val t M=none:=by
 unfold vl
 cases e:val t M with
 | none=>simp
 | some x=>simpa using h.nz e
end Go.Proofs.YthfcanpkhjgomaaGreat
namespace Go.Proofs.YthfcanpkhjgomaaGreat
open Go.RowKit Ch
open DO (flatF flatN Rise SrtD At_ MgOk Srt mgE wkN mg_root mg_ok vz)
theorem fault_get {n:ByteArray} {s:T3}:∀ {f:F} {prev:Option ByteArray} {P:List ByteArray},faultF f prev P=none→f.get n=some s→
  nameB (tl n)=true∧P.length+1≤64∧faultF s.2.2 none (P++[n])=none∧ownE s.1 s.2.1 (decide (0<s.2.2.len))=0
 | .nil,_,_,_,h=>by cases h
 | .cons nm v m k r,prev,P,hf,h=>by
  rw [faultF] at hf
  by_cases h1:placeE prev nm (P.length+1)≠0
  ·rw [if_pos h1] at hf;cases hf
  rw [if_neg h1] at hf
  by_cases h2:ownE v m (decide (0<k.len))≠0
  ·rw [if_pos h2] at hf;cases hf
  rw [if_neg h2] at hf
  cases h3:faultF k none (P++[nm]) with
  | some x=>rw [h3] at hf;cases hf
  | none=>
   rw [h3] at hf
   rw [F.get] at h
   by_cases e:n=nm
   ·rw [if_pos e] at h
    subst e
    cases h
    have h4:placeE prev n (P.length+1)=0:=Classical.not_not.1 h1
    unfold placeE at h4
    split at h4
    ·cases h4
    ·split at h4
     ·cases h4
     ·rename_i q1 q2
      exact ⟨by simpa using q2,by omega,h3,Classical.not_not.1 h2⟩
   ·rw [if_neg e] at h
    exact fault_get hf h
theorem fault_dn:∀ {M:List ByteArray} {t s:T3} {P:List ByteArray},faultF t.2.2 none P=none→ownE t.1 t.2.1 (decide (0<t.2.2.len))=0→P.length≤64→dn t M=some s→
  (∀ x∈M,nameB (tl x)=true)∧P.length+M.length≤64∧ownE s.1 s.2.1 (decide (0<s.2.2.len))=0
 | [],t,s,P,_,ho,hP,h=>by
  cases h
  exact ⟨fun x h=>(List.not_mem_nil h).elim,by simpa using hP,ho⟩
 | n::N,t,s,P,hf,_,_,h=>by
  rw [dn] at h
  cases e:t.2.2.get n with
  | none=>rw [e] at h;cases h
  | some y=>
   rw [e,Option.bind_some] at h
   obtain ⟨h1,h2,h3,h4⟩:=fault_get hf e
   obtain ⟨k1,k2,k3⟩:=fault_dn h3 h4 (by simpa using h2) h
   refine ⟨fun x hx=>?_,?_,k3⟩
   ·rcases List.mem_cons.1 hx with rfl | hx
    ·exact h1
    ·exact k1 x hx
   ·simp only [List.length_append,List.length_cons,List.length_nil] at k2 ⊢
    omega
theorem Good.names {t s:T3} (h:Good t) {M:List ByteArray} (e:dn t M=some s):(∀ x∈M,nameB (tl x)=true)∧M.length≤64∧ownE s.1 s.2.1 (decide (0<s.2.2.len))=0:=by
 have h1:=check_none h.c
 obtain ⟨a,b,c⟩:=fault_dn (P:=[]) h1.2 h1.1 (by simp) e
 exact ⟨a,by simpa using b,c⟩
theorem own_dir {v:Vd} {m:Md} (h:ownE v m true=0):v.kind=1:=by
 unfold ownE at h
 split at h
 ·cases h
 ·split at h
  ·cases h
  ·rename_i q
   simpa using q
theorem len_pos {f:F} {n:ByteArray} {s:T3} (h:f.get n=some s):0<f.len:=by
 cases f with
 | nil=>cases h
 | cons=>simp [F.len]
theorem Good.par {t:T3} (h:Good t):Par t:=fun L n hn=>by
 cases e:dn t L with
 | none=>
  exfalso
  apply hn
  rw [val_app,e];rfl
 | some s=>
  refine ⟨s.1,s.2.1,val_some e,?_⟩
  rw [val_kid e] at hn
  cases hg:s.2.2.get n with
  | none=>rw [hg] at hn;exact absurd rfl hn
  | some y=>
   have h1:=(h.names e).2.2
   have h2:=len_pos hg
   rw [decide_eq_true h2] at h1
   exact own_dir h1
structure Dd (t u:T3) (D:List DO.Dif):Prop where
 srt:SrtD D
 each:∀ d∈D,∃ M:List ByteArray,d.p=M.map tl∧(∀ x∈M,nameB (tl x)=true)∧M.length≤64∧d.o=vl t M∧d.n=vl u M∧d.o≠d.n
 all:∀ M,vl t M≠vl u M→∃ d∈D,d.p=M.map tl
theorem Dd.of {t u:T3} {D:List DO.Dif} (ht:Good t) (hu:Good u) (h:MgOk (flatT t) (flatT u) D):Dd t u D:=by
 obtain ⟨h1,h2,h3,h4⟩:=h
 refine ⟨h1,fun d hd=>?_,fun M hM=>h3 _ _ _ (ht.at_ M) (hu.at_ M) hM⟩
 obtain ⟨a1,a2,a3⟩:=h2 d hd
 have key:∃ M s,d.p=M.map tl∧(dn t M=some s∨dn u M=some s):=by
  rcases h4 d hd with ⟨a,ha,e⟩ | ⟨b,hb,e⟩
  ·obtain ⟨M,m,e1,e2⟩:=ht.mem ha
   obtain ⟨s,e3,_⟩:=dn_some e2
   exact ⟨M,s,e.symm.trans e1,.inl e3⟩
  ·obtain ⟨M,m,e1,e2⟩:=hu.mem hb
   obtain ⟨s,e3,_⟩:=dn_some e2
   exact ⟨M,s,e.symm.trans e1,.inr e3⟩
 obtain ⟨M,s,e,hs⟩:=key
 have hn:(∀ x∈M,nameB (tl x)=true)∧M.length≤64:=by
  rcases hs with hs | hs
  ·exact ⟨(ht.names hs).1,(ht.names hs).2.1⟩
  ·exact ⟨(hu.names hs).1,(hu.names hs).2.1⟩
 rw [e] at a1 a2
 exact ⟨M,e,hn.1,hn.2,At_.uniq ht.srt a1 (ht.at_ M),At_.uniq hu.srt a2 (hu.at_ M),a3⟩
theorem good_map {M:List ByteArray} (h:∀ x∈M,nameB (tl x)=true):goodL (M.map tl):=fun y hy=>by
 obtain ⟨x,hx,rfl⟩:=List.mem_map.1 hy
 exact h x hx
theorem toC_names {d:DO.Dif} {M:List ByteArray} (e:d.p=M.map tl) (hn:∀ x∈M,nameB (tl x)=true) (hl:M.length≤64):splitE (tl (toC d).path) 64=0∧toN (toC d)=⟨M,d.o,d.n⟩:=by
 have h1:pieces (tl (toC d).path)=M.map tl:=by
  show pieces (tl (ofB (joinL d.p)))=_
  rw [qF,e,qA (good_map hn)]
 constructor
 ·unfold splitE
  rw [h1,if_neg (by rw [List.length_map];omega),if_pos]
  rw [List.all_eq_true]
  exact good_map hn
 ·show Cn.mk (cutN (toC d).path) _ _=_
  unfold cutN
  rw [h1,List.map_map]
  have:M.map (ofB ∘ tl)=M:=by
   conv=>rhs;rw [← List.map_id M]
   exact List.map_congr_left fun x _=>ofB_tl x
  rw [this]
  rfl
theorem Dd.split {t u:T3} {D:List DO.Dif} (h:Dd t u D):∀ c∈D.map toC,splitE (tl c.path) 64=0:=fun c hc=>by
 obtain ⟨d,hd,rfl⟩:=List.mem_map.1 hc
 obtain ⟨M,e,h1,h2,_⟩:=h.each d hd
 exact (toC_names e h1 h2).1
theorem Dd.lt {t u:T3} {D:List DO.Dif} (h:Dd t u D):(D.map toC).Pairwise ltP:=by
 rw [List.pairwise_map]
 refine List.Pairwise.imp_of_mem ?_ h.srt
 intro a b ha hb hab
 obtain ⟨M,e,h1,_⟩:=h.each a ha
 obtain ⟨N,e',h1',_⟩:=h.each b hb
 show cmpL (tl (ofB (joinL a.p))) (tl (ofB (joinL b.p)))<0
 rw [qF,qF,cmpL_join (by rw [e];exact good_map h1) (by rw [e'];exact good_map h1'),hab]
 decide
theorem Dd.rise {t u:T3} {D:List DO.Dif} (h:Dd t u D):riseB none (D.map toC)=true:=rise_of (fun c hc=>⟨h.split c hc,by
 obtain ⟨d,hd,rfl⟩:=List.mem_map.1 hc
 obtain ⟨M,_,_,_,_,_,h3⟩:=h.each d hd
 exact fun e=>h3 (cvV_inj e)⟩) h.lt fun q hq=>by cases hq
theorem Dd.cn {t u:T3} {D:List DO.Dif} (h:Dd t u D):∀ c∈(D.map toC).map toN,c.o=vl t c.L∧c.n=vl u c.L∧c.o≠c.n:=fun c hc=>by
 rw [List.map_map] at hc
 obtain ⟨d,hd,rfl⟩:=List.mem_map.1 hc
 obtain ⟨M,e,h1,h2,h3,h4,h5⟩:=h.each d hd
 show (toN (toC d)).o=_∧_
 rw [show (toN ∘ toC) d=toN (toC d) from rfl,(toC_names e h1 h2).2]
 exact ⟨h3,h4,h5⟩
end Go.Proofs.YthfcanpkhjgomaaGreat
namespace Go.Proofs.YthfcanpkhjgomaaGreat
open Go.RowKit
open DO (vz)
end Go.Proofs.YthfcanpkhjgomaaGreat
