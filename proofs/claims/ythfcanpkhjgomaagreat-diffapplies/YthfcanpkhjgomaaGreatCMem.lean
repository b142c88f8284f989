import Derived.Test.YthfcanpkhjgomaaGreatPCheck
import Derived.Deep.RegionHeld3
import Derived.Deep.DeepCutAuto
import Derived.Deep.RegionLaw
set_option maxRecDepth 100000
namespace Go.Proofs.YthfcanpkhjgomaaGreat.Ch
open Go.RowKit
abbrev vb (n:Nat):Value:=.int .u8 (n:Int)
structure Vd where
 kind:Int
 mode:Int
 size:Int
 sum:List Nat
 len:sum.length=32
 deriving DecidableEq
def vx (v:Vd):List Value:=.int .i64 v.kind::.int .i64 v.mode::.int .i64 v.size::v.sum.map vb
theorem jQ (v:Vd):(vx v).length=35:=by simp [vx,v.len]
structure Cd where
 path:ByteArray
 old:Vd
 new:Vd
 deriving DecidableEq
def cc (c:Cd):Array Value:=(Value.string c.path::(vx c.old++vx c.new)).toArray
theorem jl (c:Cd):(cc c).size=71:=by simp [cc,jQ]
theorem cc_path (c:Cd):(cc c)[0]?=some (.string c.path):=by simp [cc]
theorem cc_old (c:Cd):(cc c).extract 1 36=(vx c.old).toArray:=by
 simp only [cc,List.extract_toArray,List.extract_eq_take_drop,List.drop_succ_cons,List.drop_zero]
 rw [List.take_append_of_le_length (by simp [jQ]),List.take_of_length_le (by simp [jQ])]
theorem cc_new (c:Cd):(cc c).extract 36 71=(vx c.new).toArray:=by
 simp only [cc,List.extract_toArray,List.extract_eq_take_drop,List.drop_succ_cons]
 rw [List.drop_append_of_le_length (by simp [jQ]),List.drop_of_length_le (by simp [jQ]),List.nil_append,List.take_of_length_le (by simp [jQ])]
theorem vx_one (v:Vd):∀ u∈vx v,u.oneCell'=true:=by
 intro u hu
 simp only [vx,List.mem_cons,List.mem_map] at hu
 rcases hu with rfl | rfl | rfl | ⟨_,_,rfl⟩<;>rfl
theorem cc_one (c:Cd):(cc c).all (·.oneCell')=true:=by
 rw [Array.all_eq_true_iff_forall_mem]
 intro u hu
 simp only [cc,List.mem_toArray,List.mem_cons,List.mem_append] at hu
 rcases hu with rfl | h | h
 ·rfl
 ·exact vx_one _ _ h
 ·exact vx_one _ _ h
def vz:Vd:=⟨0,0,0,List.replicate 32 0,by simp⟩
def chP (p:ByteArray):Cd:=⟨p,vz,vz⟩
def Lies (w:World) (g o:Nat) (c:Array Value):Prop:=∀ j u,c[j]?=some u→w.cell? ⟨g,o+j,none⟩=some u
theorem Lies.block {w w':World} {g o:Nat} {c:Array Value} (h:Lies w g o c) (hb:∀ a:Addr,a.block<w.heap.size→w'.cell? a=w.cell? a):Lies w' g o c:=fun j u hj=>by
 have h1:=h j u hj
 rw [hb _ (World.block_lt_of_cell? w _ h1)]
 exact h1
theorem Lies.below {w w':World} {g o:Nat} {c:Array Value} (h:Lies w g o c) (hb:Below w.heap.size w w'):Lies w' g o c:=h.block fun _ ha=>hb.cell ha
theorem Lies.drew {w w':World} {g o:Nat} {c:Array Value} (h:Lies w g o c) (hb:Drew w w'):Lies w' g o c:=h.below hb.below
theorem Lies.part {w:World} {g o:Nat} {c:Array Value} (h:Lies w g o c) (i j:Nat):Lies w g (o+i) (c.extract i j):=fun k u hk=>by
 rw [Array.getElem?_extract] at hk
 split at hk
 ·have:=h (i+k) u hk
  rw [Nat.add_assoc]
  exact this
 ·cases hk
theorem Lies.path {w:World} {g o:Nat} {c:Cd} (h:Lies w g o (cc c)):w.cell? ⟨g,o,none⟩=some (.string c.path):=h 0 _ (cc_path c)
theorem Lies.old {w:World} {g o:Nat} {c:Cd} (h:Lies w g o (cc c)):Lies w g (o+1) (vx c.old).toArray:=by
 have:=h.part 1 36
 rwa [cc_old] at this
theorem Lies.new {w:World} {g o:Nat} {c:Cd} (h:Lies w g o (cc c)):Lies w g (o+36) (vx c.new).toArray:=by
 have:=h.part 36 71
 rwa [cc_new] at this
def flat {α:Type} (f:α→Array Value) (L:List α):List Value:=(L.map fun x=>(f x).toList).flatten
theorem flat_cons {α:Type} (f:α→Array Value) (x:α) (L:List α):flat f (x::L)=(f x).toList++flat f L:=rfl
theorem flat_len {α:Type} {f:α→Array Value} {s:Nat} (hs:∀ x,(f x).size=s):∀ L:List α,(flat f L).length=L.length*s
 | []=>by simp [flat]
 | x::L=>by
  rw [flat_cons,List.length_append,flat_len hs L,List.length_cons,Nat.add_mul]
  have:=hs x
  simp;omega
theorem flat_at {α:Type} {f:α→Array Value} {s:Nat} (hs:∀ x,(f x).size=s):∀ {L:List α} {i:Nat} {x:α} {j:Nat},L[i]?=some x→j<s→(flat f L)[i*s+j]?=(f x)[j]?
 | [],i,x,j,h,hj=>by simp at h
 | y::L,i,x,j,h,hj=>by
  rw [flat_cons]
  have hy:(f y).toList.length=s:=by simp [hs y]
  cases i with
  | zero=>simp at h;subst h;rw [Nat.zero_mul,Nat.zero_add,List.getElem?_append_left (by omega)];simp
  | succ i=>
   rw [List.getElem?_append_right (by rw [hy,Nat.add_mul];omega),hy,show (i+1)*s+j-s=i*s+j by rw [Nat.add_mul];omega]
   exact flat_at hs (by simpa using h) hj
theorem flat_app {α:Type} (f:α→Array Value) (L M:List α):flat f (L++M)=flat f L++flat f M:=by simp [flat]
theorem flat_one {α:Type} {f:α→Array Value} (h1:∀ x,(f x).all (·.oneCell')=true) (L:List α):∀ v∈flat f L,v.oneCell'=true:=by
 intro v hv
 simp only [flat,List.mem_flatten,List.mem_map] at hv
 obtain ⟨_,⟨x,_,rfl⟩,hv⟩:=hv
 exact (Array.all_eq_true_iff_forall_mem.1 (h1 x)) v (by simpa using hv)
theorem load_lies {w:World} {g o:Nat} {c:Array Value} (ty:TypeId) (d:TypeDesc) (hu:Tryz.prog.underlying ty=some d) (hd:d.isRow=true) (hi:(Tryz.prog.info? ty).map (·.size)=some c.size) (h:Lies w g o c):
  (Instr.loadAt ty (.pointer (some ⟨g,o,none⟩))).run Tryz.prog w=.ok (.agg c) w:=by
 have:=run_loadAt_mid (P:=Tryz.prog) w g o ty c.toList d (fun j v hv=>h j v (by simpa using hv)) hu hd (by rw [hi];simp)
 simpa using this
theorem size53:(Tryz.prog.info? 24).map (·.size)=some 35:=by kernel_rfl
theorem size55:(Tryz.prog.info? 66).map (·.size)=some 71:=by kernel_rfl
theorem under55:Tryz.prog.underlying 66=some (.struct (Tryz.prog.fieldsOf 66)):=by kernel_rfl
theorem size5 (w:World):(sizeOf 5).run Tryz.prog w=.ok 1 w:=by
 have h1:(Tryz.prog.info? 5).map (·.size)=some 1:=by kernel_rfl
 cases hq:Tryz.prog.info? 5 with
 | none=>simp [hq] at h1
 | some i=>
  have hs:i.size=1:=by simpa [hq] using h1
  simp [sizeOf,typeInfo,hq,hs]
theorem part5 (c:Array Value) (i:Nat) (x:Nat) (h:c[i]?=some (vb x)) (w:World):(part 5 c (i*1)).run Tryz.prog w=.ok (vb x) w:=by
 have h1:(Tryz.prog.info? 5).map (·.size)=some 1:=by kernel_rfl
 cases hq:Tryz.prog.info? 5 with
 | none=>simp [hq] at h1
 | some j=>
  have hs:j.size=1:=by simpa [hq] using h1
  simp [part,isAgg,run_underlying Tryz.underlying5,sizeOf,typeInfo,hq,hs,h]
theorem part3 (c:Array Value) (i:Nat) (x:Int) (h:c[i]?=some (.int .i64 x)) (w:World):(part 3 c i).run Tryz.prog w=.ok (.int .i64 x) w:=by
 have h1:(Tryz.prog.info? 3).map (·.size)=some 1:=by kernel_rfl
 cases hq:Tryz.prog.info? 3 with
 | none=>simp [hq] at h1
 | some j=>
  have hs:j.size=1:=by simpa [hq] using h1
  simp [part,isAgg,run_underlying Tryz.underlying3,sizeOf,typeInfo,hq,hs,h]
theorem partAgg (t:TypeId) (d:TypeDesc) (n:Nat) (hu:Tryz.prog.underlying t=some d) (hd:d.isRow=true) (hi:(Tryz.prog.info? t).map (·.size)=some n) (c:Array Value) (i:Nat) (_hc:i+n≤c.size) (w:World):(part t c i).run Tryz.prog w=.ok (.agg (c.extract i (i+n))) w:=by
 cases hq:Tryz.prog.info? t with
 | none=>simp [hq] at hi
 | some j=>
  have hs:j.size=n:=by simpa [hq] using hi
  have hagg:(isAgg t).run Tryz.prog w=.ok true w:=by
   unfold isAgg
   rw [Sem.run_bind,run_underlying hu w]
   cases d<;>simp_all
  simp [part,Sem.run_bind,hagg,sizeOf,typeInfo,hq,hs]
theorem eq51_list (d:Nat) (c e:Array Value) (w:World):∀ (is:List Nat) (x y:Nat→Nat),(∀ i∈is,c[i]?=some (vb (x i))∧e[i]?=some (vb (y i)))→
  (forIn is ((none:Option Bool),()) fun i _=>(do
   let a ← part 5 c (i*1)
   let b ← part 5 e (i*1)
   let r ← Op.equalIn (d+1) 5 a b
   if (!r)=true then pure (ForInStep.done (some false,())) else pure (ForInStep.yield (none,())):Sem (ForInStep (Option Bool × Unit)))).run Tryz.prog w=.ok (if is.all (fun i=>x i==y i) then none else some false,()) w
 | [],_,_,_=>by simp
 | i::is,x,y,h=>by
  obtain ⟨hx,hy⟩:=h i (by simp)
  have ih:=eq51_list d c e w is x y (fun j hj=>h j (by simp [hj]))
  simp only [List.forIn_cons,Sem.run_bind,part5 c i _ hx,part5 e i _ hy,Result.andThen_ok]
  simp only [vb,run_equalIn_int w d 5 .u8 .u8 _ _ Tryz.underlying5,Result.andThen_ok]
  by_cases hxy:x i=y i
  ·simp only [hxy,beq_self_eq_true,Bool.not_true,Bool.false_eq_true,if_false,Sem.run_pure,Result.andThen_ok,List.all_cons,Bool.true_and]
   exact ih
  ·have h2:((x i:Int)==(y i:Int))=false:=by simp;omega
   simp [h2,hxy]
theorem all_range (l m:List Nat) (hl:l.length=32) (hm:m.length=32):(List.range' 0 32).all (fun i=>l.getD i 0==m.getD i 0)=decide (l=m):=by
 rw [Bool.eq_iff_iff]
 simp only [List.all_eq_true,List.mem_range'_1,beq_iff_eq,decide_eq_true_eq]
 constructor
 ·intro h
  refine List.ext_getElem (by omega) fun i h1 h2=>?_
  have:=h i (by omega)
  simpa [List.getD,h1,h2] using this
 ·rintro rfl i _;rfl
theorem eq51 (d:Nat) (l m:List Nat) (hl:l.length=32) (hm:m.length=32) (w:World):(Op.equalIn (d+2) 22 (.agg (l.map vb).toArray) (.agg (m.map vb).toArray)).run Tryz.prog w=.ok (decide (l=m)) w:=by
 rw [show d+2=(d+1)+1 from rfl]
 unfold Op.equalIn
 simp only [Sem.run_bind,run_underlying Tryz.underlying22,Result.andThen_ok,size5]
 rw [Std.Legacy.Range.forIn_eq_forIn_range']
 rw [eq51_list d (l.map vb).toArray (m.map vb).toArray w _ (fun i=>l.getD i 0) (fun i=>m.getD i 0) ?_]
 ·have h32:(List.range' [:32].start [:32].size [:32].step)=List.range' 0 32:=by simp
  rw [h32,all_range l m hl hm]
  by_cases e:l=m<;>simp [e]
 ·intro i hi
  have h1:i<l.length:=by simp at hi;omega
  have h2:i<m.length:=by simp at hi;omega
  exact ⟨by simp [h1,List.getD],by simp [h2,List.getD]⟩
theorem fields53 : ∃ a b c e : Field, (Tryz.prog.fieldsOf 24).toList = [a, b, c, e] ∧ (a.name, a.type, a.offset) = ("Kind", 3, 0) ∧ (b.name, b.type, b.offset) = ("Mode", 3, 1) ∧ (c.name, c.type, c.offset) = ("Size", 3, 2) ∧ (e.name, e.type, e.offset) = ("Sum", 22, 3) := by
 have h : (Tryz.prog.fieldsOf 24).toList.map (fun f => (f.name, f.type, f.offset)) = [("Kind", 3, 0), ("Mode", 3, 1), ("Size", 3, 2), ("Sum", 22, 3)] := by kernel_rfl
 obtain ⟨a,l1,h1,ha,h⟩:=List.map_eq_cons_iff.1 h
 obtain ⟨b,l2,h2,hb,h⟩:=List.map_eq_cons_iff.1 h
 obtain ⟨c,l3,h3,hc,h⟩:=List.map_eq_cons_iff.1 h
 obtain ⟨e,l4,h4,he,h⟩:=List.map_eq_cons_iff.1 h
 obtain rfl:=List.map_eq_nil_iff.1 h
 exact ⟨a,b,c,e,by rw [h1,h2,h3,h4],ha,hb,hc,he⟩
theorem eqF_int (d : Nat) (xs ys : Array Value) (f : Field) (fs : List Field) (x y : Int) (hn : f.name ≠ "_") (ht : f.type = 3) (hx : xs[f.offset]? = some (.int .i64 x)) (hy : ys[f.offset]? = some (.int .i64 y)) (w : World) :
  (Op.eqFields (d+1) xs ys (f::fs)).run Tryz.prog w=if x=y then (Op.eqFields (d+1) xs ys fs).run Tryz.prog w else .ok false w:=by
 rw [Op.eqFields,if_pos hn,ht]
 simp only [Sem.run_bind,part3 xs f.offset x hx,part3 ys f.offset y hy,Result.andThen_ok,run_equalIn_int w d 3 .i64 .i64 _ _ Tryz.underlying3]
 by_cases h:x=y
 ·subst h;simp
 ·simp [h]
theorem under53:Tryz.prog.underlying 24=some (.struct (Tryz.prog.fieldsOf 24)):=by kernel_rfl
theorem size51:(Tryz.prog.info? 22).map (·.size)=some 32:=by kernel_rfl
theorem vx_sum (v:Vd):(vx v).toArray.extract 3 (3+32)=(v.sum.map vb).toArray:=by
 simp only [vx,List.extract_toArray,List.extract_eq_take_drop,List.drop_succ_cons,List.drop_zero]
 rw [List.take_of_length_le (by simp [v.len])]
theorem ext_vd {v u:Vd} (h1:v.kind=u.kind) (h2:v.mode=u.mode) (h3:v.size=u.size) (h4:v.sum=u.sum):v=u:=by
 obtain ⟨a,b,c,d,e⟩:=v
 obtain ⟨a',b',c',d',e'⟩:=u
 simp only at h1 h2 h3 h4
 subst h1 h2 h3 h4
 rfl
theorem eq53 (d:Nat) (v u:Vd) (w:World):(Op.equalIn (d+3) 24 (.agg (vx v).toArray) (.agg (vx u).toArray)).run Tryz.prog w=.ok (decide (v=u)) w:=by
 rw [show d+3=(d+2)+1 from rfl,run_equalIn_struct w (d+2) 24 _ _ under53 (by kernel_rfl)]
 obtain ⟨a,b,c,e,hf,ha,hb,hc,he⟩:=fields53
 simp only [Prod.mk.injEq] at ha hb hc he
 rw [hf]
 have n1 : ∀ s : String, s ∈ ["Kind", "Mode", "Size", "Sum"] → s ≠ "_" := by decide
 have hv:=v.len
 have hu:=u.len
 rw [eqF_int (d+1) _ _ a _ v.kind u.kind (by rw [ha.1];exact n1 _ (by simp)) ha.2.1 (by rw [ha.2.2];rfl) (by rw [ha.2.2];rfl),
  eqF_int (d+1) _ _ b _ v.mode u.mode (by rw [hb.1];exact n1 _ (by simp)) hb.2.1 (by rw [hb.2.2];rfl) (by rw [hb.2.2];rfl),
  eqF_int (d+1) _ _ c _ v.size u.size (by rw [hc.1];exact n1 _ (by simp)) hc.2.1 (by rw [hc.2.2];rfl) (by rw [hc.2.2];rfl)]
 by_cases h1:v.kind=u.kind
 ·rw [if_pos h1]
  by_cases h2:v.mode=u.mode
  ·rw [if_pos h2]
   by_cases h3:v.size=u.size
   ·rw [if_pos h3,Op.eqFields,if_pos (by rw [he.1];exact n1 _ (by simp)),he.2.1,he.2.2]
    simp only [Sem.run_bind,Result.andThen_ok,partAgg 22 _ 32 Tryz.underlying22 rfl size51 (vx v).toArray 3 (by simp [jQ]),partAgg 22 _ 32 Tryz.underlying22 rfl size51 (vx u).toArray 3 (by simp [jQ]),vx_sum,eq51 d v.sum u.sum hv hu]
    by_cases h4:v.sum=u.sum
    ·have:v=u:=ext_vd h1 h2 h3 h4
     subst this
     simp [Op.eqFields]
    ·have:v≠u:=fun e=>h4 (by rw [e])
     simp [h4,this]
   ·rw [if_neg h3]
    have:v≠u:=fun e=>h3 (by rw [e])
    simp [this]
  ·rw [if_neg h2]
   have:v≠u:=fun e=>h2 (by rw [e])
   simp [this]
 ·rw [if_neg h1]
  have:v≠u:=fun e=>h1 (by rw [e])
  simp [this]
theorem fields55 : ∃ a b c : Field, (Tryz.prog.fieldsOf 66).toList = [a, b, c] ∧ (a.name, a.type, a.offset) = ("Path", 9, 0) ∧ (b.name, b.type, b.offset) = ("Old", 24, 1) ∧ (c.name, c.type, c.offset) = ("New", 24, 36) := by
 have h : (Tryz.prog.fieldsOf 66).toList.map (fun f => (f.name, f.type, f.offset)) = [("Path", 9, 0), ("Old", 24, 1), ("New", 24, 36)] := by kernel_rfl
 obtain ⟨a,l1,h1,ha,h⟩:=List.map_eq_cons_iff.1 h
 obtain ⟨b,l2,h2,hb,h⟩:=List.map_eq_cons_iff.1 h
 obtain ⟨c,l3,h3,hc,h⟩:=List.map_eq_cons_iff.1 h
 obtain rfl:=List.map_eq_nil_iff.1 h
 exact ⟨a,b,c,by rw [h1,h2,h3],ha,hb,hc⟩
theorem part9 (c:Array Value) (i:Nat) (x:ByteArray) (h:c[i]?=some (.string x)) (w:World):(part 9 c i).run Tryz.prog w=.ok (.string x) w:=by
 have h1:(Tryz.prog.info? 9).map (·.size)=some 1:=by kernel_rfl
 cases hq:Tryz.prog.info? 9 with
 | none=>simp [hq] at h1
 | some j=>
  have hs:j.size=1:=by simpa [hq] using h1
  simp [part,isAgg,run_underlying Tryz.underlying9,sizeOf,typeInfo,hq,hs,h]
theorem ext_cd {c d:Cd} (h1:c.path=d.path) (h2:c.old=d.old) (h3:c.new=d.new):c=d:=by
 obtain ⟨a,b,e⟩:=c
 obtain ⟨a',b',e'⟩:=d
 simp only at h1 h2 h3
 subst h1 h2 h3
 rfl
theorem exec_eq53 {o:Oper} {a:Act} (x y:Operand) (v u:Vd) (ho:o.op=.binOp .eql 24 x y 24) (hx:a.eval x=.agg (vx v).toArray) (hy:a.eval y=.agg (vx u).toArray) (w:World):
  (execOp a.eval o).run Tryz.prog w=.ok (.value (.bool (decide (v=u)))) w:=by
 have h':(Op.equal 24 (.agg (vx v).toArray) (.agg (vx u).toArray)).run Tryz.prog w=.ok (decide (v=u)) w:=eq53 9997 v u w
 have hg:Tryz.prog.eqGuardType Tryz.prog.depth 24=false:=by kernel_rfl
 unfold execOp
 simp only [ho,hx,hy,eqGuard,binOp,Sem.run_bind]
 simp [Result.andThen,hg,h']
theorem exec_eq53' {o:Oper} {a:Act} (x y:Operand) (ho:o.op=.binOp .eql 24 x y 24) (X Y:Array Value) (hx:a.eval x=.agg X) (hy:a.eval y=.agg Y) (v u:Vd) (hX:X=(vx v).toArray) (hY:Y=(vx u).toArray) (b:Bool) (hb:decide (v=u)=b) (w:World):
  (execOp a.eval o).run Tryz.prog w=.ok (.value (.bool b)) w:=by
 subst hX hY hb
 exact exec_eq53 x y v u ho hx hy w
theorem jA {ops:Array Oper} {rest:List Oper} {o:Oper} {a:Act} {w:World} {Q:Exit→Act→World→Prop} (v:Value)
  (he:(execOp a.eval o).run Tryz.prog w=.ok (.value v) w) (hw:Region.wanted o (yielded ops a.tmps)=true) (h:wpList Tryz.prog ops Q rest (a.put o.dst v) w):wpList Tryz.prog ops Q (o::rest) a w:=by
 refine wpList_step fun K hK=>?_
 rw [if_pos hw]
 unfold Oper.wp
 rw [he,Oper.upon_value]
 exact hK _ _ h
theorem exec_load {o:Oper} {a:Act} {w:World} (ty:TypeId) (x:Operand) (ho:o.op=.load ty x) (b off:Nat) (hx:a.eval x=.pointer (some ⟨b,off,none⟩)) (c:Array Value) (d:TypeDesc) (hc:Lies w b off c)
  (hu:Tryz.prog.underlying ty=some d) (hd:d.isRow=true) (hi:(Tryz.prog.info? ty).map (·.size)=some c.size):(execOp a.eval o).run Tryz.prog w=.ok (.value (.agg c)) w:=by
 unfold execOp
 simp only [ho,hx,Sem.run_bind,load_lies ty d hu hd hi hc,Result.andThen_ok,Sem.run_pure]
theorem takeD {ops:Array Oper} {Q:Exit→Act→World→Prop} {md:Region.Mode} {S:World→Prop} (i d:Nat) (v:Value) {oi:Oper} {fuel:Nat} {listed:Array Bool} {a:Act} {w:World} (hS:S w) (hi:ops[i]?=some oi) (hd:oi.dst=some d)
  (hs:Region.noSelect ops=true) (hf:Region.free md ops listed i=true) (hr:(Region.ready md ops listed).contains i=true)
  (hQ:∀ c a w,Q (.panic c) (a.put (some d) v) w→Q (.panic c) a w) (hw:Region.wanted oi (yielded ops a.tmps)=true) (hy:∀ w,S w→(execOp a.eval oi).run Tryz.prog w=.ok (.value v) w)
  (h:wpAnyH Tryz.prog md ops Q S fuel (listed.setIfInBounds i true) (a.put (some d) v) w):wpAnyH Tryz.prog md ops Q S (fuel+1) listed a w:=
 wpAnyH_take hi hs hf hr (by rw [hd];exact hQ) (Or.inl ⟨hw,hy⟩) hS (by rw [hd];exact h)
theorem str_eq (a b:ByteArray):(a.toList==b.toList)=decide (a=b):=by
 rw [Bool.eq_iff_iff]
 simp only [beq_iff_eq,decide_eq_true_eq]
 exact ⟨fun h=>ext_of a b h,fun h=>by rw [h]⟩
theorem eq55 (d:Nat) (c u:Cd) (w:World):(Op.equalIn (d+4) 66 (.agg (cc c)) (.agg (cc u))).run Tryz.prog w=.ok (decide (c=u)) w:=by
 rw [show d+4=(d+3)+1 from rfl,run_equalIn_struct w (d+3) 66 _ _ under55 (by kernel_rfl)]
 obtain ⟨a,b,e,hf,ha,hb,he⟩:=fields55
 simp only [Prod.mk.injEq] at ha hb he
 rw [hf]
 have n1 : ∀ s : String, s ∈ ["Path", "Old", "New"] → s ≠ "_" := by decide
 rw [Op.eqFields,if_pos (by rw [ha.1];exact n1 _ (by simp)),ha.2.1,ha.2.2]
 simp only [Sem.run_bind,part9 _ 0 _ (cc_path c),part9 _ 0 _ (cc_path u),Result.andThen_ok,run_equalIn_string w (d+2) 9 _ _ Tryz.underlying9,str_eq]
 by_cases h1:c.path=u.path
 ·simp only [h1,decide_true,Bool.not_true,Bool.false_eq_true,if_false]
  rw [Op.eqFields,if_pos (by rw [hb.1];exact n1 _ (by simp)),hb.2.1,hb.2.2]
  simp only [Sem.run_bind,Result.andThen_ok,partAgg 24 _ 35 under53 rfl size53 (cc c) 1 (by simp [jl]),partAgg 24 _ 35 under53 rfl size53 (cc u) 1 (by simp [jl]),show 1+35=36 from rfl,cc_old,eq53 d c.old u.old]
  by_cases h2:c.old=u.old
  ·simp only [h2,decide_true,Bool.not_true,Bool.false_eq_true,if_false]
   rw [Op.eqFields,if_pos (by rw [he.1];exact n1 _ (by simp)),he.2.1,he.2.2]
   simp only [Sem.run_bind,Result.andThen_ok,partAgg 24 _ 35 under53 rfl size53 (cc c) 36 (by simp [jl]),partAgg 24 _ 35 under53 rfl size53 (cc u) 36 (by simp [jl]),show 36+35=71 from rfl,cc_new,eq53 d c.new u.new]
   by_cases h3:c.new=u.new
   ·have:c=u:=ext_cd h1 h2 h3
    subst this
    simp [Op.eqFields]
   ·have:c≠u:=fun e=>h3 (by rw [e])
    simp [h3,this]
  ·have:c≠u:=fun e=>h2 (by rw [e])
   simp [h2,this]
 ·have:c≠u:=fun e=>h1 (by rw [e])
  simp [h1,this]
theorem exec_neq55 {o:Oper} {a:Act} (x y:Operand) (v u:Cd) (ho:o.op=.binOp .neq 66 x y 66) (hx:a.eval x=.agg (cc v)) (hy:a.eval y=.agg (cc u)) (w:World):
  (execOp a.eval o).run Tryz.prog w=.ok (.value (.bool (!decide (v=u)))) w:=by
 have h':(Op.equal 66 (.agg (cc v)) (.agg (cc u))).run Tryz.prog w=.ok (decide (v=u)) w:=eq55 9996 v u w
 have hg:Tryz.prog.eqGuardType Tryz.prog.depth 66=false:=by kernel_rfl
 unfold execOp
 simp only [ho,hx,hy,eqGuard,binOp,Sem.run_bind]
 simp [Result.andThen,hg,h']
theorem exec_neq55' {o:Oper} {a:Act} (x y:Operand) (ho:o.op=.binOp .neq 66 x y 66) (X Y:Array Value) (hx:a.eval x=.agg X) (hy:a.eval y=.agg Y) (v u:Cd) (hX:X=cc v) (hY:Y=cc u) (b:Bool) (hb:(!decide (v=u))=b) (w:World):
  (execOp a.eval o).run Tryz.prog w=.ok (.value (.bool b)) w:=by
 subst hX hY hb
 exact exec_neq55 x y v u ho hx hy w
theorem jq {o:Oper} {a:Act} {w:World} (x:Operand) (ho:o.op=.load 24 x) (b off:Nat) (hx:a.eval x=.pointer (some ⟨b,off,none⟩)) (c:Array Value) (hs:c.size=35) (hc:Lies w b off c):(execOp a.eval o).run Tryz.prog w=.ok (.value (.agg c)) w:=
 exec_load 24 x ho b off hx c _ hc under53 rfl (by rw [size53,hs])
def over (cs:List Value) (off:Nat) (c:List Value):List Value:=cs.take off++c++cs.drop (off+c.length)
theorem set_over (off:Nat) (x:Value) (cs:List Value) (h:off<cs.length):cs.set off x=cs.take off++x::cs.drop (off+1):=by
 rw [List.set_eq_take_append_cons_drop,if_pos h]
theorem fold_over (off:Nat):∀ (c:List Value) (k:Nat) (cs:List Value),off+k+c.length≤cs.length→
  (c.zipIdx k).foldl (fun (a:Array Value) (p:Value × Nat)=>a.setIfInBounds (off+p.2) p.1) cs.toArray=(over cs (off+k) c).toArray
 | [],k,cs,_=>by simp [over]
 | x::c,k,cs,h=>by
  simp only [List.length_cons] at h
  rw [List.zipIdx_cons,List.foldl_cons]
  simp only [List.setIfInBounds_toArray]
  rw [fold_over off c (k+1) (cs.set (off+k) x) (by simp;omega)]
  congr 1
  unfold over
  rw [set_over _ _ _ (by omega),List.length_cons]
  have h1:(cs.take (off+k)).length=off+k:=by simp;omega
  have e1:(cs.take (off+k)++x::cs.drop (off+k+1)).take (off+(k+1))=cs.take (off+k)++[x]:=by
   rw [List.take_append,h1,show off+(k+1)-(off+k)=1 by omega,List.take_of_length_le (by omega)]
   rfl
  have e2:(cs.take (off+k)++x::cs.drop (off+k+1)).drop (off+(k+1)+c.length)=cs.drop (off+k+(c.length+1)):=by
   rw [List.drop_append,h1,List.drop_of_length_le (by omega),show off+(k+1)+c.length-(off+k)=c.length+1 by omega,List.drop_succ_cons,List.drop_drop]
   simp only [List.nil_append]
   congr 1
   omega
  rw [e1,e2]
  simp
theorem fill_cons (place:Nat→Option (Nat × Nat)) (cs:List Value) (i off n:Nat) (v:Value) (c:List Value) (rest:List (Nat × Value)) (hp:place i=some (off,n)) (hv:v.cells=c.toArray) (hc:c.length=n) (ho:off+n≤cs.length):
  Instr.fill place cs.toArray ((i,v)::rest)=Instr.fill place (over cs off c).toArray rest:=by
 rw [Instr.fill,hp]
 simp only [hv]
 have hf:=fold_over off c 0 cs (by omega)
 rw [Nat.add_zero] at hf
 rw [if_neg (by simp;omega)]
 have hz:c.toArray.zipIdx=c.zipIdx.toArray:=by
  apply Array.ext_getElem?
  intro j
  simp
 rw [← hf,hz,List.foldl_toArray]
theorem jJ {ops:Array Oper} {rest:List Oper} {o:Oper} {a:Act} {w:World} {Q:Exit→Act→World→Prop} (v:Value) (w':World)
  (he:(execOp a.eval o).run Tryz.prog w=.ok (.value v) w') (hw:Region.wanted o (yielded ops a.tmps)=true) (h:wpList Tryz.prog ops Q rest (a.put o.dst v) w'):wpList Tryz.prog ops Q (o::rest) a w:=by
 refine wpList_step fun K hK=>?_
 rw [if_pos hw]
 unfold Oper.wp
 rw [he,Oper.upon_value]
 exact hK _ _ h
theorem jP {ops:Array Oper} {rest:List Oper} {o:Oper} {a:Act} {w:World} {Q:Exit→Act→World→Prop} (w':World)
  (he:(execOp a.eval o).run Tryz.prog w=.ok .skip w') (hw:Region.wanted o (yielded ops a.tmps)=true) (h:wpList Tryz.prog ops Q rest (a.put o.dst undef) w'):wpList Tryz.prog ops Q (o::rest) a w:=by
 refine wpList_step fun K hK=>?_
 rw [if_pos hw]
 unfold Oper.wp
 rw [he,Oper.upon_skip]
 exact hK _ _ h
theorem run_zeroT (t:TypeId) (z:Array Value) (hz:(Tryz.prog.info? t).bind (·.zero)=some (.agg z)) (w:World):(zeroValue t).run Tryz.prog w=.ok (.agg z) w:=by
 cases hq:Tryz.prog.info? t with
 | none=>rw [hq] at hz;cases hz
 | some i=>
  rw [hq] at hz
  simp only [Option.bind_some] at hz
  simp [zeroValue,typeInfo,hq,hz]
theorem exec_allocT {o:Oper} {a:Act} (t:TypeId) (z:Array Value) (ho:o.op=.alloc t) (hz:(Tryz.prog.info? t).bind (·.zero)=some (.agg z)) (w:World) (b:Nat) (hb:w.heap.size=b):(execOp a.eval o).run Tryz.prog w=.ok (.value (.pointer (some ⟨b,0,none⟩))) (w.alloc (.cells z t)):=by
 subst hb
 unfold execOp
 simp only [ho,Instr.alloc,Sem.run_bind,run_zeroT t z hz,Result.andThen_ok]
 simp [newVar,newRow,newObj,Value.cells]
 rfl
theorem exec_storeT {o:Oper} {a:Act} (t:TypeId) (x y:Operand) (ho:o.op=.store t x y) (g:Nat) (c old:Array Value) (hx:a.eval x=.pointer (some ⟨g,0,none⟩)) (hy:a.eval y=.agg c) (w:World) (hg:w.heap[g]?=some (.cells old t (0,0)))
  (hz:(Tryz.prog.info? t).map (·.size)=some c.size) (hs':old.size=c.size) (h1:c.all (·.oneCell')=true):(execOp a.eval o).run Tryz.prog w=.ok .skip (w.setRow g c):=by
 unfold execOp
 simp only [ho,hx,hy,Instr.storeAt,Instr.sureAddr,Sem.run_bind,Sem.run_pure,Result.andThen_ok,run_storeVar_row (P:=Tryz.prog) w g t t old c hg hz hs' h1]
theorem qD {base e size g n cap:Nat}:∀ (vs:List Value) (o:Nat) (w:World) (xs:List Value),w.ownsRow base e size (.slice (some ⟨g,0,none⟩) n cap) n xs→o+vs.length≤xs.length→
  (w.setCells g o vs).ownsRow base e size (.slice (some ⟨g,0,none⟩) n cap) n (over xs o vs)∧w.grownBy (w.setCells g o vs) (some g)
 | [],o,w,xs,h,_=>⟨by simpa [over,World.setCells] using h,⟨rfl,rfl,rfl,Nat.le_refl _,fun _ _ _=>rfl⟩⟩
 | v::r,o,w,xs,h,hl=>by
  simp only [List.length_cons] at hl
  obtain ⟨h1,h2⟩:=h.stored o v
  obtain ⟨h3,h4⟩:=qD r (o+1) _ _ h1 (by simp;omega)
  refine ⟨?_,h2.trans h4⟩
  have:over (xs.set o v) (o+1) r=over xs o (v::r):=by
   unfold over
   rw [set_over _ _ _ (by omega)]
   have h1:(xs.take o).length=o:=by simp;omega
   have e1:(xs.take o++v::xs.drop (o+1)).take (o+1)=xs.take o++[v]:=by
    rw [List.take_append,h1,show o+1-o=1 by omega,List.take_of_length_le (by omega)]
    rfl
   have e2:(xs.take o++v::xs.drop (o+1)).drop (o+1+r.length)=xs.drop (o+(r.length+1)):=by
    rw [List.drop_append,h1,List.drop_of_length_le (l:=xs.take o) (by omega),show o+1+r.length-o=r.length+1 by omega,List.drop_succ_cons,List.drop_drop]
    simp only [List.nil_append]
    congr 1
    omega
   rw [e1,e2]
   simp
  rw [this] at h3
  exact h3
theorem owns_there {w:World} {base e size g n cap:Nat} {xs:List Value} (h:w.ownsRow base e size (.slice (some ⟨g,0,none⟩) n cap) n xs) (o k:Nat) (hk:o+k≤xs.length):w.there g o k:=fun j hj=>by
 refine ⟨?_,h.frozenAt _⟩
 have:=h.cells (g:=g) rfl (o+j) (xs[o+j]'(by omega)) (by simp)
 rw [Addr.add_mid,Nat.zero_add] at this
 rw [this];rfl
theorem exec_storeM {o:Oper} {a:Act} (t:TypeId) (x y:Operand) (ho:o.op=.store t x y) (g f:Nat) (c:Array Value) (hx:a.eval x=.pointer (some ⟨g,f,none⟩)) (hy:a.eval y=.agg c) (w:World) (ht:w.there g f c.size)
  (hz:(Tryz.prog.info? t).map (·.size)=some c.size) (h1:c.all (·.oneCell')=true):(execOp a.eval o).run Tryz.prog w=.ok .skip (w.setCells g f c.toList):=by
 unfold execOp
 simp only [ho,hx,hy,Sem.run_bind,Sem.run_pure,Result.andThen_ok,run_storeAt_mid (P:=Tryz.prog) w g f t c ht hz h1]
def z55:Array Value:=cc (chP ⟨#[]⟩)
theorem zero55:(Tryz.prog.info? 66).bind (·.zero)=some (.agg z55):=by kernel_rfl
theorem z55_size:z55.size=71:=jl _
theorem info55:(Tryz.prog.info? 66).map (fun i=>(i.zero,i.size,i.bytes))=some (some (.agg z55),71,128):=by kernel_rfl
theorem exec_slice55 {o:Oper} {a:Act} (x:Operand) (ho:o.op=.buildSlice 31 1 #[(0,x)]) (c:Array Value) (hx:a.eval x=.agg c) (hs:c.size=71) (w:World) (b:Nat) (hb:w.heap.size=b):
  (execOp a.eval o).run Tryz.prog w=.ok (.value (.slice (some ⟨b,0,none⟩) 1 1)) (w.alloc (.cells c 66)):=by
 subst hb
 obtain ⟨i0,hi,hz0,hz1,hz2⟩:=info_parts info55
 have hf:Instr.fill (fun i=>some (i*71,71)) ((Array.range (1*71)).map (z55[·%z55.size]!)) [(0,.agg c)]=some c:=by
  obtain ⟨z,hz,hzl⟩:∃ z:List Value,((Array.range (1*71)).map (z55[·%z55.size]!))=z.toArray∧z.length=71:=⟨((Array.range (1*71)).map (z55[·%z55.size]!)).toList,Array.toArray_toList.symm,by simp⟩
  rw [hz,fill_cons _ z 0 0 71 _ c.toList _ rfl (by simp [Value.cells]) (by simpa using hs) (by omega),Instr.fill]
  have hd:z.drop 71=[]:=List.drop_of_length_le (by omega)
  simp [over,hs,hd]
 have hsz:(sizeOf 66).run Tryz.prog w=.ok 71 w:=by simp [sizeOf,typeInfo,hi,hz1]
 have hzv:=run_zeroT 66 z55 zero55 w
 generalize z55=zz at hf hzv
 have hb:(Instr.buildSlice 31 1 #[(0,.agg c)]).run Tryz.prog w=.ok (.slice (some ⟨w.heap.size,0,none⟩) 1 1) (w.alloc (.cells c 66)):=by
  unfold Instr.buildSlice
  simp only [Sem.run_bind,run_underlying Tryz.underlying31,Result.andThen_ok,hsz]
  have h1:¬ (1*71 > 2 ^ 24):=by omega
  have h2:¬ (1*71=0):=by omega
  simp only [h1,h2,if_false,Sem.run_bind,Sem.run_pure,Result.andThen_ok,hzv,Value.cells,hf]
  rfl
 unfold execOp
 simp only [ho]
 have hmap:(#[(0,x)].map fun (p:Nat × Operand)=>match p with | (i,x)=>(i,a.eval x))=#[(0,.agg c)]:=by simp [hx]
 rw [hmap]
 simp only [Sem.run_bind,hb,Result.andThen_ok,Sem.run_pure]
theorem hz55:∃ z:List Value,(Tryz.prog.info? 66).bind (·.zero)=some (.agg (List.toArray z))∧z=.string ⟨#[]⟩::(vx vz++vx vz):=⟨_,zero55,rfl⟩
theorem places55:(Tryz.prog.fieldsOf 66).toList.mapM (fun f=>(Tryz.prog.info? f.type).map fun i=>(f.offset,i.size))=some [(0,1),(1,35),(36,35)]:=by kernel_rfl
theorem build55p (p:ByteArray) (w:World):(Instr.build 66 #[(0,.string p)]).run Tryz.prog w=.ok (.agg (cc (chP p))) w:=by
 refine run_build w 66 _ _ ?_
 obtain ⟨z,hz,hl⟩:=hz55
 unfold Program.built
 cases hi:Tryz.prog.info? 66 with
 | none=>rw [hi] at hz;cases hz
 | some it=>
  rw [hi] at hz
  simp only [Option.bind_some] at hz
  simp only [under55,hz,places55]
  show Instr.fill _ (List.toArray _) _=_
  have hx:=jQ vz
  rw [fill_cons _ _ 0 0 1 _ [.string p] _ rfl rfl rfl (by rw [hl];simp),Instr.fill,hl]
  rfl
theorem exec_build55p {o:Oper} {a:Act} (x:Operand) (ho:o.op=.build 66 #[(0,x)]) (p:ByteArray) (hx:a.eval x=.string p) (w:World):(execOp a.eval o).run Tryz.prog w=.ok (.value (.agg (cc (chP p)))) w:=by
 unfold execOp
 simp only [ho]
 have hmap:(#[(0,x)].map fun (p:Nat × Operand)=>match p with | (i,x)=>(i,a.eval x))=#[(0,.string p)]:=by simp [hx]
 rw [hmap]
 simp only [Sem.run_bind,build55p p w,Result.andThen_ok,Sem.run_pure]
theorem row_form {w:World} {lo e s n:Nat} {v:Value} {xs:List Value} (h:w.ownsRow lo e s v n xs):∃ p c,v=.slice p n c:=by
 obtain ⟨_,h | ⟨g,cap,cur,hv,_⟩⟩:=h
 ·exact ⟨none,0,by rw [h.1,h.2]⟩
 ·exact ⟨_,cap,hv⟩
theorem new_varT (w:World) (t:TypeId) (z c:Array Value):Below w.heap.size w ((w.alloc (.cells z t)).setRow w.heap.size c)∧((w.alloc (.cells z t)).setRow w.heap.size c).heap[w.heap.size]?=some (.cells c t (0,0))∧((w.alloc (.cells z t)).setRow w.heap.size c).heap.size=w.heap.size+1:=by
 refine ⟨⟨rfl,rfl,rfl,by simp,fun b hb=>?_⟩,setRow_heap _ _ z c t _ (World.alloc_heap_new w _),by simp⟩
 rw [setRow_other _ _ _ _ (by omega),Below.heap_alloc _ _ _ hb]
theorem vx_oneA (v:Vd):(vx v).toArray.all (·.oneCell')=true:=by
 rw [Array.all_eq_true_iff_forall_mem]
 intro u hu
 exact vx_one v u (by simpa using hu)
end Go.Proofs.YthfcanpkhjgomaaGreat.Ch
