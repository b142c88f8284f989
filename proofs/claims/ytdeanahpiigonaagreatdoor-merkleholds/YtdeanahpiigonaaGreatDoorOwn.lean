import Derived.Test.YtdeanahpiigonaaGreatDoorQCheck
import Derived.Deep.RegionHeld3
import Derived.Deep.DeepCutAuto
import Derived.Deep.RegionLaw
set_option maxRecDepth 100000
set_option maxHeartbeats 1000000
namespace Go.Proofs.YtdeanahpiigonaaGreatDoor
export Pa (By tl vL nameB eno aw)
open Go.RowKit
def iOf (v:Value):Nat:=match v with | .int _ i=>i.toNat | _=>0
@[simp] theorem ie (k:IntKind) (i:Int):iOf (.int k i)=i.toNat:=rfl
def Hid (p:Prop):Prop:=p
theorem Hid.o {p:Prop} (h:Hid p):p:=h
def Drew (w w':World):Prop:=∃ n,w'=w.drewN n
theorem Drew.refl (w:World):Drew w w:=⟨0,rfl⟩
theorem Drew.more {w w':World} (h:Drew w w') (n:Nat):Drew w (w'.drewN n):=by
 obtain ⟨m,rfl⟩:=h
 exact ⟨m+n,by rw [World.drewN_drewN]⟩
theorem Drew.trans {w w' w'':World} (h:Drew w w') (k:Drew w' w''):Drew w w'':=by
 obtain ⟨n,rfl⟩:=k
 exact h.more n
theorem Drew.heap {w w':World} (h:Drew w w'):w'.heap=w.heap:=by
 obtain ⟨n,rfl⟩:=h
 simp
theorem Drew.cell {w w':World} (h:Drew w w') (p:Addr):w'.cell? p=w.cell? p:=by
 obtain ⟨n,rfl⟩:=h
 simp
theorem Drew.below {w w':World} (h:Drew w w'):Below w.heap.size w w':=by
 obtain ⟨n,rfl⟩:=h
 exact below_drewN (Below.refl _ w) n
abbrev vb (n:Nat):Value:=.int .u8 (n:Int)
structure Vd where
 kind:Int
 mode:Int
 size:Int
 sum:List Nat
 len:sum.length=32
 deriving DecidableEq
structure Md where
 n0:Int
 s0:Int
 n1:Int
 s1:Int
 deriving DecidableEq
def vx (v:Vd):List Value:=.int .i64 v.kind::.int .i64 v.mode::.int .i64 v.size::v.sum.map vb
def mx (m:Md):List Value:=[.int .i64 m.n0,.int .i64 m.s0,.int .i64 m.n1,.int .i64 m.s1]
theorem jq (v:Vd):(vx v).length=35:=by simp [vx,v.len]
theorem fX (m:Md):(mx m).length=4:=rfl
inductive F where
 | nil
 | cons (nm:ByteArray) (v:Vd) (m:Md) (kids rest:F)
 deriving DecidableEq
namespace F
def len:F→Nat
 | nil=>0
 | cons _ _ _ _ r=>r.len+1
def size:F→Nat
 | nil=>0
 | cons _ _ _ k r=>k.size+r.size+1
def drop:F→Nat→F
 | f,0=>f
 | nil,_+1=>nil
 | cons _ _ _ _ r,k+1=>r.drop k
def take:F→Nat→F
 | _,0=>nil
 | nil,_+1=>nil
 | cons nm v m k r,n+1=>cons nm v m k (r.take n)
def app:F→F→F
 | nil,g=>g
 | cons nm v m k r,g=>cons nm v m k (r.app g)
theorem drop_zero (f:F):f.drop 0=f:=by cases f<;>rfl
theorem dB:∀ (f:F) (k:Nat),k<f.len→∃ nm v m ks,f.drop k=cons nm v m ks (f.drop (k+1))
 | nil,k,h=>by simp [len] at h
 | cons nm v m ks r,0,_=>⟨nm,v,m,ks,by rw [drop_zero,drop,drop_zero]⟩
 | cons nm v m ks r,k+1,h=>by
  obtain ⟨nm',v',m',ks',e⟩:=dB r k (by simp [len] at h;omega)
  exact ⟨nm',v',m',ks',e⟩
theorem take_zero (f:F):f.take 0=nil:=by cases f<;>rfl
end F
def nc (nm:ByteArray) (v:Vd) (m:Md) (kv:Value):Array Value:=(Value.string nm::(vx v++(mx m++[kv]))).toArray
theorem wN (nm:ByteArray) (v:Vd) (m:Md) (kv:Value):(nc nm v m kv)[40]?=some kv:=by
 simp only [nc,List.getElem?_toArray,List.getElem?_cons_succ]
 rw [List.getElem?_append_right (by simp [jq]),List.getElem?_append_right (by simp [jq,fX])]
 simp [jq,fX]
theorem a0Z (nm:ByteArray) (v:Vd) (m:Md) (kv:Value):(nc nm v m kv).extract 1 36=(vx v).toArray:=by
 simp only [nc,List.extract_toArray,List.extract_eq_take_drop,List.drop_succ_cons,List.drop_zero]
 rw [List.take_append_of_le_length (by simp [jq]),List.take_of_length_le (by simp [jq])]
theorem oT (nm:ByteArray) (v:Vd) (m:Md) (kv:Value):(nc nm v m kv).extract 36 40=(mx m).toArray:=by
 simp only [nc,List.extract_toArray,List.extract_eq_take_drop,List.drop_succ_cons]
 rw [List.drop_append_of_le_length (by simp [jq]),List.drop_of_length_le (by simp [jq])]
 simp [mx]
def HasR (w:World):F→Nat→Nat→Prop
 | .nil,_,_=>True
 | .cons nm v m kids rest,g,o=>(∃ a cap,(∀ j u,(nc nm v m (.slice a kids.len cap))[j]?=some u→w.cell? ⟨g,o+j,none⟩=some u)∧(kids.len≤cap∧(kids=.nil∨∃ g' o',a=some ⟨g',o',none⟩∧HasR w kids g' o')))∧HasR w rest g (o+41)
def HasS (w:World) (v:Value) (f:F):Prop:=∃ a cap,v=.slice a f.len cap∧f.len≤cap∧(f=.nil∨∃ g o,a=some ⟨g,o,none⟩∧HasR w f g o)
def HasN (w:World) (c:Array Value) (nm:ByteArray) (v:Vd) (m:Md) (kids:F):Prop:=∃ kv,c=nc nm v m kv∧HasS w kv kids
theorem HasR.drop {w:World}:∀ {f:F} {k g o:Nat},HasR w f g o→HasR w (f.drop k) g (o+k*41)
 | f,0,g,o,h=>by rw [F.drop_zero];exact h
 | .nil,k+1,g,o,_=>trivial
 | .cons nm v m ks r,k+1,g,o,h=>by
  have:=HasR.drop (k:=k) h.2
  rw [show o+41+k*41=o+(k+1)*41 by omega] at this
  exact this
theorem HasR.block {w w':World} (hb:∀ a:Addr,a.block<w.heap.size→w'.cell? a=w.cell? a):∀ {f:F} {g o:Nat},HasR w f g o→HasR w' f g o
 | .nil,_,_,_=>trivial
 | .cons nm v m ks r,g,o,h=>by
  obtain ⟨⟨a,cap,hc,hl,hk⟩,hr⟩:=h
  refine ⟨⟨a,cap,fun j u hj=>?_,hl,?_⟩,HasR.block hb hr⟩
  ·have h1:=hc j u hj
   rw [hb _ (World.block_lt_of_cell? w _ h1)]
   exact h1
  ·rcases hk with hk | ⟨g',o',ha,hk⟩
   ·exact .inl hk
   ·exact .inr ⟨g',o',ha,HasR.block hb hk⟩
theorem HasS.block {w w':World} {v:Value} {f:F} (h:HasS w v f) (hb:∀ a:Addr,a.block<w.heap.size→w'.cell? a=w.cell? a):HasS w' v f:=by
 obtain ⟨a,cap,hv,hl,h⟩:=h
 refine ⟨a,cap,hv,hl,?_⟩
 rcases h with h | ⟨g,o,ha,h⟩
 ·exact .inl h
 ·exact .inr ⟨g,o,ha,h.block hb⟩
theorem HasS.below {w w':World} {v:Value} {f:F} (h:HasS w v f) (hb:Below w.heap.size w w'):HasS w' v f:=h.block fun _ ha=>hb.cell ha
theorem HasS.drew {w w':World} {v:Value} {f:F} (h:HasS w v f) (hb:Drew w w'):HasS w' v f:=h.below hb.below
theorem HasN.block {w w':World} {c:Array Value} {nm:ByteArray} {v:Vd} {m:Md} {f:F} (h:HasN w c nm v m f) (hb:∀ a:Addr,a.block<w.heap.size→w'.cell? a=w.cell? a):HasN w' c nm v m f:=by
 obtain ⟨kv,hc,h⟩:=h
 exact ⟨kv,hc,h.block hb⟩
theorem HasN.below {w w':World} {c:Array Value} {nm:ByteArray} {v:Vd} {m:Md} {f:F} (h:HasN w c nm v m f) (hb:Below w.heap.size w w'):HasN w' c nm v m f:=h.block fun _ ha=>hb.cell ha
theorem HasS.form {w:World} {v:Value} {f:F} (h:HasS w v f):∃ a cap,v=.slice a f.len cap∧f.len≤cap:=by
 obtain ⟨a,cap,hv,hl,_⟩:=h
 exact ⟨a,cap,hv,hl⟩
theorem HasS.at {w:World} {v:Value} {f:F} (h:HasS w v f) {k:Nat} (hk:k<f.len):∃ g o cap nm vv m ks c,v=.slice (some ⟨g,o,none⟩) f.len cap∧f.drop k=.cons nm vv m ks (f.drop (k+1))∧HasN w c nm vv m ks∧(∀ j u,c[j]?=some u→w.cell? ⟨g,o+k*41+j,none⟩=some u):=by
 obtain ⟨a,cap,hv,hl,h⟩:=h
 rcases h with h | ⟨g,o,ha,h⟩
 ·subst h;simp [F.len] at hk
 ·obtain ⟨nm,vv,m,ks,e⟩:=F.dB f k hk
  have h1:=h.drop (k:=k)
  rw [e] at h1
  obtain ⟨⟨a',cap',hc,hl',hks⟩,_⟩:=h1
  subst ha
  exact ⟨g,o,cap,nm,vv,m,ks,_,hv,e,⟨_,rfl,a',cap',rfl,hl',hks⟩,hc⟩
def Lies (w:World) (g o:Nat) (c:Array Value):Prop:=∀ j u,c[j]?=some u→w.cell? ⟨g,o+j,none⟩=some u
theorem Lies.block {w w':World} {g o:Nat} {c:Array Value} (h:Lies w g o c) (hb:∀ a:Addr,a.block<w.heap.size→w'.cell? a=w.cell? a):Lies w' g o c:=fun j u hj=>by
 have h1:=h j u hj
 rw [hb _ (World.block_lt_of_cell? w _ h1)]
 exact h1
theorem Lies.below {w w':World} {g o:Nat} {c:Array Value} (h:Lies w g o c) (hb:Below w.heap.size w w'):Lies w' g o c:=h.block fun _ ha=>hb.cell ha
theorem Lies.drew {w w':World} {g o:Nat} {c:Array Value} (h:Lies w g o c) (hb:Drew w w'):Lies w' g o c:=h.below hb.below
theorem ag {w:World} {g o:Nat} {c:Array Value} (ty:TypeId) (d:TypeDesc) (hu:Tryz.prog.underlying ty=some d) (hd:d.isRow=true) (hi:(Tryz.prog.info? ty).map (·.size)=some c.size) (h:Lies w g o c):
  (Instr.loadAt ty (.pointer (some ⟨g,o,none⟩))).run Tryz.prog w=.ok (.agg c) w:=by
 have:=run_loadAt_mid (P:=Tryz.prog) w g o ty c.toList d (fun j v hv=>h j v (by simpa using hv)) hu hd (by rw [hi];simp)
 simpa using this
theorem size24:(Tryz.prog.info? 24).map (·.size)=some 35:=by kernel_rfl
theorem size27:(Tryz.prog.info? 157).map (·.size)=some 4:=by kernel_rfl
structure But (K:Nat) (w w':World):Prop where
 os:w'.os=w.os
 tape:w'.tape=w.tape
 output:w'.output=w.output
 size:w.heap.size≤w'.heap.size
 block:∀ k,k<w.heap.size→k≠K→w'.heap[k]?=w.heap[k]?
theorem But.refl (K:Nat) (w:World):But K w w:=⟨rfl,rfl,rfl,Nat.le_refl _,fun _ _ _=>rfl⟩
theorem But.trans {K:Nat} {a b c:World} (h:But K a b) (k:But K b c):But K a c:=
 ⟨k.os.trans h.os,k.tape.trans h.tape,k.output.trans h.output,Nat.le_trans h.size k.size,fun i hi hn=>(k.block i (by have:=h.size;omega) hn).trans (h.block i hi hn)⟩
theorem But.of_below {K:Nat} {a b:World} (h:Below a.heap.size a b):But K a b:=⟨h.os,h.tape,h.output,h.size,fun i hi _=>h.block i hi⟩
theorem But.below {K B:Nat} {a b:World} (h:But K a b) (hB:B≤K) (hs:B≤a.heap.size):Below B a b:=⟨h.os,h.tape,h.output,h.size,fun i hi=>h.block i (by omega) (by omega)⟩
theorem But.setCell {K:Nat} {a b:World} (h:But K a b) (i:Nat) (v:Value):But K a (b.setCell ⟨K,i,none⟩ v):=
 ⟨h.os,h.tape,h.output,by simpa using h.size,fun j hj hn=>(Below.heap_setCell b ⟨K,i,none⟩ v j hn).trans (h.block j hj hn)⟩
theorem But.alloc {K:Nat} {a b:World} (h:But K a b) (o:Obj):But K a (b.alloc o):=
 h.trans (But.of_below ((Below.refl _ b).alloc (Nat.le_refl _) o))
theorem But.cell {K:Nat} {a b:World} (h:But K a b) {x:Addr} {v:Value} (hx:a.cell? x=some v) (hn:x.block≠K):b.cell? x=some v:=by
 rw [← hx]
 exact World.cell?_of_block (w:=a) (h.block _ (World.block_lt_of_cell? a _ hx) hn)
theorem But.frozen {K:Nat} {a b:World} (h:But K a b) {x:Addr} {v:Value} (hx:a.cell? x=some v) (hn:x.block≠K):b.frozen? x=a.frozen? x:=
 World.frozen?_of_block (w:=a) (h.block _ (World.block_lt_of_cell? a _ hx) hn)
theorem a0a (w:World):(sizeOf 5).run Tryz.prog w=.ok 1 w:=by
 have h1:(Tryz.prog.info? 5).map (·.size)=some 1:=by kernel_rfl
 cases hq:Tryz.prog.info? 5 with
 | none=>simp [hq] at h1
 | some i=>
  have hs:i.size=1:=by simpa [hq] using h1
  simp [sizeOf,typeInfo,hq,hs]
theorem wO (c:Array Value) (i:Nat) (x:Nat) (h:c[i]?=some (vb x)) (w:World):(part 5 c (i*1)).run Tryz.prog w=.ok (vb x) w:=by
 have h1:(Tryz.prog.info? 5).map (·.size)=some 1:=by kernel_rfl
 cases hq:Tryz.prog.info? 5 with
 | none=>simp [hq] at h1
 | some j=>
  have hs:j.size=1:=by simpa [hq] using h1
  simp [part,isAgg,run_underlying Tryz.underlying5,sizeOf,typeInfo,hq,hs,h]
theorem a0b (c:Array Value) (i:Nat) (x:Int) (h:c[i]?=some (.int .i64 x)) (w:World):(part 3 c i).run Tryz.prog w=.ok (.int .i64 x) w:=by
 have h1:(Tryz.prog.info? 3).map (·.size)=some 1:=by kernel_rfl
 cases hq:Tryz.prog.info? 3 with
 | none=>simp [hq] at h1
 | some j=>
  have hs:j.size=1:=by simpa [hq] using h1
  simp [part,isAgg,run_underlying Tryz.underlying3,sizeOf,typeInfo,hq,hs,h]
theorem xh (t:TypeId) (d:TypeDesc) (n:Nat) (hu:Tryz.prog.underlying t=some d) (hd:d.isRow=true) (hi:(Tryz.prog.info? t).map (·.size)=some n) (c:Array Value) (i:Nat) (_hc:i+n≤c.size) (w:World):(part t c i).run Tryz.prog w=.ok (.agg (c.extract i (i+n))) w:=by
 cases hq:Tryz.prog.info? t with
 | none=>simp [hq] at hi
 | some j=>
  have hs:j.size=n:=by simpa [hq] using hi
  have hagg:(isAgg t).run Tryz.prog w=.ok true w:=by
   unfold isAgg
   rw [Sem.run_bind,run_underlying hu w]
   cases d<;>simp_all
  simp [part,Sem.run_bind,hagg,sizeOf,typeInfo,hq,hs]
theorem dC (d:Nat) (c e:Array Value) (w:World):∀ (is:List Nat) (x y:Nat→Nat),(∀ i∈is,c[i]?=some (vb (x i))∧e[i]?=some (vb (y i)))→
  (forIn is ((none:Option Bool),()) fun i _=>(do
   let a ← part 5 c (i*1)
   let b ← part 5 e (i*1)
   let r ← Op.equalIn (d+1) 5 a b
   if (!r)=true then pure (ForInStep.done (some false,())) else pure (ForInStep.yield (none,())):Sem (ForInStep (Option Bool × Unit)))).run Tryz.prog w=.ok (if is.all (fun i=>x i==y i) then none else some false,()) w
 | [],_,_,_=>by simp
 | i::is,x,y,h=>by
  obtain ⟨hx,hy⟩:=h i (by simp)
  have ih:=dC d c e w is x y (fun j hj=>h j (by simp [hj]))
  simp only [List.forIn_cons,Sem.run_bind,wO c i _ hx,wO e i _ hy,Result.andThen_ok]
  simp only [vb,run_equalIn_int w d 5 .u8 .u8 _ _ Tryz.underlying5,Result.andThen_ok]
  by_cases hxy:x i=y i
  ·simp only [hxy,beq_self_eq_true,Bool.not_true,Bool.false_eq_true,if_false,Sem.run_pure,Result.andThen_ok,List.all_cons,Bool.true_and]
   exact ih
  ·have h2:((x i:Int)==(y i:Int))=false:=by simp;omega
   simp [h2,hxy]
theorem iq (l m:List Nat) (hl:l.length=32) (hm:m.length=32):(List.range' 0 32).all (fun i=>l.getD i 0==m.getD i 0)=decide (l=m):=by
 rw [Bool.eq_iff_iff]
 simp only [List.all_eq_true,List.mem_range'_1,beq_iff_eq,decide_eq_true_eq]
 constructor
 ·intro h
  refine List.ext_getElem (by omega) fun i h1 h2=>?_
  have:=h i (by omega)
  simpa [List.getD,h1,h2] using this
 ·rintro rfl i _;rfl
theorem eq22 (d:Nat) (l m:List Nat) (hl:l.length=32) (hm:m.length=32) (w:World):(Op.equalIn (d+2) 22 (.agg (l.map vb).toArray) (.agg (m.map vb).toArray)).run Tryz.prog w=.ok (decide (l=m)) w:=by
 rw [show d+2=(d+1)+1 from rfl]
 unfold Op.equalIn
 simp only [Sem.run_bind,run_underlying Tryz.underlying22,Result.andThen_ok,a0a]
 rw [Std.Legacy.Range.forIn_eq_forIn_range']
 rw [dC d (l.map vb).toArray (m.map vb).toArray w _ (fun i=>l.getD i 0) (fun i=>m.getD i 0) ?_]
 ·have h32:(List.range' [:32].start [:32].size [:32].step)=List.range' 0 32:=by simp
  rw [h32,iq l m hl hm]
  by_cases e:l=m<;>simp [e]
 ·intro i hi
  have h1:i<l.length:=by simp at hi;omega
  have h2:i<m.length:=by simp at hi;omega
  exact ⟨by simp [h1,List.getD],by simp [h2,List.getD]⟩
theorem fields24 : ∃ a b c e : Field, (Tryz.prog.fieldsOf 24).toList = [a, b, c, e] ∧ (a.name, a.type, a.offset) = ("Kind", 3, 0) ∧ (b.name, b.type, b.offset) = ("Mode", 3, 1) ∧ (c.name, c.type, c.offset) = ("Size", 3, 2) ∧ (e.name, e.type, e.offset) = ("Sum", 22, 3) := by
 have h : (Tryz.prog.fieldsOf 24).toList.map (fun f => (f.name, f.type, f.offset)) = [("Kind", 3, 0), ("Mode", 3, 1), ("Size", 3, 2), ("Sum", 22, 3)] := by kernel_rfl
 obtain ⟨a,l1,h1,ha,h⟩:=List.map_eq_cons_iff.1 h
 obtain ⟨b,l2,h2,hb,h⟩:=List.map_eq_cons_iff.1 h
 obtain ⟨c,l3,h3,hc,h⟩:=List.map_eq_cons_iff.1 h
 obtain ⟨e,l4,h4,he,h⟩:=List.map_eq_cons_iff.1 h
 obtain rfl:=List.map_eq_nil_iff.1 h
 exact ⟨a,b,c,e,by rw [h1,h2,h3,h4],ha,hb,hc,he⟩
theorem fields26 : ∃ a b : Field, (Tryz.prog.fieldsOf 156).toList = [a, b] ∧ (a.name, a.type, a.offset) = ("Number", 3, 0) ∧ (b.name, b.type, b.offset) = ("Stamp", 3, 1) := by
 have h : (Tryz.prog.fieldsOf 156).toList.map (fun f => (f.name, f.type, f.offset)) = [("Number", 3, 0), ("Stamp", 3, 1)] := by kernel_rfl
 obtain ⟨a,l1,h1,ha,h⟩:=List.map_eq_cons_iff.1 h
 obtain ⟨b,l2,h2,hb,h⟩:=List.map_eq_cons_iff.1 h
 obtain rfl:=List.map_eq_nil_iff.1 h
 exact ⟨a,b,by rw [h1,h2],ha,hb⟩
theorem aW (d : Nat) (xs ys : Array Value) (f : Field) (fs : List Field) (x y : Int) (hn : f.name ≠ "_") (ht : f.type = 3) (hx : xs[f.offset]? = some (.int .i64 x)) (hy : ys[f.offset]? = some (.int .i64 y)) (w : World) :
  (Op.eqFields (d+1) xs ys (f::fs)).run Tryz.prog w=if x=y then (Op.eqFields (d+1) xs ys fs).run Tryz.prog w else .ok false w:=by
 rw [Op.eqFields,if_pos hn,ht]
 simp only [Sem.run_bind,a0b xs f.offset x hx,a0b ys f.offset y hy,Result.andThen_ok,run_equalIn_int w d 3 .i64 .i64 _ _ Tryz.underlying3]
 by_cases h:x=y
 ·subst h;simp
 ·simp [h]
theorem ir:Tryz.prog.underlying 24=some (.struct (Tryz.prog.fieldsOf 24)):=by kernel_rfl
theorem aX:Tryz.prog.underlying 156=some (.struct (Tryz.prog.fieldsOf 156)):=by kernel_rfl
theorem iu:(Tryz.prog.info? 22).map (·.size)=some 32:=by kernel_rfl
theorem iv (v:Vd):(vx v).toArray.extract 3 (3+32)=(v.sum.map vb).toArray:=by
 simp only [vx,List.extract_toArray,List.extract_eq_take_drop,List.drop_succ_cons,List.drop_zero]
 rw [List.take_of_length_le (by simp [v.len])]
theorem a0c {v u:Vd} (h1:v.kind=u.kind) (h2:v.mode=u.mode) (h3:v.size=u.size) (h4:v.sum=u.sum):v=u:=by
 obtain ⟨a,b,c,d,e⟩:=v
 obtain ⟨a',b',c',d',e'⟩:=u
 simp only at h1 h2 h3 h4
 subst h1 h2 h3 h4
 rfl
theorem eq24 (d:Nat) (v u:Vd) (w:World):(Op.equalIn (d+3) 24 (.agg (vx v).toArray) (.agg (vx u).toArray)).run Tryz.prog w=.ok (decide (v=u)) w:=by
 rw [show d+3=(d+2)+1 from rfl,run_equalIn_struct w (d+2) 24 _ _ ir (by kernel_rfl)]
 obtain ⟨a,b,c,e,hf,ha,hb,hc,he⟩:=fields24
 simp only [Prod.mk.injEq] at ha hb hc he
 rw [hf]
 have n1 : ∀ s : String, s ∈ ["Kind", "Mode", "Size", "Sum"] → s ≠ "_" := by decide
 have hv:=v.len
 have hu:=u.len
 rw [aW (d+1) _ _ a _ v.kind u.kind (by rw [ha.1];exact n1 _ (by simp)) ha.2.1 (by rw [ha.2.2];rfl) (by rw [ha.2.2];rfl),
  aW (d+1) _ _ b _ v.mode u.mode (by rw [hb.1];exact n1 _ (by simp)) hb.2.1 (by rw [hb.2.2];rfl) (by rw [hb.2.2];rfl),
  aW (d+1) _ _ c _ v.size u.size (by rw [hc.1];exact n1 _ (by simp)) hc.2.1 (by rw [hc.2.2];rfl) (by rw [hc.2.2];rfl)]
 by_cases h1:v.kind=u.kind
 ·rw [if_pos h1]
  by_cases h2:v.mode=u.mode
  ·rw [if_pos h2]
   by_cases h3:v.size=u.size
   ·rw [if_pos h3,Op.eqFields,if_pos (by rw [he.1];exact n1 _ (by simp)),he.2.1,he.2.2]
    simp only [Sem.run_bind,Result.andThen_ok,xh 22 _ 32 Tryz.underlying22 rfl iu (vx v).toArray 3 (by simp [jq]),xh 22 _ 32 Tryz.underlying22 rfl iu (vx u).toArray 3 (by simp [jq]),iv,eq22 d v.sum u.sum hv hu]
    by_cases h4:v.sum=u.sum
    ·have:v=u:=a0c h1 h2 h3 h4
     subst this
     simp [Op.eqFields]
    ·have:v≠u:=fun e=>h4 (by rw [e])
     simp [h4,this]
   ·rw [if_neg h3]
    have:v≠u:=fun e=>h3 (by rw [e])
    simp [this]
  ·rw [if_neg h2]
   have:v≠u:=fun e=>h2 (by rw [e])
   simp [this]
 ·rw [if_neg h1]
  have:v≠u:=fun e=>h1 (by rw [e])
  simp [this]
theorem eq26 (d:Nat) (a b a' b':Int) (w:World):(Op.equalIn (d+2) 156 (.agg #[.int .i64 a,.int .i64 b]) (.agg #[.int .i64 a',.int .i64 b'])).run Tryz.prog w=.ok (decide (a=a'∧b=b')) w:=by
 rw [show d+2=(d+1)+1 from rfl,run_equalIn_struct w (d+1) 156 _ _ aX (by kernel_rfl)]
 obtain ⟨fa,fb,hf,ha,hb⟩:=fields26
 simp only [Prod.mk.injEq] at ha hb
 rw [hf]
 have n1 : ∀ s : String, s ∈ ["Number", "Stamp"] → s ≠ "_" := by decide
 rw [aW d _ _ fa _ a a' (by rw [ha.1];exact n1 _ (by simp)) ha.2.1 (by rw [ha.2.2];rfl) (by rw [ha.2.2];rfl),
  aW d _ _ fb _ b b' (by rw [hb.1];exact n1 _ (by simp)) hb.2.1 (by rw [hb.2.2];rfl) (by rw [hb.2.2];rfl),Op.eqFields]
 by_cases h1:a=a'<;>by_cases h2:b=b'<;>simp [h1,h2]
theorem size26 (w:World):(sizeOf 156).run Tryz.prog w=.ok 2 w:=by
 have h1:(Tryz.prog.info? 156).map (·.size)=some 2:=by kernel_rfl
 cases hq:Tryz.prog.info? 156 with
 | none=>simp [hq] at h1
 | some i=>
  have hs:i.size=2:=by simpa [hq] using h1
  simp [sizeOf,typeInfo,hq,hs]
theorem eq27 (d:Nat) (m n:Md) (w:World):(Op.equalIn (d+3) 157 (.agg (mx m).toArray) (.agg (mx n).toArray)).run Tryz.prog w=.ok (decide (m=n)) w:=by
 rw [show d+3=(d+2)+1 from rfl]
 unfold Op.equalIn
 have hs:(Tryz.prog.info? 156).map (·.size)=some 2:=by kernel_rfl
 simp only [Sem.run_bind,run_underlying Tryz.underlying157,Result.andThen_ok,size26]
 rw [Std.Legacy.Range.forIn_eq_forIn_range']
 have h2:(List.range' [:2].start [:2].size [:2].step)=[0,1]:=by simp [List.range']
 rw [h2]
 obtain ⟨a,b,c,e⟩:=m
 obtain ⟨a',b',c',e'⟩:=n
 have x0:∀ w,(part 156 (mx ⟨a,b,c,e⟩).toArray 0).run Tryz.prog w=.ok (.agg #[.int .i64 a,.int .i64 b]) w:=fun w=>by
  rw [xh 156 _ 2 aX rfl hs _ 0 (by simp [mx])];simp [mx]
 have x1:∀ w,(part 156 (mx ⟨a,b,c,e⟩).toArray 2).run Tryz.prog w=.ok (.agg #[.int .i64 c,.int .i64 e]) w:=fun w=>by
  rw [xh 156 _ 2 aX rfl hs _ 2 (by simp [mx])];simp [mx]
 have y0:∀ w,(part 156 (mx ⟨a',b',c',e'⟩).toArray 0).run Tryz.prog w=.ok (.agg #[.int .i64 a',.int .i64 b']) w:=fun w=>by
  rw [xh 156 _ 2 aX rfl hs _ 0 (by simp [mx])];simp [mx]
 have y1:∀ w,(part 156 (mx ⟨a',b',c',e'⟩).toArray 2).run Tryz.prog w=.ok (.agg #[.int .i64 c',.int .i64 e']) w:=fun w=>by
  rw [xh 156 _ 2 aX rfl hs _ 2 (by simp [mx])];simp [mx]
 simp only [List.forIn_cons,Sem.run_bind,Nat.zero_mul,Nat.one_mul,x0,y0,Result.andThen_ok,eq26]
 by_cases h1:a=a'∧b=b'
 ·by_cases h2:c=c'∧e=e'
  ·obtain ⟨rfl,rfl⟩:=h1
   obtain ⟨rfl,rfl⟩:=h2
   simp [x1,eq26]
  ·obtain ⟨rfl,rfl⟩:=h1
   have:¬ ((⟨a,b,c,e⟩:Md)=⟨a,b,c',e'⟩):=by simpa using h2
   simp [x1,y1,eq26,h2,this]
 ·have:¬ ((⟨a,b,c,e⟩:Md)=⟨a',b',c',e'⟩):=by
   simp only [Md.mk.injEq]
   rintro ⟨q1,q2,_⟩
   exact h1 ⟨q1,q2⟩
  simp [h1,this]
theorem iw {o:Oper} {a:Act} (x y:Operand) (v u:Vd) (ho:o.op=.binOp .eql 24 x y 24) (hx:a.eval x=.agg (vx v).toArray) (hy:a.eval y=.agg (vx u).toArray) (w:World):
  (execOp a.eval o).run Tryz.prog w=.ok (.value (.bool (decide (v=u)))) w:=by
 have h':(Op.equal 24 (.agg (vx v).toArray) (.agg (vx u).toArray)).run Tryz.prog w=.ok (decide (v=u)) w:=eq24 9997 v u w
 have hg:Tryz.prog.eqGuardType Tryz.prog.depth 24=false:=by kernel_rfl
 unfold execOp
 simp only [ho,hx,hy,eqGuard,binOp,Sem.run_bind]
 simp [Result.andThen,hg,h']
theorem gc {o:Oper} {a:Act} (x y:Operand) (v u:Md) (ho:o.op=.binOp .neq 157 x y 157) (hx:a.eval x=.agg (mx v).toArray) (hy:a.eval y=.agg (mx u).toArray) (w:World):
  (execOp a.eval o).run Tryz.prog w=.ok (.value (.bool (!decide (v=u)))) w:=by
 have h':(Op.equal 157 (.agg (mx v).toArray) (.agg (mx u).toArray)).run Tryz.prog w=.ok (decide (v=u)) w:=eq27 9997 v u w
 have hg:Tryz.prog.eqGuardType Tryz.prog.depth 157=false:=by kernel_rfl
 unfold execOp
 simp only [ho,hx,hy,eqGuard,binOp,Sem.run_bind]
 simp [Result.andThen,hg,h']
theorem jU {ops:Array Oper} {rest:List Oper} {o:Oper} {a:Act} {w:World} {Q:Exit→Act→World→Prop} (v:Value)
  (he:(execOp a.eval o).run Tryz.prog w=.ok (.value v) w) (hw:Region.wanted o (yielded ops a.tmps)=true) (h:wpList Tryz.prog ops Q rest (a.put o.dst v) w):wpList Tryz.prog ops Q (o::rest) a w:=by
 refine wpList_step fun K hK=>?_
 rw [if_pos hw]
 unfold Oper.wp
 rw [he,Oper.upon_value]
 exact hK _ _ h
theorem jQ {o:Oper} {a:Act} {w:World} (ty:TypeId) (x:Operand) (ho:o.op=.load ty x) (b off:Nat) (hx:a.eval x=.pointer (some ⟨b,off,none⟩)) (c:Array Value) (d:TypeDesc) (hc:Lies w b off c)
  (hu:Tryz.prog.underlying ty=some d) (hd:d.isRow=true) (hi:(Tryz.prog.info? ty).map (·.size)=some c.size):(execOp a.eval o).run Tryz.prog w=.ok (.value (.agg c)) w:=by
 unfold execOp
 simp only [ho,hx,Sem.run_bind,ag ty d hu hd hi hc,Result.andThen_ok,Sem.run_pure]
theorem kA {o:Oper} {a:Act} {w:World} (x:Operand) (ho:o.op=.load 24 x) (b off:Nat) (hx:a.eval x=.pointer (some ⟨b,off,none⟩)) (c:Array Value) (hs:c.size=35) (hc:Lies w b off c):(execOp a.eval o).run Tryz.prog w=.ok (.value (.agg c)) w:=
 jQ 24 x ho b off hx c _ hc ir rfl (by rw [size24,hs])
theorem zu {o:Oper} {a:Act} {w:World} (x:Operand) (ho:o.op=.load 157 x) (b off:Nat) (hx:a.eval x=.pointer (some ⟨b,off,none⟩)) (c:Array Value) (hs:c.size=4) (hc:Lies w b off c):(execOp a.eval o).run Tryz.prog w=.ok (.value (.agg c)) w:=
 jQ 157 x ho b off hx c _ hc Tryz.underlying157 rfl (by rw [size27,hs])
theorem Lies.part {w:World} {g o:Nat} {c:Array Value} (h:Lies w g o c) (i j:Nat):Lies w g (o+i) (c.extract i j):=fun k u hk=>by
 rw [Array.getElem?_extract] at hk
 split at hk
 ·have:=h (i+k) u hk
  rw [Nat.add_assoc]
  exact this
 ·cases hk
theorem oU {w:World} {g o:Nat} {nm:ByteArray} {v:Vd} {m:Md} {kv:Value} (h:Lies w g o (nc nm v m kv)):Lies w g (o+1) (vx v).toArray:=by
 have:=h.part 1 36
 rwa [a0Z] at this
theorem ge {w:World} {g o:Nat} {nm:ByteArray} {v:Vd} {m:Md} {kv:Value} (h:Lies w g o (nc nm v m kv)):Lies w g (o+36) (mx m).toArray:=by
 have:=h.part 36 40
 rwa [oT] at this
theorem ix {w:World} {g o:Nat} {nm:ByteArray} {v:Vd} {m:Md} {kv:Value} (h:Lies w g o (nc nm v m kv)):w.cell? ⟨g,o+40,none⟩=some kv:=h 40 kv (wN ..)
theorem aY {o:Oper} {a:Act} (x y:Operand) (ho:o.op=.binOp .neq 157 x y 157) (X Y:Array Value) (hx:a.eval x=.agg X) (hy:a.eval y=.agg Y) (v u:Md) (hX:X=(mx v).toArray) (hY:Y=(mx u).toArray) (b:Bool) (hb:(!decide (v=u))=b) (w:World):
  (execOp a.eval o).run Tryz.prog w=.ok (.value (.bool b)) w:=by
 subst hX hY hb
 exact gc x y v u ho hx hy w
theorem yc {o:Oper} {a:Act} (x y:Operand) (ho:o.op=.binOp .eql 24 x y 24) (X Y:Array Value) (hx:a.eval x=.agg X) (hy:a.eval y=.agg Y) (v u:Vd) (hX:X=(vx v).toArray) (hY:Y=(vx u).toArray) (b:Bool) (hb:decide (v=u)=b) (w:World):
  (execOp a.eval o).run Tryz.prog w=.ok (.value (.bool b)) w:=by
 subst hX hY hb
 exact iw x y v u ho hx hy w
def G (w w':World):Prop:=Below w.heap.size w w'
theorem G.refl (w:World):G w w:=Below.refl _ _
theorem G.trans {a b c:World} (h:G a b) (k:G b c):G a c:=Below.trans (B:=a.heap.size) h (k.mono h.size)
theorem G.drew (w:World):G w w.drew:=(Below.refl _ w).drew
theorem G.cell {w w':World} {a:Addr} {v:Value} (h:G w w') (hc:w.cell? a=some v):w'.cell? a=some v:=(Below.cell (B:=w.heap.size) h (World.block_lt_of_cell? w _ hc)).trans hc
theorem G.lies {w w':World} {g o:Nat} {c:Array Value} (h:G w w') (hc:Lies w g o c):Lies w' g o c:=hc.below h
theorem G.alloc (w:World) (o:Obj):G w (w.alloc o):=(Below.refl _ w).alloc (Nat.le_refl _) o
def kR (ops:Array Oper) (w0:World) (o:Oper) (v:Value) (a:Act):Prop:=
 (Region.wanted o (yielded ops a.tmps)=true∧∀ w,G w0 w→o.quietAt Tryz.prog a (G w) w v)∨(Region.wanted o (yielded ops a.tmps)=false∧v=undef)
theorem kR.of_same {ops:Array Oper} {w0:World} {o:Oper} {v:Value} {a a':Act} (h:kR ops w0 o v a) (he:execOp a'.eval o=execOp a.eval o)
  (hw:Region.wanted o (yielded ops a'.tmps)=Region.wanted o (yielded ops a.tmps)):kR ops w0 o v a':=by
 unfold kR Oper.quietAt at *
 rw [he,hw]
 exact h
theorem kR.mono {ops:Array Oper} {w0 w1:World} {o:Oper} {v:Value} {a:Act} (h:kR ops w0 o v a) (hg:G w0 w1):kR ops w1 o v a:=
 h.imp (fun h=>⟨h.1,fun w hw=>h.2 w (hg.trans hw)⟩) id
theorem cG {o:Oper} {a:Act} {w:World} {v:Value} {K:Act→World→Prop} {Q:Exit→Act→World→Prop} (h:o.quietAt Tryz.prog a (G w) w v) (hk:∀ w',G w w'→K (a.put o.dst v) w'):o.wp Tryz.prog a w K Q:=by
 unfold Oper.quietAt at h
 unfold Oper.wp
 generalize (execOp a.eval o).run Tryz.prog w=r at *
 match r,h with
 | .ok (.value u) w',h=>
  obtain ⟨rfl,rfl⟩:=h
  exact hk _ (G.refl _)
 | .ok .skip w',h=>
  obtain ⟨rfl,rfl⟩:=h
  exact hk _ (G.refl _)
 | .ok (.enter f args) w',h=>
  obtain ⟨rfl,h⟩:=h
  refine Calls.mono h ?_
  rintro e w'' ⟨rfl,hg⟩
  exact hk _ hg
theorem kR.wpOp {ops:Array Oper} {Q:Exit→Act→World→Prop} {w0 w:World} {i:Nat} {o:Oper} {v:Value} {a:Act} {K:Act→World→Prop} (h:kR ops w0 o v a) (hi:ops[i]?=some o) (hg:G w0 w) (hk:∀ w',G w w'→K (a.put o.dst v) w'):wpOp Tryz.prog ops Q i K a w:=by
 unfold Go.wpOp
 rw [hi]
 rcases h with ⟨hw,h⟩ | ⟨hw,rfl⟩
 ·simp only [hw,if_true]
  exact .inl (cG (h w hg) hk)
 ·simp only [hw,Bool.false_eq_true,if_false]
  exact hk _ (G.refl _)
theorem eC {ops:Array Oper} {Q:Exit→Act→World→Prop} {w0 w:World} {j:Nat} {oi oj:Oper} {v:Value} {a:Act} {K:Act→World→Prop} (hj:ops[j]?=some oj) (hap:oi.apart ops oj=true)
  (hsi:∀ cs b,oi.op≠.select cs b) (hsj:∀ cs b,oj.op≠.select cs b) (hQ:∀ c a w,Q (.panic c) (a.put oi.dst v) w→Q (.panic c) a w)
  (hy:kR ops w0 oi v a) (h:wpOp Tryz.prog ops Q j K (a.put oi.dst v) w):wpOp Tryz.prog ops Q j (fun a' w'=>kR ops w0 oi v a'∧K (a'.put oi.dst v) w') a w:=by
 obtain ⟨s1,s2,s3⟩:=Oper.apart_spec hap
 have stay:∀ u,kR ops w0 oi v (a.put oj.dst u):=fun u=>hy.of_same (execOp_put oi hsi a oj.dst u s3) (wanted_put oi a oj.dst u s3)
 have swap:∀ u,(a.put oi.dst v).put oj.dst u=(a.put oj.dst u).put oi.dst v:=fun u=>Act.put_comm a v u s2
 have ex:execOp (a.put oi.dst v).eval oj=execOp a.eval oj:=execOp_put oj hsj a oi.dst v s1
 unfold Go.wpOp at h ⊢
 rw [hj] at h ⊢
 simp only at h ⊢
 rw [wanted_put oj a oi.dst v s1] at h
 by_cases hw:Region.wanted oj (yielded ops a.tmps)=true
 ·rw [if_pos hw] at h ⊢
  rcases h with h | h
  ·left
   unfold Oper.wp at h ⊢
   rw [ex] at h
   generalize (execOp a.eval oj).run Tryz.prog w=r at h ⊢
   match r,h with
   | .ok (.value u) w',h=>exact ⟨stay u,by rw [← swap];exact h⟩
   | .ok .skip w',h=>exact ⟨stay undef,by rw [← swap];exact h⟩
   | .ok (.defer d) w',h=>
    refine ⟨(hy.of_same (a':={ a with defers:=d::a.defers }) rfl rfl).of_same (execOp_put oi hsi _ oj.dst undef s3) (wanted_put oi _ oj.dst undef s3),?_⟩
    rw [← Act.put_comm _ v undef s2,← Act.put_defers]
    exact h
   | .ok (.enter f args) w',h=>
    refine Calls.mono h fun e w'' he=>?_
    match e,he with
    | .returned u,he=>exact ⟨stay u,by rw [← swap];exact he⟩
    | .panicked c,he=>exact hQ _ _ _ he
    | .outgrown,he=>exact he
   | .ok (.row row args) w',h=>exact Rows.mono h fun u w'' he=>⟨stay u,by rw [← swap];exact he⟩
   | .halt (.panic u) w',h=>exact hQ _ _ _ h
  ·right
   refine ⟨?_,h.2⟩
   have:=h.1
   unfold Oper.asks at this ⊢
   rw [ex] at this
   exact this
 ·rw [if_neg hw] at h ⊢
  exact ⟨stay undef,by rw [← swap];exact h⟩
def wpG (md:Region.Mode) (ops:Array Oper) (Q:Exit→Act→World→Prop):Nat→Array Bool→Act→World→Prop
 | 0,listed,a,w0=>∀ w,G w0 w→Region.ready md ops listed=[]∧Q .normal a w
 | n+1,listed,a,w0=>∀ w,G w0 w→(Region.ready md ops listed=[]→Q .normal a w)∧
  ∀ i∈Region.ready md ops listed,wpOp Tryz.prog ops Q i (fun a' w'=>G w w'∧wpG md ops Q n (listed.setIfInBounds i true) a' w') a w
theorem wpG.grow {md:Region.Mode} {ops:Array Oper} {Q:Exit→Act→World→Prop} {n:Nat} {listed:Array Bool} {a:Act} {w w':World} (h:wpG md ops Q n listed a w) (hg:G w w'):wpG md ops Q n listed a w':=by
 cases n with
 | zero=>exact fun x hx=>h x (hg.trans hx)
 | succ n=>exact fun x hx=>h x (hg.trans hx)
theorem wpG.any {md:Region.Mode} {ops:Array Oper} {Q:Exit→Act→World→Prop}:∀ (n:Nat) (listed:Array Bool) (a:Act) (w:World),wpG md ops Q n listed a w→wpAny Tryz.prog md ops Q n listed a w
 | 0,_,_,w,h=>h w (G.refl w)
 | n+1,_,_,w,h=>⟨(h w (G.refl w)).1,fun i hi=>wpOp_mono (fun a' w' h'=>wpG.any n _ a' w' h'.2) ((h w (G.refl w)).2 i hi)⟩
theorem dD {md:Region.Mode} {ops:Array Oper} {Q:Exit→Act→World→Prop} {i:Nat} {oi:Oper} {v:Value} (hi:ops[i]?=some oi) (hsel:∀ (j:Nat) (o:Oper) cs b,ops[j]?=some o→o.op≠.select cs b)
  (hQ:∀ c a w,Q (.panic c) (a.put oi.dst v) w→Q (.panic c) a w):
  ∀ (n:Nat) (listed:Array Bool) (a:Act) (w0:World),(∀ j oj,ops[j]?=some oj→j≠i→listed.getD j true=false→(∀ e∈oj.after,Region.binds md e=true→e.on≠i)→oi.apart ops oj=true)→
   i∈Region.ready md ops listed→kR ops w0 oi v a→wpG md ops Q n (listed.setIfInBounds i true) (a.put oi.dst v) w0→wpG md ops Q (n+1) listed a w0:=by
 intro n
 induction n with
 | zero=>
  intro listed a w0 _ hr hy H w hg
  refine ⟨fun e=>(by rw [e] at hr;cases hr),fun j hj=>?_⟩
  by_cases hji:j=i
  ·subst hji
   exact hy.wpOp hi hg fun w' hg'=>⟨hg',fun x hx=>H x ((hg.trans hg').trans hx)⟩
  ·have:=ready_mono hj hji
   rw [(H w hg).1] at this
   cases this
 | succ n ih=>
  intro listed a w0 hfree hr hy H w hg
  refine ⟨fun e=>(by rw [e] at hr;cases hr),fun j hj=>?_⟩
  by_cases hji:j=i
  ·subst hji
   exact hy.wpOp hi hg fun w' hg'=>⟨hg',H.grow (hg.trans hg')⟩
  ·obtain ⟨hun,oj,hoj,hall⟩:=mem_ready.1 hj
   have hno:∀ e∈oj.after,Region.binds md e=true→e.on≠i:=fun e he hb heq=>by
    have h1:=hall e he hb
    rw [heq] at h1
    have h0:=(mem_ready.1 hr).1
    by_cases hlt:i<listed.size
    ·simp [Array.getD,hlt] at h0 h1
     rw [h0] at h1
     cases h1
    ·simp [Array.getD,hlt] at h1
   have h2:=eC hoj (hfree j oj hoj hji hun hno) (fun cs b=>hsel i oi cs b hi) (fun cs b=>hsel j oj cs b hoj) hQ hy ((H w hg).2 j (ready_mono hj hji))
   refine wpOp_mono (fun a' w' h3=>⟨h3.2.1,ih (listed.setIfInBounds j true) a' w' ?_ (ready_mono hr (Ne.symm hji)) (h3.1.mono (hg.trans h3.2.1)) ?_⟩) h2
   ·intro k ok hk hki hunk hnok
    refine hfree k ok hk hki ?_ hnok
    by_cases hjk:j=k
    ·subst hjk;exact hun
    ·rwa [getD_set_ne true hjk] at hunk
   ·rw [Array.setIfInBounds_comm _ _ hji]
    exact h3.2.2
section
variable {ops:Array Oper} {Q:Exit→Act→World→Prop} {md:Region.Mode}
theorem eD {id:Nat} {a:Act} {w:World} (h:wpG .any ops Q ops.size (Array.replicate ops.size false) a w.drew):(Code.region id ops true).wp Tryz.prog Q a w:=
 wp_region_any (by kernel_rfl) (wpG.any _ _ _ _ h)
theorem zv (i d:Nat) (v:Value) {oi:Oper} {n:Nat} {listed:Array Bool} {a:Act} {w0:World} (hi:ops[i]?=some oi) (hd:oi.dst=some d)
  (hs:Region.noSelect ops=true) (hf:Region.free md ops listed i=true) (hr:(Region.ready md ops listed).contains i=true)
  (hQ:∀ c a w,Q (.panic c) (a.put (some d) v) w→Q (.panic c) a w) (hw:Region.wanted oi (yielded ops a.tmps)=true) (hy:∀ w,G w0 w→(execOp a.eval oi).run Tryz.prog w=.ok (.value v) w)
  (h:wpG md ops Q n (listed.setIfInBounds i true) (a.put (some d) v) w0):wpG md ops Q (n+1) listed a w0:=
 dD hi (Region.noSelect_spec hs) (by rw [hd];exact hQ) n listed a w0 (Region.free_spec hi hf) (by simpa using hr)
  (.inl ⟨hw,fun w hg=>by unfold Oper.quietAt;rw [hy w hg];exact ⟨rfl,rfl⟩⟩) (by rw [hd];exact h)
theorem callG (i d:Nat) (v:Value) {oi:Oper} {n:Nat} {listed:Array Bool} {a:Act} {w0:World} (f:FuncId) (args:Array Value) (hi:ops[i]?=some oi) (hd:oi.dst=some d)
  (hs:Region.noSelect ops=true) (hf:Region.free md ops listed i=true) (hr:(Region.ready md ops listed).contains i=true)
  (hQ:∀ c a w,Q (.panic c) (a.put (some d) v) w→Q (.panic c) a w) (hw:Region.wanted oi (yielded ops a.tmps)=true) (hx:∀ w,(execOp a.eval oi).run Tryz.prog w=.ok (.enter f args) w)
  (hc:∀ w,G w0 w→Calls Tryz.prog f args w fun e w'=>e=.returned v∧G w w')
  (h:wpG md ops Q n (listed.setIfInBounds i true) (a.put (some d) v) w0):wpG md ops Q (n+1) listed a w0:=
 dD hi (Region.noSelect_spec hs) (by rw [hd];exact hQ) n listed a w0 (Region.free_spec hi hf) (by simpa using hr)
  (.inl ⟨hw,fun w hg=>by unfold Oper.quietAt;rw [hx w];exact ⟨rfl,hc w hg⟩⟩) (by rw [hd];exact h)
theorem doneG {n:Nat} {listed:Array Bool} {a:Act} {w0:World} (hr:Region.ready md ops listed=[]) (h:∀ w,G w0 w→Q .normal a w):wpG md ops Q n listed a w0:=by
 cases n with
 | zero=>exact fun w hg=>⟨hr,h w hg⟩
 | succ n=>exact fun w hg=>⟨fun _=>h w hg,fun i hi=>by rw [hr] at hi;cases hi⟩
def AllG (md:Region.Mode) (ops:Array Oper) (Q:Exit→Act→World→Prop) (n:Nat) (listed:Array Bool) (a:Act) (w:World) (rs:List Nat):Prop:=
 ∀ i∈rs,wpOp Tryz.prog ops Q i (fun a' w'=>G w w'∧wpG md ops Q n (listed.setIfInBounds i true) a' w') a w
theorem AllG.nil {n:Nat} {listed:Array Bool} {a:Act} {w:World}:AllG md ops Q n listed a w []:=fun _ h=>by cases h
theorem AllG.call (i d:Nat) {oi:Oper} {n:Nat} {listed:Array Bool} {a:Act} {w:World} {rs:List Nat} (f:FuncId) (args:Array Value) (hi:ops[i]?=some oi) (hd:oi.dst=some d) (hw:Region.wanted oi (yielded ops a.tmps)=true)
  (hx:(execOp a.eval oi).run Tryz.prog w=.ok (.enter f args) w) (hc:Calls Tryz.prog f args w fun e w'=>∃ v,e=.returned v∧G w w'∧wpG md ops Q n (listed.setIfInBounds i true) (a.put (some d) v) w')
  (hs:AllG md ops Q n listed a w rs):AllG md ops Q n listed a w (i::rs):=fun j hj=>by
 rcases List.mem_cons.1 hj with rfl | hj
 ·unfold Go.wpOp
  rw [hi]
  simp only [hw,if_true]
  left
  unfold Oper.wp
  rw [hx]
  refine Calls.mono hc ?_
  rintro e w' ⟨v,rfl,hg,h⟩
  rw [hd]
  exact ⟨hg,h⟩
 ·exact hs j hj
theorem AllG.value (i d:Nat) (v:Value) (w':World) {oi:Oper} {n:Nat} {listed:Array Bool} {a:Act} {w:World} {rs:List Nat} (hi:ops[i]?=some oi) (hd:oi.dst=some d) (hw:Region.wanted oi (yielded ops a.tmps)=true)
  (hx:(execOp a.eval oi).run Tryz.prog w=.ok (.value v) w') (hg:G w w') (h:wpG md ops Q n (listed.setIfInBounds i true) (a.put (some d) v) w')
  (hs:AllG md ops Q n listed a w rs):AllG md ops Q n listed a w (i::rs):=fun j hj=>by
 rcases List.mem_cons.1 hj with rfl | hj
 ·unfold Go.wpOp
  rw [hi]
  simp only [hw,if_true]
  left
  unfold Oper.wp
  rw [hx]
  show G w w'∧_
  rw [hd]
  exact ⟨hg,h⟩
 ·exact hs j hj
end
theorem hid {p:Prop} (h:p):Hid p:=h
theorem jc (w:World) (c:Array Value) (t:TypeId):Lies (w.alloc (.cells c t)) w.heap.size 0 c:=fun j u hj=>by
 have h:(w.alloc (.cells c t)).heap[w.heap.size]?=some (.cells c t):=World.alloc_heap_new w _
 simp only [World.cell?,h,Nat.zero_add]
 exact hj
theorem jD {w:World} {g:Nat} {c:Array Value} (h:Lies w g 0 c) (j:Nat) (u:Value) (hj:c[j]?=some u):w.cell? ⟨g,j,none⟩=some u:=by
 have:=h j u hj
 rwa [Nat.zero_add] at this
def yw (n s:Int):Bool:=decide ((n=0∧s=0)∨((1≤n∧n≤72057594037927935)∧(1≤s∧s≤72057594037927935)))
def aO:List Nat:=List.replicate 32 0
def jV (v:Vd):Bool:=
 if v.kind=1 then decide ((0≤v.mode∧v.mode≤8)∧v.size=0∧v.sum=aO)
 else if v.kind=2 then decide ((0≤v.mode∧v.mode≤8)∧(0≤v.size∧v.size≤1099511627775))
 else if v.kind=3 then decide (v.mode=0∧(1≤v.size∧v.size≤4095)) else false
def Md.zero:Md:=⟨0,0,0,0⟩
def ownE (v:Vd) (m:Md) (kids:Bool):Int:=
 if v.kind≠1∧v.kind≠2∧v.kind≠3 then 40 else if kids=true∧v.kind≠1 then 40 else if jV v=false then 41
 else if v.kind=2∧(yw m.n0 m.s0=false∨yw m.n1 m.s1=false) then 41 else if v.kind≠2∧m≠Md.zero then 41 else 0
theorem zf (n a b:Int) (w:World):Calls Tryz.prog 150 #[.int .i64 n,.int .i64 a,.int .i64 b] w fun e w'=>e=.returned (.bool (decide (a≤n∧n≤b)))∧w'=w:=by
 by_cases h1:a≤n
 ·by_cases h2:n≤b
  ·have hr:decide (a≤n∧n≤b)=true:=by simp [h1,h2]
   rw [hr]
   go_enter Tryz.func150,Tryz.ntmps150
   go_wp2
   go_ret
   exact ⟨rfl,rfl⟩
  ·have hr:decide (a≤n∧n≤b)=false:=by simp [h2]
   rw [hr]
   go_enter Tryz.func150,Tryz.ntmps150
   go_wp2
   go_ret
   exact ⟨rfl,rfl⟩
 ·have hr:decide (a≤n∧n≤b)=false:=by simp [h1]
  rw [hr]
  go_enter Tryz.func150,Tryz.ntmps150
  go_wp2
  go_ret
  exact ⟨rfl,rfl⟩
theorem xo {o:Oper} {a:Act} (x y:Operand) (ho:o.op=.binOp .eql 156 x y 156) (n s n' s':Int) (hx:a.eval x=.agg #[.int .i64 n,.int .i64 s]) (hy:a.eval y=.agg #[.int .i64 n',.int .i64 s']) (b:Bool) (hb:decide (n=n'∧s=s')=b) (w:World):
  (execOp a.eval o).run Tryz.prog w=.ok (.value (.bool b)) w:=by
 have h':(Op.equal 156 (.agg #[.int .i64 n,.int .i64 s]) (.agg #[.int .i64 n',.int .i64 s'])).run Tryz.prog w=.ok b w:=by rw [← hb];exact eq26 9998 n s n' s' w
 have hg:Tryz.prog.eqGuardType Tryz.prog.depth 156=false:=by kernel_rfl
 unfold execOp
 simp only [ho,hx,hy,eqGuard,binOp,Sem.run_bind]
 simp [Result.andThen,hg,h']
theorem xS (n s:Int) (w:World):Calls Tryz.prog 136 #[.agg #[.int .i64 n,.int .i64 s]] w fun e w'=>e=.returned (.bool (yw n s))∧G w w':=by
 have C:=fun W x=>zf x 1 72057594037927935 W
 have HG:Hid (G w (w.alloc (.cells #[.int .i64 n,.int .i64 s] 156))):=G.alloc _ _
 obtain ⟨b1,hb1⟩:∃ b,decide (n=0∧s=0)=b:=⟨_,rfl⟩
 have B1:=hid hb1
 obtain ⟨b2,hb2⟩:∃ b,decide (1≤n∧n≤72057594037927935)=b:=⟨_,rfl⟩
 obtain ⟨b3,hb3⟩:∃ b,decide (1≤s∧s≤72057594037927935)=b:=⟨_,rfl⟩
 have CA:=hid (fun W=>(by have:=C W n;rw [hb2] at this;exact this:Calls Tryz.prog 150 #[.int .i64 n,.int .i64 1,.int .i64 72057594037927935] W fun e w'=>e=.returned (.bool b2)∧w'=W))
 have CB:=hid (fun W=>(by have:=C W s;rw [hb3] at this;exact this:Calls Tryz.prog 150 #[.int .i64 s,.int .i64 1,.int .i64 72057594037927935] W fun e w'=>e=.returned (.bool b3)∧w'=W))
 obtain ⟨R,hR⟩:∃ R,yw n s=R:=⟨_,rfl⟩
 have HR:Hid (R=(b1||(b2&&b3))):=by
  show _=_
  rw [← hR,← hb1,← hb2,← hb3]
  unfold yw
  simp only [Bool.decide_or,Bool.decide_and]
 rw [hR]
 clear hb1 hb2 hb3 hR C
 cases b1 with
 | true=>
  go_enter Tryz.func136,Tryz.ntmps136
  go_wp2_with (with_reducible refine jU (.bool true) ?_ ?_ ?_;exact xo _ _ rfl n s 0 0 rfl rfl true B1.o _;kernel_rfl)
  go_ret
  exact ⟨by rw [HR.o];rfl,HG.o⟩
 | false=>
  cases b2 with
  | false=>
   go_enter Tryz.func136,Tryz.ntmps136
   go_wp2_with (first
    | (with_reducible refine jU (.bool false) ?_ ?_ ?_;exact xo _ _ rfl n s 0 0 rfl rfl false B1.o _;kernel_rfl)
    | (go_at_call 150;refine (CA.o _).mono ?_;rintro e w1 ⟨rfl,e1⟩;subst e1))
   go_ret
   exact ⟨by rw [HR.o];rfl,HG.o⟩
  | true=>
   go_enter Tryz.func136,Tryz.ntmps136
   go_wp2_with (first
    | (with_reducible refine jU (.bool false) ?_ ?_ ?_;exact xo _ _ rfl n s 0 0 rfl rfl false B1.o _;kernel_rfl)
    | (go_at_call_of 150 (Value.int .i64 n);refine (CA.o _).mono ?_;rintro e w1 ⟨rfl,e1⟩;subst e1)
    | (go_at_call 150;refine (CB.o _).mono ?_;rintro e w1 ⟨rfl,e1⟩;subst e1))
   go_ret
   exact ⟨by rw [HR.o];simp,HG.o⟩
theorem xp {o:Oper} {a:Act} (x y:Operand) (ho:o.op=.binOp .eql 22 x y 22) (X Y:Array Value) (hx:a.eval x=.agg X) (hy:a.eval y=.agg Y) (l m:List Nat) (hX:X=(l.map vb).toArray) (hY:Y=(m.map vb).toArray) (hl:l.length=32) (hm:m.length=32) (b:Bool) (hb:decide (l=m)=b) (w:World):
  (execOp a.eval o).run Tryz.prog w=.ok (.value (.bool b)) w:=by
 subst hX hY
 have h':(Op.equal 22 (.agg (l.map vb).toArray) (.agg (m.map vb).toArray)).run Tryz.prog w=.ok b w:=by rw [← hb];exact eq22 9998 l m hl hm w
 have hg:Tryz.prog.eqGuardType Tryz.prog.depth 22=false:=by kernel_rfl
 unfold execOp
 simp only [ho,hx,hy,eqGuard,binOp,Sem.run_bind]
 simp [Result.andThen,hg,h']
theorem av {o:Oper} {a:Act} {w:World} (x:Operand) (ho:o.op=.load 22 x) (b off:Nat) (hx:a.eval x=.pointer (some ⟨b,off,none⟩)) (c:Array Value) (hs:c.size=32) (hc:Lies w b off c):(execOp a.eval o).run Tryz.prog w=.ok (.value (.agg c)) w:=
 jQ 22 x ho b off hx c _ hc Tryz.underlying22 rfl (by rw [iu,hs])
theorem yx {o:Oper} {a:Act} (t:TypeId) (ho:o.op=.build t #[]) (c:Array Value) (hb:Tryz.prog.built t []=some c) (w:World):(execOp a.eval o).run Tryz.prog w=.ok (.value (.agg c)) w:=by
 unfold execOp
 simp only [ho]
 have h:=run_build (P:=Tryz.prog) w t #[] c hb
 simp only [Array.map_empty,Sem.run_bind,h,Result.andThen_ok,Sem.run_pure]
theorem mu:Tryz.prog.built 22 []=some (aO.map vb).toArray:=by kernel_rfl
theorem built27:Tryz.prog.built 157 []=some (mx Md.zero).toArray:=by kernel_rfl
theorem bd (v:Vd) (X:Array Value) (hX:X=(vx v).toArray) (w:World):Calls Tryz.prog 135 #[.agg X] w fun e w'=>e=.returned (.bool (jV v))∧G w w':=by
 have HG:Hid (G w (w.alloc (.cells X 24))):=G.alloc _ _
 have hl:=jc w X 24
 have c0:=jD hl 0 (.int .i64 v.kind) (by rw [hX];rfl)
 have c1:=jD hl 1 (.int .i64 v.mode) (by rw [hX];rfl)
 have c2:=jD hl 2 (.int .i64 v.size) (by rw [hX];rfl)
 have x0:X[0]?=some (.int .i64 v.kind):=by rw [hX];rfl
 have x1:X[1]?=some (.int .i64 v.mode):=by rw [hX];rfl
 have x2:X[2]?=some (.int .i64 v.size):=by rw [hX];rfl
 obtain ⟨S,hS⟩:∃ S,(v.sum.map vb).toArray=S:=⟨_,rfl⟩
 have HL:Hid (Lies (w.alloc (.cells X 24)) w.heap.size 3 S∧S.size=32∧S=(v.sum.map vb).toArray):=by
  refine ⟨?_,by rw [← hS];simp [v.len],hS.symm⟩
  have:=hl.part 3 (3+32)
  rw [hX,iv,hS] at this
  rw [hX]
  simpa using this
 obtain ⟨Z,hZ⟩:∃ Z,(aO.map vb).toArray=Z:=⟨_,rfl⟩
 have HZ:Hid (Tryz.prog.built 22 []=some Z∧Z=(aO.map vb).toArray):=⟨by rw [mu,hZ],hZ.symm⟩
 have HV:Hid (v.sum.length=32):=v.len
 obtain ⟨R,hR⟩:∃ R,jV v=R:=⟨_,rfl⟩
 rw [hR]
 have HR:Hid (jV v=R):=hR
 obtain ⟨b1,hb1⟩:∃ b,decide (0≤v.mode∧v.mode≤8)=b:=⟨_,rfl⟩
 obtain ⟨b2,hb2⟩:∃ b,decide (0≤v.size∧v.size≤1099511627775)=b:=⟨_,rfl⟩
 obtain ⟨b3,hb3⟩:∃ b,decide (1≤v.size∧v.size≤4095)=b:=⟨_,rfl⟩
 obtain ⟨b4,hb4⟩:∃ b,decide (v.sum=aO)=b:=⟨_,rfl⟩
 have CA:=hid (fun W=>(by have:=zf v.mode 0 8 W;rw [hb1] at this;exact this:Calls Tryz.prog 150 #[.int .i64 v.mode,.int .i64 0,.int .i64 8] W fun e w'=>e=.returned (.bool b1)∧w'=W))
 have CB:=hid (fun W=>(by have:=zf v.size 0 1099511627775 W;rw [hb2] at this;exact this:Calls Tryz.prog 150 #[.int .i64 v.size,.int .i64 0,.int .i64 1099511627775] W fun e w'=>e=.returned (.bool b2)∧w'=W))
 have CC:=hid (fun W=>(by have:=zf v.size 1 4095 W;rw [hb3] at this;exact this:Calls Tryz.prog 150 #[.int .i64 v.size,.int .i64 1,.int .i64 4095] W fun e w'=>e=.returned (.bool b3)∧w'=W))
 have HB:=hid (⟨hb1,hb2,hb3,hb4⟩:decide (0≤v.mode∧v.mode≤8)=b1∧decide (0≤v.size∧v.size≤1099511627775)=b2∧decide (1≤v.size∧v.size≤4095)=b3∧decide (v.sum=aO)=b4)
 clear hR hb1 hb2 hb3 hb4 hZ hS hl hX
 obtain ⟨kd,hkd⟩:∃ k,v.kind=k:=⟨_,rfl⟩
 obtain ⟨md,hmd⟩:∃ k,v.mode=k:=⟨_,rfl⟩
 obtain ⟨sz,hsz⟩:∃ k,v.size=k:=⟨_,rfl⟩
 have HK:Hid (v.kind=kd∧v.mode=md∧v.size=sz):=⟨hkd,hmd,hsz⟩
 rw [hkd] at c0 x0
 rw [hmd] at c1 x1 CA
 rw [hsz] at c2 x2 CB CC
 clear hkd hmd hsz
 by_cases k1:kd=1
 ·subst k1
  cases b1 with
  | false=>
   have HF:Hid (R=false):=by
    show _=_
    have h:=HB.o.1
    rw [← HR.o,jV,if_pos HK.o.1]
    simp only [Bool.decide_and] at h ⊢
    rw [h];rfl
   go_enter Tryz.func135,Tryz.ntmps135
   go_wp2_with (go_at_call 150;refine (CA.o _).mono ?_;rintro e w1 ⟨rfl,e1⟩;subst e1)
   go_ret
   exact ⟨by rw [HF.o];rfl,HG.o⟩
  | true=>
   by_cases s0:sz=0
   ·subst s0
    have HF:Hid (R=b4):=by
     show _=_
     have h:=HB.o.1
     rw [← HR.o,jV,if_pos HK.o.1,← HB.o.2.2.2]
     simp only [Bool.decide_and] at h ⊢
     rw [h,HK.o.2.2];simp
    have HB4:Hid (decide (v.sum=aO)=b4):=HB.o.2.2.2
    go_enter Tryz.func135,Tryz.ntmps135
    go_wp2_with (first
     | (go_at_call 150;refine (CA.o _).mono ?_;rintro e w1 ⟨rfl,e1⟩;subst e1)
     | (with_reducible refine jU (.agg S) ?_ ?_ ?_;exact av _ rfl w.heap.size 3 rfl S HL.o.2.1 HL.o.1;kernel_rfl)
     | (with_reducible refine jU (.agg Z) ?_ ?_ ?_;exact yx 22 rfl Z HZ.o.1 _;kernel_rfl)
     | (with_reducible refine jU (.bool b4) ?_ ?_ ?_;exact xp _ _ rfl S Z rfl rfl v.sum aO HL.o.2.2 HZ.o.2 HV.o rfl b4 HB4.o _;kernel_rfl))
    go_ret
    exact ⟨by rw [HF.o];rfl,HG.o⟩
   ·have HF:Hid (R=false):=by
     show _=_
     rw [← HR.o,jV,if_pos HK.o.1,HK.o.2.2]
     simp [s0]
    have s1:(sz==0)=false:=by simpa using s0
    clear s0
    go_enter Tryz.func135,Tryz.ntmps135
    go_wp2_with (go_at_call 150;refine (CA.o _).mono ?_;rintro e w1 ⟨rfl,e1⟩;subst e1)
    go_ret
    exact ⟨by rw [HF.o];rfl,HG.o⟩
 ·have k1':(kd==1)=false:=by simpa using k1
  by_cases k2:kd=2
  ·subst k2
   have HF:Hid (R=(b1&&b2)):=by
    show _=_
    rw [← HR.o,jV,if_neg (by rw [HK.o.1];exact k1),if_pos HK.o.1,← HB.o.1,← HB.o.2.1]
    simp only [Bool.decide_and]
   clear k1
   cases b1 with
   | false=>
    go_enter Tryz.func135,Tryz.ntmps135
    go_wp2_with (go_at_call 150;refine (CA.o _).mono ?_;rintro e w1 ⟨rfl,e1⟩;subst e1)
    go_ret
    exact ⟨by rw [HF.o];rfl,HG.o⟩
   | true=>
    go_enter Tryz.func135,Tryz.ntmps135
    go_wp2_with (first
     | (go_at_call_of 150 (Value.int .i64 8);refine (CA.o _).mono ?_;rintro e w1 ⟨rfl,e1⟩;subst e1)
     | (go_at_call 150;refine (CB.o _).mono ?_;rintro e w1 ⟨rfl,e1⟩;subst e1))
    go_ret
    exact ⟨by rw [HF.o];simp,HG.o⟩
  ·have k2':(kd==2)=false:=by simpa using k2
   by_cases k3:kd=3
   ·subst k3
    by_cases m0:md=0
    ·subst m0
     have HF:Hid (R=b3):=by
      show _=_
      rw [← HR.o,jV,if_neg (by rw [HK.o.1];exact k1),if_neg (by rw [HK.o.1];exact k2),if_pos HK.o.1,← HB.o.2.2.1,HK.o.2.1]
      simp
     clear k1 k2
     go_enter Tryz.func135,Tryz.ntmps135
     go_wp2_with (go_at_call 150;refine (CC.o _).mono ?_;rintro e w1 ⟨rfl,e1⟩;subst e1)
     go_ret
     exact ⟨by rw [HF.o];rfl,HG.o⟩
    ·have HF:Hid (R=false):=by
      show _=_
      rw [← HR.o,jV,if_neg (by rw [HK.o.1];exact k1),if_neg (by rw [HK.o.1];exact k2),if_pos HK.o.1,HK.o.2.1]
      simp [m0]
     have m0':(md==0)=false:=by simpa using m0
     clear k1 k2 m0
     go_enter Tryz.func135,Tryz.ntmps135
     go_wp2_with fail
     go_ret
     exact ⟨by rw [HF.o];rfl,HG.o⟩
   ·have k3':(kd==3)=false:=by simpa using k3
    have HF:Hid (R=false):=by
     show _=_
     rw [← HR.o,jV,if_neg (by rw [HK.o.1];exact k1),if_neg (by rw [HK.o.1];exact k2),if_neg (by rw [HK.o.1];exact k3)]
    clear k1 k2 k3
    go_enter Tryz.func135,Tryz.ntmps135
    go_wp2_with fail
    go_ret
    exact ⟨by rw [HF.o];rfl,HG.o⟩
end Go.Proofs.YtdeanahpiigonaaGreatDoor
