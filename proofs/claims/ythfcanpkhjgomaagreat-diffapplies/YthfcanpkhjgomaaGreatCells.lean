import Derived.Test.YthfcanpkhjgomaaGreatFind
namespace Go.Proofs.YthfcanpkhjgomaaGreat
open Go.RowKit
theorem jJ {ops:Array Oper} {rest:List Oper} {o:Oper} {a:Act} {w:World} {Q:Exit→Act→World→Prop} (v:Value) (w':World)
  (he:(execOp a.eval o).run Tryz.prog w=.ok (.value v) w') (hw:Region.wanted o (yielded ops a.tmps)=true) (h:wpList Tryz.prog ops Q rest (a.put o.dst v) w'):wpList Tryz.prog ops Q (o::rest) a w:=by
 refine wpList_step fun K hK=>?_
 rw [if_pos hw]
 unfold Oper.wp
 rw [he,Oper.upon_value]
 exact hK _ _ h
theorem jP {ops:Array Oper} {rest:List Oper} {o:Oper} {a:Act} {w:World} {Q:Exit→Act→World→Prop} (w':World)
  (he:(execOp a.eval o).run Tryz.prog w=.ok .skip w') (hw:Region.wanted o (yielded ops a.tmps)=true) (h:wpList Tryz.prog ops Q rest (a.put o.dst undef) w'):wpList Tryz.prog ops Q (o::rest) a w:=by
 refine wpList_step fun K hK=>?_
 rw [if_pos hw]
 unfold Oper.wp
 rw [he,Oper.upon_skip]
 exact hK _ _ h
def Vd.zero:Vd:=⟨0,0,0,zeros,by simp [zeros]⟩
def z30:Array Value:=nc ⟨#[]⟩ Vd.zero Md.zero (.slice none 0 0)
theorem zero30:(Tryz.prog.info? 30).bind (·.zero)=some (.agg z30):=by kernel_rfl
theorem jU:z30.size=41:=jZ ..
theorem run_zero30 (w:World):(zeroValue 30).run Tryz.prog w=.ok (.agg z30) w:=by
 have h:=zero30
 cases hq:Tryz.prog.info? 30 with
 | none=>rw [hq] at h;cases h
 | some i=>
  rw [hq] at h
  simp only [Option.bind_some] at h
  simp [zeroValue,typeInfo,hq,h]
theorem exec_alloc30 {o:Oper} {a:Act} (ho:o.op=.alloc 30) (w:World):(execOp a.eval o).run Tryz.prog w=.ok (.value (.pointer (some ⟨w.heap.size,0,none⟩))) (w.alloc (.cells z30 30)):=by
 unfold execOp
 simp only [ho,Instr.alloc,Sem.run_bind,run_zero30,Result.andThen_ok]
 simp [newVar,newRow,newObj,Value.cells]
 rfl
def Var (w:World) (g:Nat) (c:Array Value):Prop:=w.heap[g]?=some (.cells c 30 (0,0))
theorem Var.lies {w:World} {g:Nat} {c:Array Value} (h:Var w g c):Lies w g 0 c:=fun j u hj=>by
 have h':w.heap[g]?=some (.cells c 30 (0,0)):=h
 simp only [World.cell?,h',Nat.zero_add]
 exact hj
theorem Var.lt {w:World} {g:Nat} {c:Array Value} (h:Var w g c):g<w.heap.size:=(Array.getElem?_eq_some_iff.1 h).1
theorem Var.new (w:World) (c:Array Value):Var (w.alloc (.cells c 30)) w.heap.size c:=World.alloc_heap_new w _
theorem Var.grow {w w':World} {g:Nat} {c:Array Value} (h:Var w g c) (hg:G w w'):Var w' g c:=(Below.block hg g h.lt).trans h
theorem jX {o:Oper} {a:Act} (x y:Operand) (ho:o.op=.store 30 x y) (g:Nat) (c old:Array Value) (hx:a.eval x=.pointer (some ⟨g,0,none⟩)) (hy:a.eval y=.agg c) (w:World) (hg:Var w g old)
  (hs:c.size=41) (hs':old.size=41) (h1:c.all (·.oneCell')=true):(execOp a.eval o).run Tryz.prog w=.ok .skip (w.setRow g c):=by
 unfold execOp
 simp only [ho,hx,hy,Instr.storeAt,Instr.sureAddr,Sem.run_bind,Sem.run_pure,Result.andThen_ok,run_storeVar_row (P:=Tryz.prog) w g 30 30 old c hg (by rw [size30,hs]) (by rw [hs,hs']) h1]
theorem Var.set {w:World} {g:Nat} {c old:Array Value} (h:Var w g old):Var (w.setRow g c) g c:=setRow_heap w g old c 30 _ h
theorem But.setRow {K:Nat} {a b:World} (h:But K a b) (cs:Array Value):But K a (b.setRow K cs):=
 ⟨h.os,h.tape,h.output,by simpa using h.size,fun j hj hn=>(setRow_other b K j cs (fun e=>hn e)).trans (h.block j hj hn)⟩
theorem nc_one (nm:ByteArray) (v:Vd) (m:Md) (kv:Value) (h:kv.oneCell'=true):(nc nm v m kv).all (·.oneCell')=true:=by
 rw [Array.all_eq_true_iff_forall_mem]
 intro x hx
 simp only [nc,vx,mx,List.mem_toArray,List.mem_cons,List.mem_append,List.mem_map,List.not_mem_nil,or_false] at hx
 rcases hx with rfl | (rfl | rfl | rfl | ⟨b,_,rfl⟩) | (rfl | rfl | rfl | rfl) | rfl<;>first | rfl | exact h
theorem new_var (w:World) (c:Array Value):G w ((w.alloc (.cells z30 30)).setRow w.heap.size c)∧Var ((w.alloc (.cells z30 30)).setRow w.heap.size c) w.heap.size c∧((w.alloc (.cells z30 30)).setRow w.heap.size c).heap.size=w.heap.size+1:=by
 have h:=(But.setRow (K:=w.heap.size) ((But.refl _ w).alloc (.cells z30 30)) c)
 exact ⟨h.below (Nat.le_refl _) (Nat.le_refl _),(Var.new w z30).set,by simp⟩
end Go.Proofs.YthfcanpkhjgomaaGreat
