import Derived.Test.YtdeanahpiigonaaGreatDoorHC
set_option maxRecDepth 100000
set_option maxHeartbeats 4000000
namespace Go.Proofs.YtdeanahpiigonaaGreatDoor
open Go.RowKit
def ofB (l:By):ByteArray:=⟨l.toArray⟩
theorem a2Z (l:By):tl (ofB l)=l:=by simp [tl,ofB]
theorem a2a (s:ByteArray):ofB (tl s)=s:=vL _ _ (a2Z _)
theorem ms (nm:ByteArray) (v:Vd) (m:Md) (g:Nat) (w:World) (hm:m=Md.zero) (hl:Lies w g 0 (nc nm v m (.slice none 0 0))):Calls Tryz.prog 102 #[.pointer (some ⟨g,0,none⟩),.slice none 0 0] w fun e w'=>e=.returned (.tuple #[.slice none 0 0,.int .i64 (ownE v m false)])∧G w w':=by
 obtain ⟨E0,hE0⟩:∃ E,ownE v m false=E:=⟨_,rfl⟩
 rw [hE0]
 have CO:=hid (fun (W:World)=>(by have:=dX v m false (vx v).toArray (mx m).toArray rfl rfl rfl hm W;rw [hE0] at this;exact this:Calls Tryz.prog 120 #[.agg (vx v).toArray,.agg (mx m).toArray,.bool false] W fun e w'=>e=.returned (.int .i64 E0)∧G W w'))
 clear hE0
 have w40:=ix hl
 have HL0:Hid (Lies w g 1 (vx v).toArray∧Lies w g 36 (mx m).toArray):=by have h1:=oU hl;have h2:=ge hl;rw [Nat.zero_add] at h1 h2;exact ⟨h1,h2⟩
 rw [Nat.zero_add] at w40
 clear hl
 go_enter Tryz.func102,Tryz.ntmps102
 go_upto_region 1 with fail
 refine eD ?_
 have d40:=(G.drew w).cell w40
 have L1:Hid (Lies w.drew g 1 (vx v).toArray∧Lies w.drew g 36 (mx m).toArray):=⟨(G.drew w).lies HL0.o.1,(G.drew w).lies HL0.o.2⟩
 have HD:Hid (G w w.drew):=G.drew w
 generalize w.drew=w2 at *
 refine zv 0 12 (.pointer (some ⟨g,0,none⟩)) rfl rfl (by kernel_rfl) (by kernel_rfl) (by kernel_rfl) (fun _ _ _ h=>h) (by kernel_rfl) (fun wz hz=>?_) ?_
 · rfl
 try simp only [Act.put,sA,sB,sC]
 refine zv 1 13 (.pointer (some ⟨g,0,none⟩)) rfl rfl (by kernel_rfl) (by kernel_rfl) (by kernel_rfl) (fun _ _ _ h=>h) (by kernel_rfl) (fun wz hz=>?_) ?_
 · go_simp
 try simp only [Act.put,sA,sB,sC]
 refine zv 2 14 (.pointer (some ⟨g,1,none⟩)) rfl rfl (by kernel_rfl) (by kernel_rfl) (by kernel_rfl) (fun _ _ _ h=>h) (by kernel_rfl) (fun wz hz=>?_) ?_
 · go_simp
 try simp only [Act.put,sA,sB,sC]
 refine zv 3 15 (.agg (vx v).toArray) rfl rfl (by kernel_rfl) (by kernel_rfl) (by kernel_rfl) (fun _ _ _ h=>h) (by kernel_rfl) (fun wz hz=>?_) ?_
 · exact kA _ rfl g 1 rfl _ (by simp [jq]) (hz.lies L1.o.1)
 try simp only [Act.put,sA,sB,sC]
 refine zv 4 16 (.pointer (some ⟨g,0,none⟩)) rfl rfl (by kernel_rfl) (by kernel_rfl) (by kernel_rfl) (fun _ _ _ h=>h) (by kernel_rfl) (fun wz hz=>?_) ?_
 · rfl
 try simp only [Act.put,sA,sB,sC]
 refine zv 5 17 (.pointer (some ⟨g,0,none⟩)) rfl rfl (by kernel_rfl) (by kernel_rfl) (by kernel_rfl) (fun _ _ _ h=>h) (by kernel_rfl) (fun wz hz=>?_) ?_
 · go_simp
 try simp only [Act.put,sA,sB,sC]
 refine zv 6 18 (.pointer (some ⟨g,36,none⟩)) rfl rfl (by kernel_rfl) (by kernel_rfl) (by kernel_rfl) (fun _ _ _ h=>h) (by kernel_rfl) (fun wz hz=>?_) ?_
 · go_simp
 try simp only [Act.put,sA,sB,sC]
 refine zv 7 19 (.agg (mx m).toArray) rfl rfl (by kernel_rfl) (by kernel_rfl) (by kernel_rfl) (fun _ _ _ h=>h) (by kernel_rfl) (fun wz hz=>?_) ?_
 · exact zu _ rfl g 36 rfl _ (by simp [fX]) (hz.lies L1.o.2)
 try simp only [Act.put,sA,sB,sC]
 refine zv 8 20 (.pointer (some ⟨g,0,none⟩)) rfl rfl (by kernel_rfl) (by kernel_rfl) (by kernel_rfl) (fun _ _ _ h=>h) (by kernel_rfl) (fun wz hz=>?_) ?_
 · rfl
 try simp only [Act.put,sA,sB,sC]
 refine zv 9 21 (.pointer (some ⟨g,0,none⟩)) rfl rfl (by kernel_rfl) (by kernel_rfl) (by kernel_rfl) (fun _ _ _ h=>h) (by kernel_rfl) (fun wz hz=>?_) ?_
 · go_simp
 try simp only [Act.put,sA,sB,sC]
 refine zv 10 22 (.pointer (some ⟨g,40,none⟩)) rfl rfl (by kernel_rfl) (by kernel_rfl) (by kernel_rfl) (fun _ _ _ h=>h) (by kernel_rfl) (fun wz hz=>?_) ?_
 · go_simp
 try simp only [Act.put,sA,sB,sC]
 refine zv 11 23 (.slice none 0 0) rfl rfl (by kernel_rfl) (by kernel_rfl) (by kernel_rfl) (fun _ _ _ h=>h) (by kernel_rfl) (fun wz hz=>?_) ?_
 · have y0:=hz.cell d40;go_simp
 try simp only [Act.put,sA,sB,sC]
 refine zv 12 24 (.int .i64 0) rfl rfl (by kernel_rfl) (by kernel_rfl) (by kernel_rfl) (fun _ _ _ h=>h) (by kernel_rfl) (fun wz hz=>?_) ?_
 · go_simp
 try simp only [Act.put,sA,sB,sC]
 refine zv 13 25 (.bool false) rfl rfl (by kernel_rfl) (by kernel_rfl) (by kernel_rfl) (fun _ _ _ h=>h) (by kernel_rfl) (fun wz hz=>?_) ?_
 · go_simp
 try simp only [Act.put,sA,sB,sC]
 refine callG 14 26 (.int .i64 E0) 120 #[.agg (vx v).toArray,.agg (mx m).toArray,.bool false] rfl rfl (by kernel_rfl) (by kernel_rfl) (by kernel_rfl) (fun _ _ _ h=>h) (by kernel_rfl) (fun wz=>by go_simp) (fun wz hz=>?_) ?_
 · exact CO.o wz
 try simp only [Act.put,sA,sB,sC]
 refine zv 15 6 (.int .i64 E0) rfl rfl (by kernel_rfl) (by kernel_rfl) (by kernel_rfl) (fun _ _ _ h=>h) (by kernel_rfl) (fun wz hz=>?_) ?_
 · rfl
 try simp only [Act.put,sA,sB,sC]
 refine doneG (by kernel_rfl) (fun w3 hg3=>?_)
 have HG3:Hid (G w w3):=HD.o.trans hg3
 have e40:=hg3.cell d40
 clear hg3 HD L1 HL0 CO d40
 by_cases he:E0=0
 · subst he
   go_wp2_with fail
   go_loopw [36] (fun i wr=>i=.int .i64 0∧wr=w3) (fun _ _=>0)
   case atStart=>exact ⟨rfl,rfl⟩
   case round=>
    obtain ⟨rfl,rfl⟩:=hrel
    go_wp2_with fail
    go_ret2
    exact ⟨rfl,HG3.o⟩
 · have hb:(E0 !=0)=true:=by simpa using he
   go_wp2_with fail
   go_ret2
   exact ⟨rfl,HG3.o⟩
theorem join0 (w:World):Calls Tryz.prog 122 #[.slice none 0 0,.string ⟨#[47]⟩] w fun e w'=>e=.returned (.string ⟨#[]⟩)∧w'=w:=by
 go_enter Tryz.func122,Tryz.ntmps122
 go_wp2_with fail
 go_ret
 exact ⟨rfl,rfl⟩
theorem pjoin0 (w:World):Calls Tryz.prog 103 #[.slice none 0 0] w fun e w'=>e=.returned (.string ⟨#[]⟩)∧w'=w:=by
 have C:=join0 w
 go_enter Tryz.func103,Tryz.ntmps103
 go_wp2_with (go_at_call 122;refine C.mono ?_;rintro e w1 ⟨rfl,rfl⟩)
 go_ret
 exact ⟨rfl,rfl⟩
theorem mt (nm:ByteArray) (v:Vd) (m:Md) (hm:m=Md.zero) (w:World):
  Calls Tryz.prog 82 #[.agg (nc nm v m (.slice none 0 0))] w fun e w'=>e=.returned (.tuple #[.string ⟨#[]⟩,.int .i64 (ownE v m false)])∧G w w':=by
 have C1:=ms nm v m w.heap.size (w.alloc (.cells (nc nm v m (.slice none 0 0)) 159)) hm (jc w _ 159)
 have HG:Hid (G w (w.alloc (.cells (nc nm v m (.slice none 0 0)) 159))):=G.alloc _ _
 generalize ownE v m false=E at *
 generalize nc nm v m (.slice none 0 0)=c at *
 go_enter Tryz.func82,Tryz.ntmps82
 go_upto_region 1 with fail
 generalize w.alloc (.cells c 159)=w1 at *
 generalize w.heap.size=H at *
 go_wp2_with (first
  | (go_at_call 102;refine C1.mono ?_;rintro e w2 ⟨rfl,g2⟩;have HG2:Hid (G w w2):=HG.o.trans g2;have CJ:=pjoin0 w2;clear C1 g2)
  | (go_at_call 103;refine CJ.mono ?_;rintro e w3 ⟨rfl,rfl⟩))
 go_ret2
 exact ⟨rfl,HG2.o⟩
open Hm
attribute [local go_sem] Oper.semAt_some
theorem dF {o:Oper} {a:Act} (x y:Operand) (ho:o.op=.binOp .eql 22 x y 22) (l m:List Nat) (hl:l.length=32) (hm:m.length=32) (hx:a.eval x=.agg (hA l)) (hy:a.eval y=.agg (hA m)) (w:World):
  (execOp a.eval o).run Tryz.prog w=.ok (.value (.bool (decide (l=m)))) w:=by
 have h':(Op.equal 22 (.agg (hA l)) (.agg (hA m))).run Tryz.prog w=.ok (decide (l=m)) w:=eq22 9998 l m hl hm w
 have hg:Tryz.prog.eqGuardType Tryz.prog.depth 22=false:=by kernel_rfl
 unfold execOp
 simp only [ho,hx,hy,eqGuard,binOp,Sem.run_bind]
 simp [Result.andThen,hg,h']
theorem gi {o:Oper} {a:Act} (x y:Operand) (ho:o.op=.binOp .neq 22 x y 22) (l m:List Nat) (hl:l.length=32) (hm:m.length=32) (hx:a.eval x=.agg (hA l)) (hy:a.eval y=.agg (hA m)) (w:World):
  (execOp a.eval o).run Tryz.prog w=.ok (.value (.bool (!decide (l=m)))) w:=by
 have h':(Op.equal 22 (.agg (hA l)) (.agg (hA m))).run Tryz.prog w=.ok (decide (l=m)) w:=eq22 9998 l m hl hm w
 have hg:Tryz.prog.eqGuardType Tryz.prog.depth 22=false:=by kernel_rfl
 unfold execOp
 simp only [ho,hx,hy,eqGuard,binOp,Sem.run_bind]
 simp [Result.andThen,hg,h']
theorem xI {o:Oper} {a:Act} {w:World} (t:TypeId) (ho:o.op=.build t #[]) (c:Array Value) (hb:(Instr.build t #[]).run Tryz.prog w=.ok (.agg c) w):(execOp a.eval o).run Tryz.prog w=.ok (.value (.agg c)) w:=by
 unfold execOp
 simp only [ho]
 have hmap:((#[]:Array (Nat × Operand)).map fun (p:Nat × Operand)=>match p with | (i,x)=>(i,a.eval x))=#[]:=by simp
 rw [hmap]
 simp only [Sem.run_bind,hb,Result.andThen_ok,Sem.run_pure]
theorem eE {o:Oper} {a:Act} {w:World} (t:TypeId) (i:Nat) (x:Operand) (ho:o.op=.build t #[(i,x)]) (u:Value) (hx:a.eval x=u) (c:Array Value) (hb:(Instr.build t #[(i,u)]).run Tryz.prog w=.ok (.agg c) w):(execOp a.eval o).run Tryz.prog w=.ok (.value (.agg c)) w:=by
 unfold execOp
 simp only [ho]
 have hmap:(#[(i,x)].map fun (p:Nat × Operand)=>match p with | (i,x)=>(i,a.eval x))=#[(i,u)]:=by simp [hx]
 rw [hmap]
 simp only [Sem.run_bind,hb,Result.andThen_ok,Sem.run_pure]
theorem lA {o:Oper} {a:Act} {w:World} (t:TypeId) (i j:Nat) (x y:Operand) (ho:o.op=.build t #[(i,x),(j,y)]) (u v:Value) (hx:a.eval x=u) (hy:a.eval y=v) (c:Array Value) (hb:(Instr.build t #[(i,u),(j,v)]).run Tryz.prog w=.ok (.agg c) w):(execOp a.eval o).run Tryz.prog w=.ok (.value (.agg c)) w:=by
 unfold execOp
 simp only [ho]
 have hmap:(#[(i,x),(j,y)].map fun (p:Nat × Operand)=>match p with | (i,x)=>(i,a.eval x))=#[(i,u),(j,v)]:=by simp [hx,hy]
 rw [hmap]
 simp only [Sem.run_bind,hb,Result.andThen_ok,Sem.run_pure]
theorem yG {w:World} (t:TypeId) (z:List Value) (pl:List (Nat × Nat)) (hu:Tryz.prog.underlying t=some (.struct (Tryz.prog.fieldsOf t))) (hz:(Tryz.prog.info? t).bind (·.zero)=some (.agg z.toArray))
  (hp:(Tryz.prog.fieldsOf t).toList.mapM (fun f=>(Tryz.prog.info? f.type).map fun i=>(f.offset,i.size))=some pl) (vals:Array (Nat × Value)) (c:Array Value) (hf:Instr.fill (fun i=>pl[i]?) z.toArray vals.toList=some c):(Instr.build t vals).run Tryz.prog w=.ok (.agg c) w:=by
 refine run_build w t _ _ ?_
 unfold Program.built
 cases hi:Tryz.prog.info? t with
 | none=>rw [hi] at hz;cases hz
 | some it=>
  rw [hi] at hz
  simp only [Option.bind_some] at hz
  simp only [hu,hz,hp]
  show Instr.fill (fun x=>pl.toArray[x]?) z.toArray vals.toList=some c
  rw [show (fun (x:Nat)=>pl.toArray[x]?)=(fun i=>pl[i]?) from by funext x;simp]
  exact hf
def sdc (nm:ByteArray) (h:List Nat) (sc:Array Value):Array Value:=(.string nm::(h.map Su.vb++sc.toList)).toArray
def z125:List Value:=.string ⟨#[]⟩::(j7.map Su.vb++z123.toList)
theorem zx:(Tryz.prog.info? 125).bind (·.zero)=some (.agg z125.toArray):=by kernel_rfl
theorem zF:(Tryz.prog.info? 125).map (·.size)=some 36:=by kernel_rfl
theorem zb:Tryz.prog.underlying 125=some (.struct (Tryz.prog.fieldsOf 125)):=by kernel_rfl
theorem plc125:(Tryz.prog.fieldsOf 125).toList.mapM (fun f=>(Tryz.prog.info? f.type).map fun i=>(f.offset,i.size))=some [(0,1),(1,32),(33,3)]:=by kernel_rfl
theorem build125 (nm:ByteArray) (h:List Nat) (hl:h.length=32) (w:World):(Instr.build 125 #[(0,.string nm),(1,.agg (hA h))]).run Tryz.prog w=.ok (.agg (sdc nm h z123)) w:=by
 refine yG 125 z125 _ zb zx plc125 _ _ ?_
 show Instr.fill _ z125.toArray [(0,.string nm),(1,.agg (hA h))]=_
 rw [qv _ _ 0 0 1 _ [.string nm] _ rfl rfl rfl (by decide),qv _ _ 1 1 32 _ (h.map Su.vb) _ rfl rfl (by simpa using hl) (by simp [over,z125,z123,j7]),Instr.fill]
 refine congrArg some (congrArg List.toArray ?_)
 simp only [over,List.length_map,hl]
 rfl
def z129:List Value:=.int .i64 0::z123.toList
theorem eF:(Tryz.prog.info? 129).bind (·.zero)=some (.agg z129.toArray):=by kernel_rfl
theorem fc:(Tryz.prog.info? 129).map (·.size)=some 4:=by kernel_rfl
theorem cI:Tryz.prog.underlying 129=some (.struct (Tryz.prog.fieldsOf 129)):=by kernel_rfl
theorem plc129:(Tryz.prog.fieldsOf 129).toList.mapM (fun f=>(Tryz.prog.info? f.type).map fun i=>(f.offset,i.size))=some [(0,1),(1,3)]:=by kernel_rfl
def stc (m:Int) (sc:Array Value):Array Value:=(.int .i64 m::sc.toList).toArray
theorem build129 (m:Int) (sc:Array Value) (hs:sc.size=3) (w:World):(Instr.build 129 #[(0,.int .i64 m),(1,.agg sc)]).run Tryz.prog w=.ok (.agg (stc m sc)) w:=by
 refine yG 129 z129 _ cI eF plc129 _ _ ?_
 show Instr.fill _ z129.toArray [(0,.int .i64 m),(1,.agg sc)]=_
 rw [qv _ _ 0 0 1 _ [.int .i64 m] _ rfl rfl rfl (by decide),qv _ _ 1 1 3 _ sc.toList _ rfl (by simp [Value.cells]) (by simpa using hs) (by simp [over,z129,z123]),Instr.fill]
 refine congrArg some (congrArg List.toArray ?_)
 simp only [over,Array.length_toList,hs]
 simp [z129,z123]
theorem jR:Tryz.prog.underlying 24=some (.struct (Tryz.prog.fieldsOf 24)):=by kernel_rfl
theorem fd:(Tryz.prog.info? 24).bind (·.zero)=some (.agg (vx vz).toArray):=by kernel_rfl
theorem qU:(Tryz.prog.info? 24).map (·.size)=some 35:=by kernel_rfl
theorem wP:(Tryz.prog.fieldsOf 24).toList.mapM (fun f=>(Tryz.prog.info? f.type).map fun i=>(f.offset,i.size))=some [(0,1),(1,1),(2,1),(3,32)]:=by kernel_rfl
theorem fg (w:World):(Instr.build 24 #[]).run Tryz.prog w=.ok (.agg (vx vz).toArray) w:=yG 24 (vx vz) _ jR fd wP _ _ rfl
theorem fh (k m:Int) (w:World):(Instr.build 24 #[(0,.int .i64 k),(1,.int .i64 m)]).run Tryz.prog w=.ok (.agg (vx (mkV k m 0 j7)).toArray) w:=by
 refine yG 24 (vx vz) _ jR fd wP _ _ ?_
 show Instr.fill _ (vx vz).toArray [(0,.int .i64 k),(1,.int .i64 m)]=_
 rw [qv _ _ 0 0 1 _ [.int .i64 k] _ rfl rfl rfl (by decide),qv _ _ 1 1 1 _ [.int .i64 m] _ rfl rfl rfl (by simp [over,vx,vz,j7]),Instr.fill,jh jC]
 rfl
theorem under159m:Tryz.prog.underlying 159=some (.struct (Tryz.prog.fieldsOf 159)):=by kernel_rfl
def z159:List Value:=.string ⟨#[]⟩::(vx vz++(mx m0++[.slice none 0 0]))
theorem zero159:(Tryz.prog.info? 159).bind (·.zero)=some (.agg z159.toArray):=by kernel_rfl
theorem plc159:(Tryz.prog.fieldsOf 159).toList.mapM (fun f=>(Tryz.prog.info? f.type).map fun i=>(f.offset,i.size))=some [(0,1),(1,35),(36,4),(40,1)]:=by kernel_rfl
theorem build159 (v:Vd) (w:World):(Instr.build 159 #[(1,.agg (vx v).toArray)]).run Tryz.prog w=.ok (.agg (nc ⟨#[]⟩ v m0 (.slice none 0 0))) w:=by
 refine yG 159 z159 _ under159m zero159 plc159 _ _ ?_
 show Instr.fill _ z159.toArray [(1,.agg (vx v).toArray)]=_
 rw [qv _ _ 1 1 35 _ (vx v) _ rfl rfl (jq v) (by decide),Instr.fill]
 refine congrArg some (congrArg List.toArray ?_)
 simp only [over,jq v]
 rfl
theorem yS (w:World):(Instr.build 22 #[]).run Tryz.prog w=.ok (.agg (hA j7)) w:=by kernel_rfl
theorem xJ {x:Value} {l:List Value} (hx:x.oneCell'=true) (hl:l.toArray.all (·.oneCell')=true):(x::l).toArray.all (·.oneCell')=true:=by
 rw [Array.all_eq_true_iff_forall_mem] at *
 intro u hu
 simp at hu
 rcases hu with rfl | hu
 ·exact hx
 ·exact hl u (by simpa using hu)
theorem wQ {l m:List Value} (hl:l.toArray.all (·.oneCell')=true) (hm:m.toArray.all (·.oneCell')=true):(l++m).toArray.all (·.oneCell')=true:=by
 rw [Array.all_eq_true_iff_forall_mem] at *
 intro u hu
 simp at hu
 rcases hu with hu | hu
 ·exact hl u (by simpa using hu)
 ·exact hm u (by simpa using hu)
theorem eG (nm:ByteArray) (h:List Nat) (sc:Array Value) (hs:sc.all (·.oneCell')=true):(sdc nm h sc).all (·.oneCell')=true:=xJ rfl (wQ (jn h) (by simpa using hs))
theorem cJ {nm:ByteArray} {h:List Nat} {sc:Array Value} (hl:h.length=32) (hs:sc.size=3):(sdc nm h sc).size=36:=by simp [sdc,hl,hs]
theorem lB (m:Int) (sc:Array Value) (hs:sc.all (·.oneCell')=true):(stc m sc).all (·.oneCell')=true:=xJ rfl (by simpa using hs)
theorem fi {m:Int} {sc:Array Value} (hs:sc.size=3):(stc m sc).size=4:=by simp [stc,hs]
def SdAt (w:World) (lo:Nat) (c:Array Value) (d:Sd):Prop:=∃ sc,c=sdc d.name d.hash sc∧SpAt w lo sc d.sp∧d.hash.length=32∧d.name.size≤255
def StAt (w:World) (lo:Nat) (c:Array Value) (q:Sq):Prop:=∃ sc,c=stc (q.mode:Int) sc∧SpAt w lo sc q.sp∧q.mode≤8
theorem oV (nm:ByteArray) (h:List Nat) (sc sc':Array Value) (hl:h.length=32) (hs:sc.size=3) (hs':sc'.size=3):over (sdc nm h sc).toList 33 sc'.toList=(sdc nm h sc').toList:=by
 unfold over sdc
 have h1:(Value.string nm::h.map Su.vb).length=33:=by simp [hl]
 have e:∀ s:Array Value,(Value.string nm::(h.map Su.vb++s.toList))=(Value.string nm::h.map Su.vb)++s.toList:=fun _=>rfl
 simp only [e]
 rw [List.take_append_of_le_length (by omega),List.take_of_length_le (by omega),List.drop_of_length_le (by simp [hl,hs,hs']),List.append_nil]
theorem aZ (l:List Int) (s:Wi.St):(Wi.mkStr (Wi.textS l s 255).1).size≤255:=by
 have:∀ x:List Int,(Wi.mkStr x).size=x.length:=fun x=>by simp [Wi.mkStr,ByteArray.size]
 rw [this]
 unfold Wi.textS
 split
 ·simp
 ·split
  ·split
   ·simp
   ·split
    ·simp
    ·rw [List.length_take];omega
  ·simp
  ·simp
theorem cM {c:Rq} {r:Pv} {w:World} (h:PvAt c r w) (count place:Nat) (hc:count≤1048576) (hp:place≤1048576):
  Calls Tryz.prog 113 #[.pointer (some ⟨c.Q,0,none⟩),.int .i64 (count:Int),.int .i64 (place:Int)] w fun e w'=>∃ cs,e=.returned (.agg cs)∧SdAt w' w.heap.size cs (qn c.l count place r).1∧PvAt c (qn c.l count place r).2 w'∧Kp c.own w w':=by
 have HI:=hid h
 have hQ:=h.Qlt
 clear h
 have C1:Hid (∀ W,PvAt c r W→Calls Tryz.prog 129 #[.pointer (some ⟨c.R,0,none⟩),.int .i64 255] W fun e w'=>e=.returned (.string (dN c.l r).1)∧PvAt c (dN c.l r).2 w'∧Kp c.own W w'):=fun W q=>(Wi.rS c.lo c.R 255 c.l r.s W q.rd c.hB (by decide)).mono (by
  rintro e w' ⟨rfl,h1,h2⟩
  exact ⟨rfl,q.wire h1 h2⟩)
 have hts:(dN c.l r).1.size≤255:=aZ _ _
 unfold qn
 simp only
 generalize dN c.l r=A at *
 obtain ⟨nm,rA⟩:=A
 simp only at C1 hts ⊢
 have C2:Hid (∀ W,PvAt c rA W→Calls Tryz.prog 111 #[.pointer (some ⟨c.Q,0,none⟩)] W fun e w'=>e=.returned (.agg (hA (sumP c.l rA).1))∧PvAt c (sumP c.l rA).2 w'∧Kp c.own W w'):=fun W q=>yr q
 have hl:(sumP c.l rA).1.length=32:=qO _
 generalize sumP c.l rA=A at *
 obtain ⟨hh,rB⟩:=A
 simp only at C2 hl ⊢
 have C3:=fun W=>aw nm W (by omega)
 generalize hnb:nameB (tl nm)=nb at *
 have C4:Hid (∀ W,PvAt c rB W→Calls Tryz.prog 112 #[.pointer (some ⟨c.Q,0,none⟩),.bool nb] W fun e w'=>e=.returned (.tuple #[])∧PvAt c (qd nb rB) w'∧Kp c.own W w'):=fun W q=>aP q nb
 generalize qd nb rB=rC at *
 have C5:Hid (∀ W,PvAt c rC W→Calls Tryz.prog 110 #[.pointer (some ⟨c.Q,0,none⟩),.int .i64 (count:Int),.int .i64 (place:Int)] W fun e w'=>∃ cs,e=.returned (.agg cs)∧SpAt w' W.heap.size cs (kg c.l count place rC).1∧PvAt c (kg c.l count place rC).2 w'∧Kp c.own W w'):=fun W q=>fZ q count place hc hp
 generalize kg c.l count place rC=A at *
 obtain ⟨sp,rD⟩:=A
 simp only at C5 ⊢
 have HEN:Hid (eno nb=if nb then 0 else 30):=rfl
 have hen:((eno nb==(0:Int))=nb):=by cases nb<;>rfl
 obtain ⟨en,hen0⟩:∃ en,eno nb=en:=⟨_,rfl⟩
 rw [hen0] at C3 hen
 clear HEN hen0 hnb
 obtain ⟨X,hX⟩:∃ X:Array Value,X=sdc nm hh z123:=⟨_,rfl⟩
 obtain ⟨Hc,hHc⟩:∃ Hc:Array Value,Hc=hA hh:=⟨_,rfl⟩
 have HB:Hid ((∀ W,(Instr.build 125 #[(0,.string nm),(1,.agg Hc)]).run Tryz.prog W=.ok (.agg X) W)∧X.size=36∧X.all (·.oneCell')=true∧X=X.toList.toArray∧X[0]?=some (.string nm)∧X=sdc nm hh z123):=by
  subst hX hHc
  exact ⟨build125 nm hh hl,cJ hl rfl,eG _ _ _ (by simp [z123,Value.oneCell']),by simp,rfl,rfl⟩
 rw [← hHc] at C2
 clear hX hHc
 go_enter Tryz.func113,Tryz.ntmps113
 go_wp2_with (first
  | ((with_reducible refine qC 6 125 z125.toArray ?_ ?_ ?_ ?_ ?_);rfl;rfl;kernel_rfl;exact zx;intro w1 b1 H1;have HA:Hid (PvAt c r w1∧Kp c.own w w1∧w1.heap[b1]?=some (.cells z125.toArray 125 (0,0))∧c.Q<b1∧b1=w.heap.size∧b1<w1.heap.size):=(by obtain ⟨p1,p2,p3,p4⟩:=H1.o;exact ⟨HI.o.up p2,Kp.of p2,p3,by omega,p1.symm,by omega⟩);have hz1:=HA.o.1.cell0)
  | (go_at_call 129;refine (C1.o _ HA.o.1).mono ?_;rintro e w2 ⟨rfl,p1,p2⟩;have H2:=hid (⟨p1,p2⟩:_∧_);clear p1 p2)
  | (go_at_call 111;refine (C2.o _ H2.o.1).mono ?_;rintro e w3 ⟨rfl,p1,p2⟩;have H3:Hid (PvAt c rB w3∧Kp c.own w1 w3):=⟨p1,H2.o.2.trans p2 fun _ _ e=>e⟩;clear p1 p2)
  | ((with_reducible refine jT 15 (.agg X) w3 ?_ ?_ ?_ ?_);rfl;kernel_rfl;exact lA 125 0 1 (.tmp 12) (.tmp 14) rfl (.string nm) (.agg Hc) rfl rfl X (HB.o.1 _))
  | ((with_reducible refine qC 7 125 z125.toArray ?_ ?_ ?_ ?_ ?_);rfl;rfl;kernel_rfl;exact zx;intro w4 b4 H4)
  | ((with_reducible refine qj 125 (.tmp 7) (.tmp 15) b4 X z125.toArray ?_ ?_ ?_ ?_ ?_ ?_ ?_ ?_ ?_ ?_);rfl;rfl;kernel_rfl;rfl;rfl;exact H4.o.2.2.1;exact (by rw [zF,HB.o.2.1]);exact (by rw [HB.o.2.1];rfl);exact HB.o.2.2.1;intro w5 H5;have HD:Hid (PvAt c rB w5∧Kp c.own w w5∧w5.heap[b1]?=some (.cells z125.toArray 125 (0,0))∧b1<b4∧w5.heap[b4]?=some (.cells X 125 (0,0))∧w5.heap.size=b4+1∧c.Q<b1∧b1=w.heap.size):=(by obtain ⟨p1,p2,p3,p4⟩:=H4.o;obtain ⟨q1,q2,q3⟩:=H5.o;have n1:=HA.o.2.2.2;have hlt:b1<b4:=(by have:=H3.o.2.size;omega);exact ⟨(H3.o.1.up p2).kp q1 (fun b e q=>by have:=q.2;omega),((HA.o.2.1.trans H3.o.2 fun _ _ e=>e).trans (Kp.of (S:=c.own) p2) fun _ _ e=>e).trans q1 (fun b hb e=>by exfalso;omega),(q1.block b1 (by omega) (by omega)).trans ((p2.block b1 (by omega)).trans ((H3.o.2.block b1 (by omega) (fun e=>by have:=e.2;omega)).trans HA.o.2.2.1)),hlt,q2,by omega,n1.1,n1.2.1⟩);have hz5:w5.cell? ⟨b4,0,none⟩=some (.string nm):=(by rw [j9 HD.o.2.2.2.2.1];exact HB.o.2.2.2.2.1))
  | (go_at_call 85;refine (C3 _).mono ?_;rintro e w6 ⟨rfl,p1⟩;have H6:Hid (G w5 w6):=p1;clear p1)
  | (go_at_call 112;refine (C4.o _ (HD.o.1.up H6.o)).mono ?_;rintro e w7 ⟨rfl,p1,p2⟩;have H7:Hid (PvAt c rC w7∧Kp c.own w5 w7):=⟨p1,(Kp.of H6.o).trans p2 fun _ _ e=>e⟩;clear p1 p2)
  | (go_at_call 110;go_loud (refine (C5.o _ H7.o.1).mono ?_;rintro e w8 ⟨SC,rfl,p0,p1,p2⟩;have H8:Hid (SpAt w8 w7.heap.size SC sp∧PvAt c rD w8∧Kp c.own w5 w8∧w8.heap[b4]?=some (.cells X.toList.toArray 125 (0,0))∧SC.size=3):=(by have k:=H7.o.2.trans p2 fun _ _ e=>e;exact ⟨p0,p1,k,(by rw [Array.toArray_toList];exact (k.block b4 (ga HD.o.2.2.2.2.1).1 fun e=>by have:=e.2;have:=HD.o.2.2.2;omega).trans HD.o.2.2.2.2.1),p0.size⟩);clear p0 p1 p2))
  | ((with_reducible refine aN 123 (.tmp 26) (.tmp 25) b4 33 SC 125 X.toList ?_ ?_ ?_ ?_ ?_ ?_ ?_ ?_ ?_ ?_);rfl;rfl;kernel_rfl;rfl;rfl;exact H8.o.2.2.2.1;exact (by rw [H8.o.2.2.2.2,Array.length_toList,HB.o.2.1];decide);exact (by rw [zE,H8.o.2.2.2.2]);exact H8.o.1.one;intro w9 H9;obtain ⟨Y,hY⟩:∃ Y:Array Value,Y=sdc nm hh SC:=⟨_,rfl⟩;have HE:Hid (w9.heap[b4]?=some (.cells Y 125 (0,0))∧w9.heap[b1]?=some (.cells z125.toArray 125 (0,0))∧Y.size=36∧Y.all (·.oneCell')=true∧Y=sdc nm hh SC):=(by have e0:=H9.o.2.1;have e1:=HB.o.2.2.2.2.2;rw [e1,oV nm hh z123 SC hl rfl H8.o.2.2.2.2,Array.toArray_toList,← hY] at e0;have n1:=HD.o.2.2.2;have k5:=H8.o.2.2.1.size;exact ⟨e0,(H9.o.1.block b1 (by omega) (by omega)).trans ((H8.o.2.2.1.block b1 (by omega) (fun e=>by have:=e.2;omega)).trans HD.o.2.2.1),by rw [hY];exact cJ hl H8.o.2.2.2.2,by rw [hY];exact eG _ _ _ H8.o.1.one,hY⟩);clear hY)
  | ((with_reducible refine jE 27 125 (.tmp 7) b4 0 Y _ ?_ ?_ ?_ ?_ ?_ zb ?_ ?_ ?_);rfl;rfl;kernel_rfl;rfl;exact Lies.of_heap HE.o.1;rfl;exact (by rw [zF,HE.o.2.2.1]))
  | ((with_reducible refine qj 125 (.tmp 6) (.tmp 27) b1 Y z125.toArray ?_ ?_ ?_ ?_ ?_ ?_ ?_ ?_ ?_ ?_);rfl;rfl;kernel_rfl;rfl;rfl;exact HE.o.2.1;exact (by rw [zF,HE.o.2.2.1]);exact (by rw [HE.o.2.2.1];rfl);exact HE.o.2.2.2.1;intro w10 H10))
 have n1:=HD.o.2.2.2
 refine bodyPost_ret (results_cell_row (P:=Tryz.prog) (p:=6) (ty:=125) rfl _ _ b1 125 Y (0,0) _ rfl H10.o.2.1 zb rfl (by rw [zF,HE.o.2.2.1])) rfl ⟨Y,rfl,⟨SC,HE.o.2.2.2.2,?_,hl,hts⟩,?_,?_⟩
 ·have k7:=H7.o.2.size
  refine (H8.o.1.mono (by omega)).keep fun b cs hb hcs=>?_
  have hne:∀ x,w8.heap[x]?=some (.cells X.toList.toArray 125 (0,0))→b≠x:=fun x hx e=>by rw [e,hx] at hcs;cases hcs
  rw [H10.o.1.block b (by have:=(ga hcs).1;have:=H9.o.2.2;omega) ?_,H9.o.1.block b (ga hcs).1 (hne b4 H8.o.2.2.2.1)]
  intro e
  have hb1:w8.heap[b1]?=some (.cells z125.toArray 125 (0,0)):=(H8.o.2.2.1.block b1 (by omega) (fun e=>by have:=e.2;omega)).trans HD.o.2.2.1
  rw [e,hb1] at hcs
  cases hcs
 ·exact (H8.o.2.1.kp H9.o.1 (fun b e q=>by have:=q.2;omega)).kp H10.o.1 (fun b e q=>by have:=q.2;omega)
 ·exact ((HD.o.2.1.trans H8.o.2.2.1 fun _ _ e=>e).trans H9.o.1 fun b hb e=>by exfalso;omega).trans H10.o.1 fun b hb e=>by exfalso;omega
theorem oW {c:Rq} {r:Pv} {w:World} (h:PvAt c r w):
  Calls Tryz.prog 88 #[.pointer (some ⟨c.Q,0,none⟩)] w fun e w'=>∃ cs,e=.returned (.agg cs)∧StAt w' w.heap.size cs (yZ c.l r).1∧PvAt c (yZ c.l r).2 w'∧Kp c.own w w':=by
 have HI:=hid h
 have hQ:=h.Qlt
 clear h
 unfold yZ
 simp only
 have C1:Hid (∀ W,PvAt c r W→Calls Tryz.prog 109 #[.pointer (some ⟨c.Q,0,none⟩),.int .i64 8] W fun e w'=>∃ v,e=.returned v∧v=.int .i64 ((numP c.l 8 r).1:Nat)∧PvAt c (numP c.l 8 r).2 w'∧Kp c.own W w'):=fun W q=>(qE q 8 8 rfl (by decide)).mono fun e w' z=>⟨_,z.1,rfl,z.2⟩
 have l1:=qt c.l r 8
 generalize numP c.l 8 r=A at *
 obtain ⟨m,rA⟩:=A
 simp only at C1 l1 ⊢
 have C2:Hid (∀ W,PvAt c rA W→Calls Tryz.prog 109 #[.pointer (some ⟨c.Q,0,none⟩),.int .i64 1048576] W fun e w'=>∃ v,e=.returned v∧v=.int .i64 ((numP c.l 1048576 rA).1:Nat)∧PvAt c (numP c.l 1048576 rA).2 w'∧Kp c.own W w'):=fun W q=>(qE q 1048576 1048576 rfl (by decide)).mono fun e w' z=>⟨_,z.1,rfl,z.2⟩
 have l2:=qt c.l rA 1048576
 generalize numP c.l 1048576 rA=A at *
 obtain ⟨n,rB⟩:=A
 simp only at C2 l2 ⊢
 have C3:Hid (∀ W,PvAt c rB W→Calls Tryz.prog 109 #[.pointer (some ⟨c.Q,0,none⟩),.int .i64 1048576] W fun e w'=>∃ v,e=.returned v∧v=.int .i64 ((numP c.l 1048576 rB).1:Nat)∧PvAt c (numP c.l 1048576 rB).2 w'∧Kp c.own W w'):=fun W q=>(qE q 1048576 1048576 rfl (by decide)).mono fun e w' z=>⟨_,z.1,rfl,z.2⟩
 have l3:=qt c.l rB 1048576
 generalize numP c.l 1048576 rB=A at *
 obtain ⟨k,rC⟩:=A
 simp only at C3 l3 ⊢
 have C5:Hid (∀ W,PvAt c rC W→Calls Tryz.prog 110 #[.pointer (some ⟨c.Q,0,none⟩),.int .i64 (n:Int),.int .i64 (k:Int)] W fun e w'=>∃ cs,e=.returned (.agg cs)∧SpAt w' W.heap.size cs (kg c.l n k rC).1∧PvAt c (kg c.l n k rC).2 w'∧Kp c.own W w'):=fun W q=>fZ q n k l2 l3
 generalize kg c.l n k rC=A at *
 obtain ⟨sp,rD⟩:=A
 simp only at C5 ⊢
 go_enter Tryz.func88,Tryz.ntmps88
 go_wp2_with (first
  | ((with_reducible refine qC 2 129 z129.toArray ?_ ?_ ?_ ?_ ?_);rfl;rfl;kernel_rfl;exact eF;intro w1 b1 H1;have HA:Hid (PvAt c r w1∧Kp c.own w w1∧w1.heap[b1]?=some (.cells z129.toArray 129 (0,0))∧c.Q<b1∧b1=w.heap.size∧b1<w1.heap.size):=(by obtain ⟨p1,p2,p3,p4⟩:=H1.o;exact ⟨HI.o.up p2,Kp.of p2,p3,by omega,p1.symm,by omega⟩))
  | ((with_reducible refine qG 7 109 #[.pointer (some ⟨c.Q,0,none⟩),.int .i64 8] (fun v w'=>v=.int .i64 (m:Nat)∧PvAt c rA w'∧Kp c.own w1 w') ?_ ?_ ?_ ?_ ?_);rfl;kernel_rfl;(unfold execOp;simp [go_sem]);exact (C1.o _ HA.o.1);rintro v w2 ⟨rfl,p1,p2⟩;have H2:=hid (⟨p1,p2⟩:_∧_);clear p1 p2)
  | ((with_reducible refine qG 9 109 #[.pointer (some ⟨c.Q,0,none⟩),.int .i64 1048576] (fun v w'=>v=.int .i64 (n:Nat)∧PvAt c rB w'∧Kp c.own w2 w') ?_ ?_ ?_ ?_ ?_);rfl;kernel_rfl;(unfold execOp;simp [go_sem]);exact (C2.o _ H2.o.1);rintro v w3 ⟨rfl,p1,p2⟩;have H3:Hid (PvAt c rB w3∧Kp c.own w1 w3):=⟨p1,H2.o.2.trans p2 fun _ _ e=>e⟩;clear p1 p2)
  | ((with_reducible refine qG 11 109 #[.pointer (some ⟨c.Q,0,none⟩),.int .i64 1048576] (fun v w'=>v=.int .i64 (k:Nat)∧PvAt c rC w'∧Kp c.own w3 w') ?_ ?_ ?_ ?_ ?_);rfl;kernel_rfl;(unfold execOp;simp [go_sem]);exact (C3.o _ H3.o.1);rintro v w4 ⟨rfl,p1,p2⟩;have H4:Hid (PvAt c rC w4∧Kp c.own w1 w4):=⟨p1,H3.o.2.trans p2 fun _ _ e=>e⟩;clear p1 p2)
  | (go_at_call 110;refine (C5.o _ H4.o.1).mono ?_;rintro e w8 ⟨SC,rfl,p0,p1,p2⟩;obtain ⟨Y,hY⟩:∃ Y:Array Value,Y=stc (m:Int) SC:=⟨_,rfl⟩;have H8:Hid (SpAt w8 w4.heap.size SC sp∧PvAt c rD w8∧Kp c.own w1 w8∧w8.heap[b1]?=some (.cells z129.toArray 129 (0,0))∧SC.size=3∧Y.size=4∧Y.all (·.oneCell')=true∧Y=stc (m:Int) SC∧∀ W,(Instr.build 129 #[(0,.int .i64 (m:Int)),(1,.agg SC)]).run Tryz.prog W=.ok (.agg Y) W):=(by have kk:=H4.o.2.trans p2 fun _ _ e=>e;exact ⟨p0,p1,kk,(kk.block b1 HA.o.2.2.2.2.2 fun e=>by have:=e.2;have:=HA.o.2.2.2;omega).trans HA.o.2.2.1,p0.size,by rw [hY];exact fi p0.size,by rw [hY];exact lB _ _ p0.one,hY,by rw [hY];exact build129 _ _ p0.size⟩);clear p0 p1 p2 hY)
  | ((with_reducible refine jT 17 (.agg Y) w8 ?_ ?_ ?_ ?_);rfl;kernel_rfl;exact lA 129 0 1 (.tmp 12) (.tmp 16) rfl (.int .i64 (m:Int)) (.agg SC) rfl rfl Y (H8.o.2.2.2.2.2.2.2.2 _))
  | ((with_reducible refine qj 129 (.tmp 2) (.tmp 17) b1 Y z129.toArray ?_ ?_ ?_ ?_ ?_ ?_ ?_ ?_ ?_ ?_);rfl;rfl;kernel_rfl;rfl;rfl;exact H8.o.2.2.2.1;exact (by rw [fc,H8.o.2.2.2.2.2.1]);exact (by rw [H8.o.2.2.2.2.2.1];rfl);exact H8.o.2.2.2.2.2.2.1;intro w10 H10))
 have n1:=HA.o.2.2.2
 refine bodyPost_ret (results_cell_row (P:=Tryz.prog) (p:=2) (ty:=129) rfl _ _ b1 129 Y (0,0) _ rfl H10.o.2.1 cI rfl (by rw [fc,H8.o.2.2.2.2.2.1])) rfl ⟨Y,rfl,⟨SC,H8.o.2.2.2.2.2.2.2.1,?_,l1⟩,?_,?_⟩
 ·have k7:=H4.o.2.size
  refine (H8.o.1.mono (by omega)).keep fun b cs hb hcs=>H10.o.1.block b (ga hcs).1 fun e=>?_
  rw [e,H8.o.2.2.2.1] at hcs
  cases hcs
 ·exact H8.o.2.1.kp H10.o.1 (fun b e q=>by have:=q.2;omega)
 ·exact (HA.o.2.1.trans H8.o.2.2.1 fun _ _ e=>e).trans H10.o.1 fun b hb e=>by exfalso;omega
theorem yt (v:Vd) (w:World):Calls Tryz.prog 65 #[.agg (vx v).toArray] w fun e w'=>e=.returned (.bool (valB v))∧G w w':=by
 obtain ⟨X,hX⟩:∃ X:Array Value,X=(vx v).toArray:=⟨_,rfl⟩
 obtain ⟨Z,hZ⟩:∃ Z:Array Value,Z=(vx vz).toArray:=⟨_,rfl⟩
 have HX:Hid (X=(vx v).toArray∧Z=(vx vz).toArray∧X.size=35∧(∀ W,(Instr.build 24 #[]).run Tryz.prog W=.ok (.agg Z) W)∧(∀ W,(Instr.build 159 #[(1,.agg X)]).run Tryz.prog W=.ok (.agg (nc ⟨#[]⟩ v m0 (.slice none 0 0))) W)):=⟨hX,hZ,by rw [hX];simp [jq],by rw [hZ];exact fg,by rw [hX];exact build159 v⟩
 rw [← hX]
 clear hX hZ
 have C:=fun W=>mt ⟨#[]⟩ v m0 rfl W
 generalize nc ⟨#[]⟩ v m0 (.slice none 0 0)=Y at *
 by_cases hv:v=vz
 ·have hd:decide (v=vz)=true:=by simp [hv]
  have hr:valB v=true:=by unfold valB;rw [hd];rfl
  rw [hr]
  have HE:=hid hd
  clear hd hv hr C
  go_enter Tryz.func65,Tryz.ntmps65
  go_wp2_with (first
   | ((with_reducible refine jt 1 24 (.tmp 0) X ?_ ?_ ?_ ?_ ?_);rfl;rfl;kernel_rfl;rfl;intro w1 b1 H1)
   | ((with_reducible refine jE 5 24 (.tmp 1) b1 0 X _ ?_ ?_ ?_ ?_ ?_ jR ?_ ?_ ?_);rfl;rfl;kernel_rfl;rfl;exact Lies.of_heap H1.o.2.2.1;rfl;exact (by rw [qU,HX.o.2.2.1]))
   | ((with_reducible refine jT 6 (.agg Z) w1 ?_ ?_ ?_ ?_);rfl;kernel_rfl;exact xI 24 rfl Z (HX.o.2.2.2.1 _))
   | ((with_reducible refine jT 7 (.bool true) w1 ?_ ?_ ?_ ?_);rfl;kernel_rfl;exact yc _ _ rfl X Z rfl rfl v vz HX.o.1 HX.o.2.1 true HE.o _))
  go_ret
  exact ⟨rfl,H1.o.2.1⟩
 ·have hd:decide (v=vz)=false:=by simp [hv]
  have hr:valB v=decide (ownE v m0 false=0):=by unfold valB;rw [hd];rfl
  rw [hr]
  have HE:=hid hd
  obtain ⟨E,hE⟩:∃ E,ownE v m0 false=E:=⟨_,rfl⟩
  rw [hE] at C ⊢
  have HC:=hid C
  clear hd hv hr hE C
  go_enter Tryz.func65,Tryz.ntmps65
  go_wp2_with (first
   | ((with_reducible refine jt 1 24 (.tmp 0) X ?_ ?_ ?_ ?_ ?_);rfl;rfl;kernel_rfl;rfl;intro w1 b1 H1)
   | ((with_reducible refine jE 5 24 (.tmp 1) b1 0 X _ ?_ ?_ ?_ ?_ ?_ jR ?_ ?_ ?_);rfl;rfl;kernel_rfl;rfl;exact Lies.of_heap H1.o.2.2.1;rfl;exact (by rw [qU,HX.o.2.2.1]))
   | ((with_reducible refine jT 6 (.agg Z) w1 ?_ ?_ ?_ ?_);rfl;kernel_rfl;exact xI 24 rfl Z (HX.o.2.2.2.1 _))
   | ((with_reducible refine jT 7 (.bool false) w1 ?_ ?_ ?_ ?_);rfl;kernel_rfl;exact yc _ _ rfl X Z rfl rfl v vz HX.o.1 HX.o.2.1 false HE.o _)
   | ((with_reducible refine jE 9 24 (.tmp 1) b1 0 X _ ?_ ?_ ?_ ?_ ?_ jR ?_ ?_ ?_);rfl;rfl;kernel_rfl;rfl;exact Lies.of_heap H1.o.2.2.1;rfl;exact (by rw [qU,HX.o.2.2.1]))
   | ((with_reducible refine jT 10 (.agg Y) w1 ?_ ?_ ?_ ?_);rfl;kernel_rfl;exact eE 159 1 (.tmp 9) rfl (.agg X) rfl Y (HX.o.2.2.2.2 _))
   | (go_at_call 82;refine (HC.o _).mono ?_;rintro e w2 ⟨rfl,p1⟩;have H2:Hid (G w1 w2):=p1;clear p1))
  go_ret
  exact ⟨rfl,G.trans H1.o.2.1 H2.o⟩
theorem yT {o:Oper} {a:Act} (x y:Operand) (ho:o.op=.binOp .neq 22 x y 22) (X Y:Array Value) (hx:a.eval x=.agg X) (hy:a.eval y=.agg Y) (l m:List Nat) (hX:X=hA l) (hY:Y=hA m) (hl:l.length=32) (hm:m.length=32) (b:Bool) (hb:(!decide (l=m))=b) (w:World):
  (execOp a.eval o).run Tryz.prog w=.ok (.value (.bool b)) w:=by
 subst hX hY hb
 exact gi x y ho l m hl hm hx hy w
def clc (nv sv:Value) (v:Vd) (cnt:Int) (top:List Nat) (dv:Value):List Value:=nv::sv::(vx v++(.int .i64 cnt::(top.map Su.vb++[dv])))
theorem aQ (A X X' B:List Value) (off:Nat) (hA:A.length=off) (hX:X.length=X'.length):over (A++(X++B)) off X'=A++(X'++B):=by
 unfold over
 subst hA
 rw [List.take_append_of_le_length (Nat.le_refl _),List.take_of_length_le (Nat.le_refl _),List.drop_append,List.drop_of_length_le (by omega),List.nil_append,show A.length+X'.length-A.length=X'.length by omega,← hX,List.drop_append_of_le_length (Nat.le_refl _),List.drop_of_length_le (Nat.le_refl _),List.nil_append,List.append_assoc]
theorem lC (A:List Value) (x y:Value) (B:List Value) (off:Nat) (hA:A.length=off):(A++x::B).set off y=A++y::B:=by
 subst hA
 rw [List.set_append_right _ _ (Nat.le_refl _)]
 simp
theorem yW (nv sv:Value) (v:Vd) (cnt:Int) (top:List Nat) (dv:Value) (h:top.length=32):(clc nv sv v cnt top dv).length=71:=by simp [clc,jq,h]
theorem xK (nv sv:Value) (v u:Vd) (cnt:Int) (top:List Nat) (dv:Value):over (clc nv sv v cnt top dv) 2 (vx u)=clc nv sv u cnt top dv:=aQ [nv,sv] (vx v) (vx u) _ 2 rfl (by rw [jq,jq])
theorem aa (nv sv:Value) (v:Vd) (cnt n:Int) (top:List Nat) (dv:Value):(clc nv sv v cnt top dv).toArray.setIfInBounds 37 (.int .i64 n)=(clc nv sv v n top dv).toArray:=by
 rw [List.setIfInBounds_toArray]
 exact congrArg List.toArray (lC (nv::sv::vx v) (.int .i64 cnt) (.int .i64 n) (top.map Su.vb++[dv]) 37 (by simp [jq]))
theorem lD (nv sv:Value) (v:Vd) (cnt:Int) (top t2:List Nat) (dv:Value) (h:top.length=32) (h2:t2.length=32):over (clc nv sv v cnt top dv) 38 (t2.map Su.vb)=clc nv sv v cnt t2 dv:=by
 have e:∀ t:List Nat,clc nv sv v cnt t dv=(nv::sv::(vx v++[.int .i64 cnt]))++(t.map Su.vb++[dv]):=fun t=>by simp [clc]
 rw [e,e]
 exact aQ _ _ _ _ 38 (by simp [jq]) (by simp [h,h2])
theorem lE (nv sv s2:Value) (v:Vd) (cnt:Int) (top:List Nat) (dv:Value):(clc nv sv v cnt top dv).toArray.setIfInBounds 1 s2=(clc nv s2 v cnt top dv).toArray:=by
 rw [List.setIfInBounds_toArray];rfl
theorem ae (nv sv:Value) (v:Vd) (cnt:Int) (top:List Nat) (dv d2:Value) (h:top.length=32):(clc nv sv v cnt top dv).toArray.setIfInBounds 70 d2=(clc nv sv v cnt top d2).toArray:=by
 rw [List.setIfInBounds_toArray]
 have e:∀ d,clc nv sv v cnt top d=(nv::sv::(vx v++(.int .i64 cnt::top.map Su.vb)))++d::[]:=fun d=>by simp [clc]
 rw [e,e]
 exact congrArg List.toArray (lC _ dv d2 [] 70 (by simp [jq,h]))
theorem wS (nv sv:Value) (v:Vd) (cnt:Int) (top:List Nat) (dv:Value):(clc nv sv v cnt top dv).toArray[0]?=some nv:=rfl
theorem lF (nv sv:Value) (v:Vd) (cnt:Int) (top:List Nat) (dv:Value):(clc nv sv v cnt top dv).toArray[1]?=some sv:=rfl
theorem yA (nv sv:Value) (v:Vd) (cnt:Int) (top:List Nat) (dv:Value):(clc nv sv v cnt top dv).toArray[37]?=some (.int .i64 cnt):=by
 rw [List.getElem?_toArray]
 show (nv::sv::(vx v++_))[37]?=_
 rw [List.getElem?_cons_succ,List.getElem?_cons_succ,List.getElem?_append_right (by rw [jq];decide),jq]
 rfl
theorem kW (nv sv:Value) (v:Vd) (cnt:Int) (top:List Nat) (dv:Value) (h:top.length=32):(clc nv sv v cnt top dv).toArray[70]?=some dv:=by
 rw [List.getElem?_toArray]
 show (nv::sv::(vx v++_))[70]?=_
 rw [List.getElem?_cons_succ,List.getElem?_cons_succ,List.getElem?_append_right (by rw [jq];decide),jq]
 show (_::(top.map Su.vb++[dv]))[33]?=_
 rw [List.getElem?_cons_succ,List.getElem?_append_right (by simp [h])]
 simp [h]
theorem fj (nv sv:Value) (v:Vd) (cnt:Int) (top:List Nat) (dv:Value):(clc nv sv v cnt top dv).toArray.extract 2 37=(vx v).toArray:=by
 rw [List.extract_toArray]
 show ((clc nv sv v cnt top dv).extract 2 37).toArray=_
 congr 1
 unfold clc
 simp only [List.extract_eq_take_drop,List.drop_succ_cons,List.drop_zero]
 rw [List.take_append_of_le_length (by rw [jq];decide),List.take_of_length_le (by rw [jq];decide)]
theorem sI (nv sv:Value) (v:Vd) (cnt:Int) (top:List Nat) (dv:Value) (h:top.length=32):(clc nv sv v cnt top dv).toArray.extract 38 70=hA top:=by
 have e:clc nv sv v cnt top dv=(nv::sv::(vx v++[.int .i64 cnt]))++(top.map Su.vb++[dv]):=by simp [clc]
 rw [List.extract_toArray,e]
 unfold hA
 congr 1
 rw [List.extract_eq_take_drop,List.drop_append,List.drop_of_length_le (by simp [jq]),List.nil_append]
 rw [show 38-(nv::sv::(vx v++[Value.int .i64 cnt])).length=0 by simp [jq],List.drop_zero,List.take_append_of_le_length (by simp [h]),List.take_of_length_le (by simp [h])]
def All2 {α β:Type} (R:α→β→Prop):List α→List β→Prop
 | [],[]=>True
 | a::s,b::t=>R a b∧All2 R s t
 | _,_=>False
theorem All2.mono {α β:Type} {R S:α→β→Prop} (h:∀ a b,R a b→S a b):∀ {s:List α} {t:List β},All2 R s t→All2 S s t
 | [],[],_=>trivial
 | _::_,_::_,⟨q,p⟩=>⟨h _ _ q,All2.mono h p⟩
 | [],_::_,q=>q.elim
 | _::_,[],q=>q.elim
theorem All2.snoc {α β:Type} {R:α→β→Prop} {a:α} {b:β} (hr:R a b):∀ {s:List α} {t:List β},All2 R s t→All2 R (s++[a]) (t++[b])
 | [],[],_=>⟨hr,trivial⟩
 | _::_,_::_,⟨q,p⟩=>⟨q,All2.snoc hr p⟩
 | [],_::_,q=>q.elim
 | _::_,[],q=>q.elim
theorem All2.len {α β:Type} {R:α→β→Prop}:∀ {s:List α} {t:List β},All2 R s t→s.length=t.length
 | [],[],_=>rfl
 | _::_,_::_,⟨_,p⟩=>by simp [All2.len p]
 | [],_::_,q=>q.elim
 | _::_,[],q=>q.elim
theorem All2.at {α β:Type} {R:α→β→Prop}:∀ {s:List α} {t:List β} {i:Nat} {b:β},All2 R s t→t[i]?=some b→∃ a,s[i]?=some a∧R a b
 | a::s,b::t,0,b',⟨q,_⟩,h=>by simp at h;subst h;exact ⟨a,rfl,q⟩
 | _::s,_::t,i+1,b',⟨_,p⟩,h=>by simpa using All2.at p (by simpa using h)
 | [],[],i,b',_,h=>by simp at h
 | [],_::_,_,_,q,_=>q.elim
 | _::_,[],_,_,q,_=>q.elim
theorem StAt.keep {w w':World} {lo:Nat} {c:Array Value} {p:Sq} (h:StAt w lo c p) (hk:∀ b cs,lo≤b→w.heap[b]?=some (.cells cs 22 (0,0))→w'.heap[b]?=w.heap[b]?):StAt w' lo c p:=by
 obtain ⟨sc,h1,h2,h3⟩:=h
 exact ⟨sc,h1,h2.keep hk,h3⟩
theorem SdAt.keep {w w':World} {lo:Nat} {c:Array Value} {p:Sd} (h:SdAt w lo c p) (hk:∀ b cs,lo≤b→w.heap[b]?=some (.cells cs 22 (0,0))→w'.heap[b]?=w.heap[b]?):SdAt w' lo c p:=by
 obtain ⟨sc,h1,h2,h3⟩:=h
 exact ⟨sc,h1,h2.keep hk,h3⟩
def StL (w:World) (lo:Nat) (v:Value) (L:List Sq):Prop:=∃ cs,OwL 129 4 w lo v cs∧All2 (StAt w lo) cs L
def SdL (w:World) (lo:Nat) (v:Value) (L:List Sd):Prop:=∃ cs,OwL 125 36 w lo v cs∧All2 (SdAt w lo) cs L
theorem StL.keep {w w':World} {lo:Nat} {v:Value} {L:List Sq} (h:StL w lo v L) (hk:∀ (b:Nat) (cs:Array Value) (T:TypeId),lo≤b→w.heap[b]?=some (.cells cs T (0,0))→(T=22∨T=129)→w'.heap[b]?=w.heap[b]?):StL w' lo v L:=by
 obtain ⟨cs,h1,h2⟩:=h
 exact ⟨cs,h1.block fun b hb=>by obtain ⟨c,q⟩:=OwL.ty h1 hb;exact hk b c _ (h1.lt b hb).1 q (.inr rfl),h2.mono fun a b q=>q.keep fun b cs hb q=>hk b cs _ hb q (.inl rfl)⟩
theorem SdL.keep {w w':World} {lo:Nat} {v:Value} {L:List Sd} (h:SdL w lo v L) (hk:∀ (b:Nat) (cs:Array Value) (T:TypeId),lo≤b→w.heap[b]?=some (.cells cs T (0,0))→(T=22∨T=125)→w'.heap[b]?=w.heap[b]?):SdL w' lo v L:=by
 obtain ⟨cs,h1,h2⟩:=h
 exact ⟨cs,h1.block fun b hb=>by obtain ⟨c,q⟩:=OwL.ty h1 hb;exact hk b c _ (h1.lt b hb).1 q (.inr rfl),h2.mono fun a b q=>q.keep fun b cs hb q=>hk b cs _ hb q (.inl rfl)⟩
theorem StL.form {w:World} {lo:Nat} {v:Value} {L:List Sq} (h:StL w lo v L):∃ a c,v=.slice a L.length c:=by
 obtain ⟨cs,h1,h2⟩:=h
 obtain ⟨p,c,e⟩:=h1.form
 exact ⟨p,c,by rw [e,h2.len]⟩
theorem SdL.form {w:World} {lo:Nat} {v:Value} {L:List Sd} (h:SdL w lo v L):∃ a c,v=.slice a L.length c:=by
 obtain ⟨cs,h1,h2⟩:=h
 obtain ⟨p,c,e⟩:=h1.form
 exact ⟨p,c,by rw [e,h2.len]⟩
theorem StL.nil (w:World) (lo:Nat):StL w lo (.slice none 0 0) []:=⟨[],OwL.nil _ _ _ _,trivial⟩
theorem SdL.nil (w:World) (lo:Nat):SdL w lo (.slice none 0 0) []:=⟨[],OwL.nil _ _ _ _,trivial⟩
structure ClI (C:Nat) (nv:Value) (cm:Cm) (sv dv:Value) (w:World):Prop where
 at_:w.heap[C]?=some (.cells (clc nv sv cm.value (cm.count:Int) cm.top dv).toArray 117 (0,0))
 st:StL w (C+1) sv cm.steps
 sd:SdL w (C+1) dv cm.sides
 tl:cm.top.length=32
theorem ClI.lt {C:Nat} {nv:Value} {cm:Cm} {sv dv:Value} {w:World} (h:ClI C nv cm sv dv w):C<w.heap.size:=(ga h.at_).1
theorem ClI.keep {C:Nat} {nv:Value} {cm:Cm} {sv dv:Value} {w w':World} (h:ClI C nv cm sv dv w) (hk:∀ b,C≤b→b<w.heap.size→w'.heap[b]?=w.heap[b]?):ClI C nv cm sv dv w':=
 ⟨(hk C (Nat.le_refl _) h.lt).trans h.at_,h.st.keep fun b _ _ hb q _=>hk b (by omega) (ga q).1,h.sd.keep fun b _ _ hb q _=>hk b (by omega) (ga q).1,h.tl⟩
theorem ClI.kp {c:Rq} {C:Nat} {nv:Value} {cm:Cm} {sv dv:Value} {w w':World} (h:ClI C nv cm sv dv w) (hk:Kp c.own w w') (hC:c.Q<C):ClI C nv cm sv dv w':=h.keep fun b h1 h2=>hk.block b h2 fun e=>by have:=e.2;omega
theorem ClI.up {C:Nat} {nv:Value} {cm:Cm} {sv dv:Value} {w w':World} (h:ClI C nv cm sv dv w) (hk:G w w'):ClI C nv cm sv dv w':=h.keep fun b _ h2=>hk.block b h2
theorem ClI.re {C:Nat} {nv:Value} {cm cm':Cm} {sv dv:Value} {w w':World} (h:ClI C nv cm sv dv w) (hk:Kp (fun b=>b=C) w w') (h1:cm'.steps=cm.steps) (h2:cm'.sides=cm.sides) (h3:cm'.top.length=32) (h4:w'.heap[C]?=some (.cells (clc nv sv cm'.value (cm'.count:Int) cm'.top dv).toArray 117 (0,0))):ClI C nv cm' sv dv w':=
 ⟨h4,by rw [h1];exact h.st.keep fun b _ _ hb q _=>hk.block b (ga q).1 (by omega),by rw [h2];exact h.sd.keep fun b _ _ hb q _=>hk.block b (ga q).1 (by omega),h3⟩
def Rq.in_ (c:Rq) (C b:Nat):Prop:=c.own b∨C≤b
theorem eH (v:Vd):(vx v).toArray.all (·.oneCell')=true:=xJ rfl (xJ rfl (xJ rfl (jn v.sum)))
theorem jx (v:Vd):(vx v).toArray.size=35:=by simp [jq]
end Go.Proofs.YtdeanahpiigonaaGreatDoor
