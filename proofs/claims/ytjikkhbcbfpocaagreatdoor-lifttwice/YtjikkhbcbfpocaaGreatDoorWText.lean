import Derived.Test.YtjikkhbcbfpocaaGreatDoorWRead
import Derived.Deep.RegionWith
set_option maxRecDepth 100000
set_option maxHeartbeats 1600000
namespace Go.Proofs.YtjikkhbcbfpocaaGreatDoor.Wi
open Go.RowKit Wire
theorem ji {P:Program} {id:Nat} {ops:Array Oper} {Q:Exit→Act→List Frame→World→Prop} {a:Act} {cs:List Frame} {w:World}
    (h:∀ t,wpOpsS P ops Q (Region.schedule (P.follows .mixedOrders) ops t) a cs { w with drawn:=w.drawn+1 }):(Code.region id ops true).wpS P Q a cs w:=
  fun b k hb hr=>let ⟨e,a',cs',w',q,r⟩:=wp_opsS _ a cs _ (h _) b k hb hr;⟨e,a',cs',w',q,.of_steps (.one step_region_draw) r⟩
theorem jM {w:World} {R o:Nat} {c:Array Value} {T:TypeId} {f:Nat × Nat} (v:Value) (h:w.heap[R]?=some (.cells c T f)):(w.setCell ⟨R,o,none⟩ v).heap[R]?=some (.cells (c.setIfInBounds o v) T f):=by
  simp [World.setCell,Array.getElem?_modify,h]
theorem kS (w:World) (R o:Nat) (v:Value):w.grownBy (w.setCell ⟨R,o,none⟩ v) (some R):=
  ⟨rfl,rfl,rfl,by simp [World.setCell],fun k _ hk=>Below.heap_setCell w ⟨R,o,none⟩ v k (fun e=>hk (by rw [e]))⟩
theorem kG {w w1 w2:World} {R:Option Nat} (h:w.grownBy w1 R) (k:w1.grownBy w2 R):w.grownBy w2 R:=
  ⟨k.os.trans h.os,k.tape.trans h.tape,k.output.trans h.output,Nat.le_trans h.size k.size,fun i hi hne=>(k.block i (Nat.lt_of_lt_of_le hi h.size) hne).trans (h.block i hi hne)⟩
theorem aq {w w1:World} {R:Option Nat} (h:w.grownBy w1 R):w.grownBy w1.drew R:=⟨h.os,h.tape,h.output,h.size,h.block⟩
theorem qK {w w1:World} (R:Option Nat) (h:Below w.heap.size w w1):w.grownBy w1 R:=⟨h.os,h.tape,h.output,h.size,fun i hi _=>h.block i hi⟩
theorem assert50 (x:Value) (w:World):(Instr.typeAssert (.iface 93 x) 20 93 true).run Tryz.prog w=.ok (.tuple #[x,.bool true]) w:=by kernel_rfl
theorem aN (R:Nat) (w:World):
    Calls Tryz.prog 92 #[.pointer (some ⟨R,0,none⟩),.nilIface] w fun x w'=>x=.returned (.tuple #[])∧w'=w:=by
  go_enter Tryz.func92,Tryz.ntmps92
  go_wp2
  go_end0
  exact ⟨rfl,rfl⟩
theorem aO (R:Nat) (p e:Int) (w:World) (c0 c1 c2 c3 c4:Value) (h:w.heap[R]?=some (.cells #[c0,c1,c2,c3,c4] 158 (0,0))):
    Calls Tryz.prog 92 #[.pointer (some ⟨R,0,none⟩),flt p e] w fun x w'=>x=.returned (.tuple #[])∧w'.heap[R]?=some (.cells #[c0,c1,.int .i64 p,.string ⟨#[]⟩,.int .i64 e] 158 (0,0))∧w.grownBy w' (some R):=by
  obtain ⟨h0,h1,h2,h3,h4,hf⟩:=qN h
  have hlt:R<w.heap.size:=(gS h)
  have H:Hid (w.heap[R]?=some (.cells #[c0,c1,c2,c3,c4] 158 (0,0))):=h
  clear h
  unfold flt
  have hta:=assert50
  go_enter Tryz.func92,Tryz.ntmps92
  go_wp2
  go_end0
  refine ⟨rfl,?_,?_⟩
  · rw [Below.heap_alloc _ _ _ (by simpa [World.setCell] using hlt)]
    have e1:=jM (o:=2) (.int .i64 p) H.out
    have e2:=jM (o:=3) (.string ⟨#[]⟩) e1
    have e3:=jM (o:=4) (.int .i64 e) e2
    rw [e3]
    rfl
  · exact kG (kG (kG (kS _ _ _ _) (kS _ _ _ _)) (kS _ _ _ _)) (World.grownBy_alloc _ _ _)
def jY (pos:String):Array Oper:=
  #[{ dst:=some 1,op:=Op.load 76 (Operand.tmp 0),type:=76,pos:=pos,after:=#[],guard:=none },
    { dst:=some 2,op:=Op.call { callee:=Callee.builtin Builtin.recover,args:=#[],argTypes:=#[] },type:=20,pos:=pos,after:=#[],guard:=none },
    { dst:=some 3,op:=Op.call { callee:=Callee.value (Operand.func 92),args:=#[Operand.tmp 1,Operand.tmp 2],argTypes:=#[76,20] },type:=0,pos:=pos,
      after:=#[{ on:=0,ground:=Ground.data },{ on:=1,ground:=Ground.data },{ on:=1,ground:=Ground.chain }],guard:=none }]
theorem dD (md:Region.Mode) (ops:Array Oper) (fuel t:Nat) (listed:Array Bool) (acc:List Nat):
    Region.linearise.go md ops (fuel+1) t listed acc=(match (Region.ready md ops listed)[t%(Region.ready md ops listed).length]? with
      | some i=>Region.linearise.go md ops fuel (t/(Region.ready md ops listed).length) (listed.setIfInBounds i true) (i::acc)
      | none=>acc.reverse):=rfl
theorem qQ (pos:String) (t:Nat):Region.schedule true (jY pos) t=[0,1,2]∨Region.schedule true (jY pos) t=[1,0,2]:=by
  have r0:Region.ready .any (jY pos) #[false,false,false]=[0,1]:=by simp [Region.ready,jY,List.range,List.range.loop,Region.binds]
  have r1:Region.ready .any (jY pos) #[true,false,false]=[1]:=by simp [Region.ready,jY,List.range,List.range.loop,Region.binds]
  have r2:Region.ready .any (jY pos) #[false,true,false]=[0]:=by simp [Region.ready,jY,List.range,List.range.loop,Region.binds]
  have r3:Region.ready .any (jY pos) #[true,true,false]=[2]:=by simp [Region.ready,jY,List.range,List.range.loop,Region.binds]
  have e:Region.schedule true (jY pos) t=Region.linearise.go .any (jY pos) 3 t #[false,false,false] []:=by rfl
  rw [e,dD,r0]
  rcases Nat.mod_two_eq_zero_or_one t with h | h
  · left
    simp only [lC,lN,Nat.zero_add,Nat.reduceAdd,h,List.getElem?_cons_zero]
    rw [show (#[false,false,false]:Array Bool).setIfInBounds 0 true=#[true,false,false] from rfl,dD,r1]
    simp only [lC,lN,Nat.zero_add,Nat.mod_one,List.getElem?_cons_zero]
    rw [show (#[true,false,false]:Array Bool).setIfInBounds 1 true=#[true,true,false] from rfl,dD,r3]
    simp only [lC,lN,Nat.zero_add,Nat.mod_one,List.getElem?_cons_zero]
    rfl
  · right
    simp only [lC,lN,Nat.zero_add,Nat.reduceAdd,h,List.getElem?_cons_succ,List.getElem?_cons_zero]
    rw [show (#[false,false,false]:Array Bool).setIfInBounds 1 true=#[false,true,false] from rfl,dD,r2]
    simp only [lC,lN,Nat.zero_add,Nat.mod_one,List.getElem?_cons_zero]
    rw [show (#[false,true,false]:Array Bool).setIfInBounds 0 true=#[true,true,false] from rfl,dD,r3]
    simp only [lC,lN,Nat.zero_add,Nat.mod_one,List.getElem?_cons_zero]
    rfl
theorem bF (P R:Nat) (w:World) (hc:w.cell? ⟨P,0,none⟩=some (.pointer (some ⟨R,0,none⟩))):
    CallsD Tryz.prog 95 #[.pointer (some ⟨P,0,none⟩)] .returning w fun e u' w'=>e=.returned (.tuple #[])∧u'=.returning∧w'=w.drew:=by
  refine callsD_of_wpS Tryz.func95 rfl fun c₀ cs hu=>?_
  refine ji (ops := jY "reader.go:39") fun t => ?_
  rw [Tryz.mixed]
  rcases qQ "reader.go:39" t with h | h
  all_goals
    rw [h]
    simp [jY,wpOpsS,go_sem,recoverD,hu,Tryz.ntmps95,hc]
    refine (aN R _).mono ?_
    rintro e w1 ⟨rfl,rfl⟩
    exact ⟨rfl,_,by cases c₀;simp_all,_,by simp [results,Tryz.f95,go_sem],rfl,rfl,rfl⟩
theorem kg (P R:Nat) (w:World) (p x:Int) (older:List PanicEntry) (c0 c1 c2 c3 c4:Value) (hc:w.cell? ⟨P,0,none⟩=some (.pointer (some ⟨R,0,none⟩))) (hr:w.heap[R]?=some (.cells #[c0,c1,c2,c3,c4] 158 (0,0))):
    CallsD Tryz.prog 95 #[.pointer (some ⟨P,0,none⟩)] (.panicking ({ v:=flt p x,recovered:=false }::older)) w fun e u' w'=>
      e=.returned (.tuple #[])∧u'=.panicking ({ v:=flt p x,recovered:=true }::older)∧w'.heap[R]?=some (.cells #[c0,c1,.int .i64 p,.string ⟨#[]⟩,.int .i64 x] 158 (0,0))∧w.grownBy w' (some R):=by
  refine callsD_of_wpS Tryz.func95 rfl fun c₀ cs hu=>?_
  refine ji (ops := jY "reader.go:39") fun t => ?_
  rw [Tryz.mixed]
  rcases qQ "reader.go:39" t with h | h
  all_goals
    rw [h]
    simp [jY,wpOpsS,go_sem,recoverD,hu,Tryz.ntmps95,hc]
    refine (aO R p x w.drew c0 c1 c2 c3 c4 hr).mono ?_
    rintro e w1 ⟨rfl,hr1,hg1⟩
    exact ⟨rfl,_,by cases c₀;simp_all,_,by simp [results,Tryz.f95,go_sem],rfl,rfl,hr1,⟨hg1.os,hg1.tape,hg1.output,hg1.size,hg1.block⟩⟩
theorem bG (P R:Nat) (w:World) (hc:w.cell? ⟨P,0,none⟩=some (.pointer (some ⟨R,0,none⟩))):
    CallsD Tryz.prog 166 #[.pointer (some ⟨P,0,none⟩)] .returning w fun e u' w'=>e=.returned (.tuple #[])∧u'=.returning∧w'=w.drew:=by
  refine callsD_of_wpS Tryz.func166 rfl fun c₀ cs hu=>?_
  refine ji (ops := jY "reader.go:53") fun t => ?_
  rw [Tryz.mixed]
  rcases qQ "reader.go:53" t with h | h
  all_goals
    rw [h]
    simp [jY,wpOpsS,go_sem,recoverD,hu,Tryz.ntmps166,hc]
    refine (aN R _).mono ?_
    rintro e w1 ⟨rfl,rfl⟩
    exact ⟨rfl,_,by cases c₀;simp_all,_,by simp [results,Tryz.f166,go_sem],rfl,rfl,rfl⟩
theorem kH (P R:Nat) (w:World) (p x:Int) (older:List PanicEntry) (c0 c1 c2 c3 c4:Value) (hc:w.cell? ⟨P,0,none⟩=some (.pointer (some ⟨R,0,none⟩))) (hr:w.heap[R]?=some (.cells #[c0,c1,c2,c3,c4] 158 (0,0))):
    CallsD Tryz.prog 166 #[.pointer (some ⟨P,0,none⟩)] (.panicking ({ v:=flt p x,recovered:=false }::older)) w fun e u' w'=>
      e=.returned (.tuple #[])∧u'=.panicking ({ v:=flt p x,recovered:=true }::older)∧w'.heap[R]?=some (.cells #[c0,c1,.int .i64 p,.string ⟨#[]⟩,.int .i64 x] 158 (0,0))∧w.grownBy w' (some R):=by
  refine callsD_of_wpS Tryz.func166 rfl fun c₀ cs hu=>?_
  refine ji (ops := jY "reader.go:53") fun t => ?_
  rw [Tryz.mixed]
  rcases qQ "reader.go:53" t with h | h
  all_goals
    rw [h]
    simp [jY,wpOpsS,go_sem,recoverD,hu,Tryz.ntmps166,hc]
    refine (aO R p x w.drew c0 c1 c2 c3 c4 hr).mono ?_
    rintro e w1 ⟨rfl,hr1,hg1⟩
    exact ⟨rfl,_,by cases c₀;simp_all,_,by simp [results,Tryz.f166,go_sem],rfl,rfl,hr1,⟨hg1.os,hg1.tape,hg1.output,hg1.size,hg1.block⟩⟩
theorem bH (P R:Nat) (w:World) (hc:w.cell? ⟨P,0,none⟩=some (.pointer (some ⟨R,0,none⟩))):
    CallsD Tryz.prog 165 #[.pointer (some ⟨P,0,none⟩)] .returning w fun e u' w'=>e=.returned (.tuple #[])∧u'=.returning∧w'=w.drew:=by
  refine callsD_of_wpS Tryz.func165 rfl fun c₀ cs hu=>?_
  refine ji (ops := jY "reader.go:28") fun t => ?_
  rw [Tryz.mixed]
  rcases qQ "reader.go:28" t with h | h
  all_goals
    rw [h]
    simp [jY,wpOpsS,go_sem,recoverD,hu,Tryz.ntmps165,hc]
    refine (aN R _).mono ?_
    rintro e w1 ⟨rfl,rfl⟩
    exact ⟨rfl,_,by cases c₀;simp_all,_,by simp [results,Tryz.f165,go_sem],rfl,rfl,rfl⟩
theorem lL (P R:Nat) (w:World) (p x:Int) (older:List PanicEntry) (c0 c1 c2 c3 c4:Value) (hc:w.cell? ⟨P,0,none⟩=some (.pointer (some ⟨R,0,none⟩))) (hr:w.heap[R]?=some (.cells #[c0,c1,c2,c3,c4] 158 (0,0))):
    CallsD Tryz.prog 165 #[.pointer (some ⟨P,0,none⟩)] (.panicking ({ v:=flt p x,recovered:=false }::older)) w fun e u' w'=>
      e=.returned (.tuple #[])∧u'=.panicking ({ v:=flt p x,recovered:=true }::older)∧w'.heap[R]?=some (.cells #[c0,c1,.int .i64 p,.string ⟨#[]⟩,.int .i64 x] 158 (0,0))∧w.grownBy w' (some R):=by
  refine callsD_of_wpS Tryz.func165 rfl fun c₀ cs hu=>?_
  refine ji (ops := jY "reader.go:28") fun t => ?_
  rw [Tryz.mixed]
  rcases qQ "reader.go:28" t with h | h
  all_goals
    rw [h]
    simp [jY,wpOpsS,go_sem,recoverD,hu,Tryz.ntmps165,hc]
    refine (aO R p x w.drew c0 c1 c2 c3 c4 hr).mono ?_
    rintro e w1 ⟨rfl,hr1,hg1⟩
    exact ⟨rfl,_,by cases c₀;simp_all,_,by simp [results,Tryz.f165,go_sem],rfl,rfl,hr1,⟨hg1.os,hg1.tape,hg1.output,hg1.size,hg1.block⟩⟩
theorem bI (P R:Nat) (w:World) (hc:w.cell? ⟨P,0,none⟩=some (.pointer (some ⟨R,0,none⟩))):
    CallsD Tryz.prog 106 #[.pointer (some ⟨P,0,none⟩)] .returning w fun e u' w'=>e=.returned (.tuple #[])∧u'=.returning∧w'=w.drew:=by
  refine callsD_of_wpS Tryz.func106 rfl fun c₀ cs hu=>?_
  refine ji (ops := jY "reader.go:79") fun t => ?_
  rw [Tryz.mixed]
  rcases qQ "reader.go:79" t with h | h
  all_goals
    rw [h]
    simp [jY,wpOpsS,go_sem,recoverD,hu,Tryz.ntmps106,hc]
    refine (aN R _).mono ?_
    rintro e w1 ⟨rfl,rfl⟩
    exact ⟨rfl,_,by cases c₀;simp_all,_,by simp [results,Tryz.f106,go_sem],rfl,rfl,rfl⟩
theorem lO (P R:Nat) (w:World) (p x:Int) (older:List PanicEntry) (c0 c1 c2 c3 c4:Value) (hc:w.cell? ⟨P,0,none⟩=some (.pointer (some ⟨R,0,none⟩))) (hr:w.heap[R]?=some (.cells #[c0,c1,c2,c3,c4] 158 (0,0))):
    CallsD Tryz.prog 106 #[.pointer (some ⟨P,0,none⟩)] (.panicking ({ v:=flt p x,recovered:=false }::older)) w fun e u' w'=>
      e=.returned (.tuple #[])∧u'=.panicking ({ v:=flt p x,recovered:=true }::older)∧w'.heap[R]?=some (.cells #[c0,c1,.int .i64 p,.string ⟨#[]⟩,.int .i64 x] 158 (0,0))∧w.grownBy w' (some R):=by
  refine callsD_of_wpS Tryz.func106 rfl fun c₀ cs hu=>?_
  refine ji (ops := jY "reader.go:79") fun t => ?_
  rw [Tryz.mixed]
  rcases qQ "reader.go:79" t with h | h
  all_goals
    rw [h]
    simp [jY,wpOpsS,go_sem,recoverD,hu,Tryz.ntmps106,hc]
    refine (aO R p x w.drew c0 c1 c2 c3 c4 hr).mono ?_
    rintro e w1 ⟨rfl,hr1,hg1⟩
    exact ⟨rfl,_,by cases c₀;simp_all,_,by simp [results,Tryz.f106,go_sem],rfl,rfl,hr1,⟨hg1.os,hg1.tape,hg1.output,hg1.size,hg1.block⟩⟩
theorem bJ (P R:Nat) (w:World) (hc:w.cell? ⟨P,0,none⟩=some (.pointer (some ⟨R,0,none⟩))):
    CallsD Tryz.prog 91 #[.pointer (some ⟨P,0,none⟩)] .returning w fun e u' w'=>e=.returned (.tuple #[])∧u'=.returning∧w'=w.drew:=by
  refine callsD_of_wpS Tryz.func91 rfl fun c₀ cs hu=>?_
  refine ji (ops := jY "reader.go:68") fun t => ?_
  rw [Tryz.mixed]
  rcases qQ "reader.go:68" t with h | h
  all_goals
    rw [h]
    simp [jY,wpOpsS,go_sem,recoverD,hu,Tryz.ntmps91,hc]
    refine (aN R _).mono ?_
    rintro e w1 ⟨rfl,rfl⟩
    exact ⟨rfl,_,by cases c₀;simp_all,_,by simp [results,Tryz.f91,go_sem],rfl,rfl,rfl⟩
theorem lP (P R:Nat) (w:World) (p x:Int) (older:List PanicEntry) (c0 c1 c2 c3 c4:Value) (hc:w.cell? ⟨P,0,none⟩=some (.pointer (some ⟨R,0,none⟩))) (hr:w.heap[R]?=some (.cells #[c0,c1,c2,c3,c4] 158 (0,0))):
    CallsD Tryz.prog 91 #[.pointer (some ⟨P,0,none⟩)] (.panicking ({ v:=flt p x,recovered:=false }::older)) w fun e u' w'=>
      e=.returned (.tuple #[])∧u'=.panicking ({ v:=flt p x,recovered:=true }::older)∧w'.heap[R]?=some (.cells #[c0,c1,.int .i64 p,.string ⟨#[]⟩,.int .i64 x] 158 (0,0))∧w.grownBy w' (some R):=by
  refine callsD_of_wpS Tryz.func91 rfl fun c₀ cs hu=>?_
  refine ji (ops := jY "reader.go:68") fun t => ?_
  rw [Tryz.mixed]
  rcases qQ "reader.go:68" t with h | h
  all_goals
    rw [h]
    simp [jY,wpOpsS,go_sem,recoverD,hu,Tryz.ntmps91,hc]
    refine (aO R p x w.drew c0 c1 c2 c3 c4 hr).mono ?_
    rintro e w1 ⟨rfl,hr1,hg1⟩
    exact ⟨rfl,_,by cases c₀;simp_all,_,by simp [results,Tryz.f91,go_sem],rfl,rfl,hr1,⟨hg1.os,hg1.tape,hg1.output,hg1.size,hg1.block⟩⟩
structure St where
 p:Nat
 fa:Int
 fe:Int
def uintS (l:List Int) (s:St) (most:Nat):Nat × St:=
 if s.fe≠0 then (0,s) else match rd 0 (l.drop s.p) with
 | .ok n k=>if n≤most then (n,⟨s.p+k,s.fa,s.fe⟩) else (0,⟨s.p,s.p,12⟩)
 | .form i=>(0,⟨s.p,(s.p+i:Nat),11⟩)
 | .short=>(0,⟨s.p,l.length,10⟩)
def RdS (w:World) (lo R:Nat) (l:List Int) (s:St):Prop:=Rdr w lo R l s.p s.fa s.fe
theorem hmf (fn:Fn) (first cap:Array Value) (w:World):(Instr.makeFunc fn first cap).run Tryz.prog w=.ok (.func fn first cap) w:=rfl
theorem fO {w:World} {lo:Nat} {v:Value} {l:List Int} (h:Owns w lo v l):∃ ao cap,v=.slice ao l.length cap∧l.length≤cap∧∀ i,i<l.length→∃ g,ao=some ⟨g,0,none⟩∧w.cell? ⟨g,i,none⟩=some (.int .u8 (l[i]?.getD 0)):=by
 have h0:=h
 obtain ⟨_,h | ⟨g,cap,cur,hv,hg,hh,hn,hm,hs,ht⟩⟩:=h
 ·obtain ⟨rfl,hl⟩:=h
  refine ⟨none,0,by rw [hl],by omega,fun i hi=>?_⟩
  omega
 ·subst hv
  refine ⟨_,cap,rfl,hn,fun i hi=>⟨g,rfl,?_⟩⟩
  have:=World.ownsRow.cells h0 (g:=g) rfl i (.int .u8 (l[i]?.getD 0)) (by simp [gl hi])
  rwa [add0] at this
theorem RdS.grown {w w':World} {lo R:Nat} {l:List Int} {s:St} (h:RdS w lo R l s) (hb:Below w.heap.size w w'):RdS w' lo R l s:=Rdr.below h hb
theorem jI (w:World) (o:Obj):Below w.heap.size w (w.alloc o).drew:=((Below.refl _ _).alloc (Nat.le_refl _) _).drew
theorem jS (w:World) (o:Obj) (n:Nat):Below w.heap.size w ((w.alloc o).drewN n):=((Below.refl _ _).alloc (Nat.le_refl _) _).trans ⟨rfl,rfl,rfl,Nat.le_refl _,fun _ _=>rfl⟩
theorem RdS.noted {w w1 w2:World} {lo R:Nat} {l:List Int} {p:Nat} {fa fe fa' fe':Int} {v:Value} (ho:Owns w lo v l) (hk:∀ k,v.ownBlock=some k→k<R) (hl:lo≤R) (hp:p≤l.length) (hn:l.length≤16777216)
  (hb:Below w.heap.size w w1) (hh:w2.heap[R]?=some (.cells #[v,.int .i64 p,.int .i64 fa',.string ⟨#[]⟩,.int .i64 fe'] 158 (0,0))) (hg:w1.grownBy w2 (some R)) (_h:w.heap[R]?=some (.cells #[v,.int .i64 p,.int .i64 fa,.string ⟨#[]⟩,.int .i64 fe] 158 (0,0))):
  RdS w2 lo R l ⟨p,fa',fe'⟩∧w.grownBy w2 (some R):=by
 have h1:=ho.below hb (Nat.le_refl _)
 refine ⟨⟨v,hh,h1.block fun k e=>hg.block k (h1.lt k e).2 (fun e'=>?_),hk,hl,hp,hn⟩,kG (qK _ hb) hg⟩
 have:=hk k e
 simp at e';omega
theorem RdS.moved {w:World} {lo R:Nat} {l:List Int} {p:Nat} {fa fe:Int} {v:Value} (hh:w.heap[R]?=some (.cells #[v,.int .i64 p,.int .i64 fa,.string ⟨#[]⟩,.int .i64 fe] 158 (0,0))) (ho:Owns w lo v l) (hk:∀ k,v.ownBlock=some k→k<R) (hl:lo≤R) (hn:l.length≤16777216)
  (o:Obj) (n:Nat) (x:Int) (p':Nat) (hx:x=p') (hp:p'≤l.length):
  RdS (((w.alloc o).drewN n).setCell ⟨R,1,none⟩ (.int .i64 x)).drew lo R l ⟨p',fa,fe⟩∧w.grownBy (((w.alloc o).drewN n).setCell ⟨R,1,none⟩ (.int .i64 x)).drew (some R)∧
   (((w.alloc o).drewN n).setCell ⟨R,1,none⟩ (.int .i64 x)).cell? ⟨w.heap.size,0,none⟩=(w.alloc o).cell? ⟨w.heap.size,0,none⟩:=by
 have hlt:R<w.heap.size:=(gS hh)
 have h1:((w.alloc o).drewN n).heap[R]?=some (.cells #[v,.int .i64 p,.int .i64 fa,.string ⟨#[]⟩,.int .i64 fe] 158 (0,0)):=(Below.heap_alloc w o R hlt).trans hh
 have h2:=jM (o:=1) (.int .i64 x) h1
 have hg:w.grownBy (((w.alloc o).drewN n).setCell ⟨R,1,none⟩ (.int .i64 x)).drew (some R):=aq (kG (qK _ (jS w o n)) (kS _ _ _ _))
 refine ⟨⟨v,?_,ho.block fun k e=>hg.block k (ho.lt k e).2 (fun e'=>?_),hk,hl,hp,hn⟩,hg,?_⟩
 ·show (((w.alloc o).drewN n).setCell ⟨R,1,none⟩ (.int .i64 x)).heap[R]?=_
  rw [h2,hx]
  rfl
 ·have:=hk k e
  simp at e';omega
 ·exact World.cell?_of_block (Below.heap_setCell _ ⟨R,1,none⟩ _ w.heap.size (by simp;omega))
theorem oG (lo R most:Nat) (l:List Int) (s:St) (w:World) (hr:RdS w lo R l s) (hf:s.fe≠0):
  Calls Tryz.prog 63 #[.pointer (some ⟨R,0,none⟩),.int .u64 most] w fun e w'=>e=.returned (.int .u64 0)∧RdS w' lo R l s∧w.grownBy w' (some R):=by
 have HR:Hid (RdS w lo R l s):=hr
 obtain ⟨v,hh,ho,hk,hl,hp,hn⟩:=hr
 obtain ⟨h0,h1,h2,h3,h4,hfz⟩:=qN hh
 have hlt:R<w.heap.size:=(gS hh)
 have hfb:(s.fe !=0)=true:=by simpa using hf
 clear hh ho hk h0 h1 h2 h3 hfz
 have hmf':=hmf
 go_enter_defers Tryz.func63,Tryz.ntmps63
 go_wp2_with (go_at_call 93;refine (jh R s.fe _ (by simp [World.cell?_alloc_past _ _ _ hlt,h4])).mono ?_;rintro e w1 ⟨rfl,rfl⟩)
 refine leaves_cons (f:=95) (args:=#[.pointer (some ⟨w.heap.size,0,none⟩)]) (by simp) (by simp [go_sem]) ?_
 refine (bF w.heap.size R _ (by simp)).mono ?_
 rintro e u' w'' ⟨rfl,rfl,rfl⟩
 exact ⟨_,results_tmp rfl _ _ _,rfl,HR.out.grown (jI _ _),qK _ (jI _ _)⟩
theorem iD {lo R:Nat} {l:List Int} {p:Nat} {fa fe:Int} {w:World} (hr:RdS w lo R l ⟨p,fa,fe⟩) (hB:Bytes l) (w':World) (hb:Below w.heap.size w w'):
  Calls Tryz.prog 96 #[.pointer (some ⟨R,0,none⟩),.int .i64 p] w' fun x w''=>x=yh p l.length (rd 0 (l.drop p))∧w''=w':=by
 obtain ⟨v,hh,ho,hk,hl,hp,hn⟩:=RdS.grown hr hb
 obtain ⟨ao,cap,hv,hcap,hat⟩:=fO ho
 subst hv
 obtain ⟨h0,_⟩:=qN hh
 exact oD R p ao cap l w' hB h0 hat hn hp
theorem mt (lo R most:Nat) (l:List Int) (p:Nat) (fa P X:Int) (w:World) (hr:RdS w lo R l ⟨p,fa,0⟩)
  (hU:∀ (w':World),Below w.heap.size w w'→Calls Tryz.prog 96 #[.pointer (some ⟨R,0,none⟩),.int .i64 p] w' fun x w''=>x=.panicked [{ v:=flt P X,recovered:=false }]∧w''=w'):
  Calls Tryz.prog 63 #[.pointer (some ⟨R,0,none⟩),.int .u64 most] w fun e w'=>e=.returned (.int .u64 0)∧RdS w' lo R l ⟨p,P,X⟩∧w.grownBy w' (some R):=by
 obtain ⟨v,hh,ho,hk,hl,hp,hn⟩:=hr
 obtain ⟨ao,cap,hv,hcap,hat⟩:=fO ho
 subst hv
 simp only at hh hp
 obtain ⟨h0,h1,h2,h3,h4,hfz⟩:=qN hh
 have hlt:R<w.heap.size:=(gS hh)
 have HH:Hid (w.heap[R]?=some (.cells #[.slice ao l.length cap,.int .i64 p,.int .i64 fa,.string ⟨#[]⟩,.int .i64 0] 158 (0,0))):=hh
 have HO:Hid (Owns w lo (.slice ao l.length cap) l):=ho
 have HK:Hid (∀ k,(Value.slice ao l.length cap).ownBlock=some k→k<R):=hk
 have HU:Hid (∀ (w':World),Below w.heap.size w w'→Calls Tryz.prog 96 #[.pointer (some ⟨R,0,none⟩),.int .i64 p] w' fun x w''=>x=.panicked [{ v:=flt P X,recovered:=false }]∧w''=w'):=hU
 clear hU hh ho hk h2 h3 hat
 have hmf':=hmf
 have hc1:∀ (o:Obj),(w.alloc o).cell? ⟨R,1,none⟩=some (.int .i64 p):=fun o=>by rw [World.cell?_alloc_past _ _ _ hlt];exact h1
 go_enter_defers Tryz.func63,Tryz.ntmps63
 go_wp2_with (go_at_call 93;refine (jh R 0 _ (by simp [World.cell?_alloc_past _ _ _ hlt,h4])).mono ?_;rintro e w1 ⟨rfl,rfl⟩)
 refine wp_region_any (by kernel_rfl) ?_
 change wpAny _ _ _ _ _ _ _ (World.drew _)
 refine rA [0,1] ?_
 refine AllReady.cons rfl (fun K hK=>?_) (AllReady.cons rfl (fun K hK=>?_) AllReady.nil)
 ·go_simp
  refine hK _ _ ?_
  clear hK K
  refine rA [1] ?_
  refine oR (fun K hK=>?_)
  go_simp
  refine hK _ _ ?_
  clear hK K
  refine rA [2] ?_
  refine oR (fun K hK=>?_)
  go_simp
  refine hK _ _ ?_
  clear hK K
  refine rA [3] ?_
  refine oR (fun K hK=>?_)
  go_simp
  refine hK _ _ ?_
  clear hK K
  refine rA [4] ?_
  refine oR (fun K hK=>?_)
  go_simp
  refine hK _ _ ?_
  clear hK K
  refine rA [5] ?_
  refine oR (fun K hK=>?_)
  go_simp
  refine (HU.out _ (by exact jI w _)).mono ?_
  rintro e w1 ⟨rfl,rfl⟩
  refine leaves_cons (f:=95) (args:=#[.pointer (some ⟨w.heap.size,0,none⟩)]) (by simp) (by simp [go_sem]) ?_
  refine (kg w.heap.size R _ P X [] _ _ _ _ _ (by simp) (((jI w _).block R hlt).trans HH.out)).mono ?_
  rintro e u' w'' ⟨rfl,rfl,hr2,hg2⟩
  obtain ⟨Z1,Z2⟩:=RdS.noted HO.out HK.out hl hp hn (jI w _) hr2 hg2 HH.out
  exact ⟨_,results_tmp rfl _ _ _,rfl,Z1,Z2⟩
 ·go_simp
  refine hK _ _ ?_
  clear hK K
  refine rA [0,2] ?_
  refine AllReady.cons rfl (fun K hK=>?_) (AllReady.cons rfl (fun K hK=>?_) AllReady.nil)
  ·go_simp
   refine hK _ _ ?_
   clear hK K
   refine rA [2] ?_
   refine oR (fun K hK=>?_)
   go_simp
   refine hK _ _ ?_
   clear hK K
   refine rA [3] ?_
   refine oR (fun K hK=>?_)
   go_simp
   refine hK _ _ ?_
   clear hK K
   refine rA [4] ?_
   refine oR (fun K hK=>?_)
   go_simp
   refine hK _ _ ?_
   clear hK K
   refine rA [5] ?_
   refine oR (fun K hK=>?_)
   go_simp
   refine (HU.out _ (by exact jI w _)).mono ?_
   rintro e w1 ⟨rfl,rfl⟩
   refine leaves_cons (f:=95) (args:=#[.pointer (some ⟨w.heap.size,0,none⟩)]) (by simp) (by simp [go_sem]) ?_
   refine (kg w.heap.size R _ P X [] _ _ _ _ _ (by simp) (((jI w _).block R hlt).trans HH.out)).mono ?_
   rintro e u' w'' ⟨rfl,rfl,hr2,hg2⟩
   obtain ⟨Z1,Z2⟩:=RdS.noted HO.out HK.out hl hp hn (jI w _) hr2 hg2 HH.out
   exact ⟨_,results_tmp rfl _ _ _,rfl,Z1,Z2⟩
  ·go_simp
   refine hK _ _ ?_
   clear hK K
   refine rA [0,3] ?_
   refine AllReady.cons rfl (fun K hK=>?_) (AllReady.cons rfl (fun K hK=>?_) AllReady.nil)
   ·go_simp
    refine hK _ _ ?_
    clear hK K
    refine rA [3] ?_
    refine oR (fun K hK=>?_)
    go_simp
    refine hK _ _ ?_
    clear hK K
    refine rA [4] ?_
    refine oR (fun K hK=>?_)
    go_simp
    refine hK _ _ ?_
    clear hK K
    refine rA [5] ?_
    refine oR (fun K hK=>?_)
    go_simp
    refine (HU.out _ (by exact jI w _)).mono ?_
    rintro e w1 ⟨rfl,rfl⟩
    refine leaves_cons (f:=95) (args:=#[.pointer (some ⟨w.heap.size,0,none⟩)]) (by simp) (by simp [go_sem]) ?_
    refine (kg w.heap.size R _ P X [] _ _ _ _ _ (by simp) (((jI w _).block R hlt).trans HH.out)).mono ?_
    rintro e u' w'' ⟨rfl,rfl,hr2,hg2⟩
    obtain ⟨Z1,Z2⟩:=RdS.noted HO.out HK.out hl hp hn (jI w _) hr2 hg2 HH.out
    exact ⟨_,results_tmp rfl _ _ _,rfl,Z1,Z2⟩
   ·go_simp
    refine hK _ _ ?_
    clear hK K
    refine rA [0,4] ?_
    refine AllReady.cons rfl (fun K hK=>?_) (AllReady.cons rfl (fun K hK=>?_) AllReady.nil)
    ·go_simp
     refine hK _ _ ?_
     clear hK K
     refine rA [4] ?_
     refine oR (fun K hK=>?_)
     go_simp
     refine hK _ _ ?_
     clear hK K
     refine rA [5] ?_
     refine oR (fun K hK=>?_)
     go_simp
     refine (HU.out _ (by exact jI w _)).mono ?_
     rintro e w1 ⟨rfl,rfl⟩
     refine leaves_cons (f:=95) (args:=#[.pointer (some ⟨w.heap.size,0,none⟩)]) (by simp) (by simp [go_sem]) ?_
     refine (kg w.heap.size R _ P X [] _ _ _ _ _ (by simp) (((jI w _).block R hlt).trans HH.out)).mono ?_
     rintro e u' w'' ⟨rfl,rfl,hr2,hg2⟩
     obtain ⟨Z1,Z2⟩:=RdS.noted HO.out HK.out hl hp hn (jI w _) hr2 hg2 HH.out
     exact ⟨_,results_tmp rfl _ _ _,rfl,Z1,Z2⟩
    ·go_simp
     refine hK _ _ ?_
     clear hK K
     refine rA [0] ?_
     refine oR (fun K hK=>?_)
     go_simp
     refine hK _ _ ?_
     clear hK K
     refine rA [5] ?_
     refine oR (fun K hK=>?_)
     go_simp
     refine (HU.out _ (by exact jI w _)).mono ?_
     rintro e w1 ⟨rfl,rfl⟩
     refine leaves_cons (f:=95) (args:=#[.pointer (some ⟨w.heap.size,0,none⟩)]) (by simp) (by simp [go_sem]) ?_
     refine (kg w.heap.size R _ P X [] _ _ _ _ _ (by simp) (((jI w _).block R hlt).trans HH.out)).mono ?_
     rintro e u' w'' ⟨rfl,rfl,hr2,hg2⟩
     obtain ⟨Z1,Z2⟩:=RdS.noted HO.out HK.out hl hp hn (jI w _) hr2 hg2 HH.out
     exact ⟨_,results_tmp rfl _ _ _,rfl,Z1,Z2⟩
theorem uH (lo R most:Nat) (l:List Int) (p:Nat) (fa:Int) (n k:Nat) (w:World) (hr:RdS w lo R l ⟨p,fa,0⟩) (hpk:p+k≤l.length)
  (hU:∀ (w':World),Below w.heap.size w w'→Calls Tryz.prog 96 #[.pointer (some ⟨R,0,none⟩),.int .i64 p] w' fun x w''=>x=.returned (.tuple #[.int .u64 n,.int .i64 ((p+k:Nat):Int)])∧w''=w'):
  Calls Tryz.prog 63 #[.pointer (some ⟨R,0,none⟩),.int .u64 most] w fun e w'=>e=.returned (.int .u64 ((if n≤most then n else 0:Nat):Int))∧RdS w' lo R l (if n≤most then ⟨p+k,fa,0⟩ else ⟨p,p,12⟩)∧w.grownBy w' (some R):=by
 obtain ⟨v,hh,ho,hk,hl,hp,hn⟩:=hr
 obtain ⟨ao,cap,hv,hcap,hat⟩:=fO ho
 subst hv
 simp only at hh hp
 obtain ⟨h0,h1,h2,h3,h4,hfz⟩:=qN hh
 have hlt:R<w.heap.size:=(gS hh)
 have HH:Hid (w.heap[R]?=some (.cells #[.slice ao l.length cap,.int .i64 p,.int .i64 fa,.string ⟨#[]⟩,.int .i64 0] 158 (0,0))):=hh
 have HO:Hid (Owns w lo (.slice ao l.length cap) l):=ho
 have HK:Hid (∀ k,(Value.slice ao l.length cap).ownBlock=some k→k<R):=hk
 have HU:Hid (∀ (w':World),Below w.heap.size w w'→Calls Tryz.prog 96 #[.pointer (some ⟨R,0,none⟩),.int .i64 p] w' fun x w''=>x=.returned (.tuple #[.int .u64 n,.int .i64 ((p:Int)+k)])∧w''=w'):=hU
 clear hU hh ho hk h2 h3 hat
 have hmf':=hmf
 have hc1:∀ (o:Obj),(w.alloc o).cell? ⟨R,1,none⟩=some (.int .i64 p):=fun o=>by rw [World.cell?_alloc_past _ _ _ hlt];exact h1
 by_cases hm:n≤most
 ·rw [if_pos hm,if_pos hm]
  go_enter_defers Tryz.func63,Tryz.ntmps63
  go_wp2_with (go_at_call 93;refine (jh R 0 _ (by simp [World.cell?_alloc_past _ _ _ hlt,h4])).mono ?_;rintro e w1 ⟨rfl,rfl⟩)
  go_quiet ((go_at_call 96;exact Calls.quiet_of_same (HU.out _ (by exact jS w _ _))))
  go_wp2
  refine leaves_cons (f:=95) (args:=#[.pointer (some ⟨w.heap.size,0,none⟩)]) (by simp) (by simp [go_sem]) ?_
  obtain ⟨Z1,Z2,Z3⟩:=RdS.moved HH.out HO.out HK.out hl hn (Obj.cells #[Value.pointer (some { block:=R,off:=0 })] 76) nq ((p:Int)+k) (p+k) (by simp) hpk
  refine (bF w.heap.size R _ (Z3.trans (by simp))).mono ?_
  rintro e u' w'' ⟨rfl,rfl,rfl⟩
  exact ⟨_,results_tmp rfl _ _ _,rfl,Z1,Z2⟩
 ·rw [if_neg hm,if_neg hm]
  go_enter_defers Tryz.func63,Tryz.ntmps63
  go_wp2_with (go_at_call 93;refine (jh R 0 _ (by simp [World.cell?_alloc_past _ _ _ hlt,h4])).mono ?_;rintro e w1 ⟨rfl,rfl⟩)
  go_quiet ((go_at_call 96;exact Calls.quiet_of_same (HU.out _ (by exact jS w _ _))))
  go_wp2_with (go_at_call 97;refine (kJ _ _ _).mono ?_;rintro e w1 ⟨rfl,rfl⟩)
  refine leaves_cons (f:=95) (args:=#[.pointer (some ⟨w.heap.size,0,none⟩)]) (by simp) (by simp [go_sem]) ?_
  refine (kg w.heap.size R _ p 12 [] _ _ _ _ _ (by simp) (((jS w _ _).block R hlt).trans HH.out)).mono ?_
  rintro e u' w'' ⟨rfl,rfl,hr2,hg2⟩
  obtain ⟨Z1,Z2⟩:=RdS.noted HO.out HK.out hl hp hn (jS w _ _) hr2 hg2 HH.out
  exact ⟨_,results_tmp rfl _ _ _,rfl,Z1,Z2⟩
theorem mu (lo R most:Nat) (l:List Int) (s:St) (w:World) (hr:RdS w lo R l s) (hB:Bytes l):
  Calls Tryz.prog 63 #[.pointer (some ⟨R,0,none⟩),.int .u64 most] w fun e w'=>e=.returned (.int .u64 (uintS l s most).1)∧RdS w' lo R l (uintS l s most).2∧w.grownBy w' (some R):=by
 obtain ⟨p,fa,fe⟩:=s
 by_cases hf:fe=0
 ·subst hf
  have hp:p≤l.length:=by obtain ⟨_,_,_,_,_,hp,_⟩:=hr;exact hp
  have hU:=iD hr hB
  cases hrd:rd 0 (l.drop p) with
  | ok n k=>
   rw [hrd] at hU
   have hk:=(wJ _ _ _ _ hrd).2
   refine (uH lo R most l p fa n k w hr (by simp at hk;omega) hU).mono ?_
   rintro e w' ⟨rfl,h1,h2⟩
   by_cases hm:n≤most
   ·rw [if_pos hm] at h1
    refine ⟨by simp [uintS,hrd,hm],by simpa [uintS,hrd,hm] using h1,h2⟩
   ·rw [if_neg hm] at h1
    refine ⟨by simp [uintS,hrd,hm],by simpa [uintS,hrd,hm] using h1,h2⟩
  | form i=>
   rw [hrd] at hU
   refine (mt lo R most l p fa _ _ w hr hU).mono ?_
   rintro e w' ⟨rfl,h1,h2⟩
   exact ⟨by simp [uintS,hrd],by simpa [uintS,hrd] using h1,h2⟩
  | short=>
   rw [hrd] at hU
   refine (mt lo R most l p fa _ _ w hr hU).mono ?_
   rintro e w' ⟨rfl,h1,h2⟩
   exact ⟨by simp [uintS,hrd],by simpa [uintS,hrd] using h1,h2⟩
 ·refine (oG lo R most l _ w hr hf).mono ?_
  rintro e w' ⟨rfl,h1,h2⟩
  exact ⟨by simp [uintS,hf],by simpa [uintS,hf] using h1,h2⟩
def mkStr (l:List Int):ByteArray:=⟨(l.map fun c=>UInt8.ofNat c.toNat).toArray⟩
theorem yq:mkStr []=⟨#[]⟩:=by simp [mkStr]
theorem fM {w:World} {v:Value} {l:List Int} (h:Has w v l) (hB:Bytes l):(convert 35 9 v).run Tryz.prog w=.ok (.string (mkStr l)) w:=by
 rcases h with ⟨rfl,rfl⟩ | ⟨a,cap,rfl,hc,hcell⟩
 ·rw [yq]
  exact Go.run_convert_bytes_string w 35 9 5 none 0 0 Tryz.underlying35 Tryz.underlying5 Tryz.underlying9
 ·have:=run_convert_bytes_back (P:=Tryz.prog) w 35 9 5 a cap (l.map fun c=>UInt8.ofNat c.toNat) Tryz.underlying35 Tryz.underlying5 Tryz.underlying9 (fun j hj=>by
   simp only [List.length_map] at hj
   rw [hcell j hj]
   have hb:=hB.at hj
   rw [gl hj] at hb
   simp only [Option.getD_some] at hb
   simp only [List.getElem_map,List.getD,gl hj,Option.getD_some]
   have e:(UInt8.ofNat (l[j]).toNat).toNat=(l[j]).toNat:=by
    rw [UInt8.toNat_ofNat'];omega
   rw [e]
   congr 2;omega)
  simpa [mkStr] using this
theorem sI {w:World} {lo R:Nat} {l:List Int} {v:Value} (ho:Owns w lo v l) (hk:∀ k,v.ownBlock=some k→k<R) (o:Obj) (n:Nat) (x:Value):Has (((w.alloc o).drewN n).setCell ⟨R,1,none⟩ x) v l:=by
 have h1:=ho.below (jS w o n) (Nat.le_refl _)
 exact (h1.block fun k e=>Below.heap_setCell _ ⟨R,1,none⟩ x k (by have:=hk k e;simp;omega)).has
def textS (l:List Int) (s:St) (most:Int):List Int × St:=
 if s.fe≠0 then ([],s) else match rd 0 (l.drop s.p) with
 | .ok n k=>if most<n then ([],⟨s.p,s.p,12⟩) else if l.length<s.p+k+n then ([],⟨s.p,l.length,10⟩) else ((l.drop (s.p+k)).take n,⟨s.p+k+n,s.fa,s.fe⟩)
 | .form i=>([],⟨s.p,(s.p+i:Nat),11⟩)
 | .short=>([],⟨s.p,l.length,10⟩)
theorem oF (lo R:Nat) (most:Int) (l:List Int) (s:St) (w:World) (hr:RdS w lo R l s) (hf:s.fe≠0):
  Calls Tryz.prog 135 #[.pointer (some ⟨R,0,none⟩),.int .i64 most] w fun e w'=>e=.returned (.string ⟨#[]⟩)∧RdS w' lo R l s∧w.grownBy w' (some R):=by
 have HR:Hid (RdS w lo R l s):=hr
 obtain ⟨v,hh,ho,hk,hl,hp,hn⟩:=hr
 obtain ⟨h0,h1,h2,h3,h4,hfz⟩:=qN hh
 have hlt:R<w.heap.size:=(gS hh)
 have hfb:(s.fe !=0)=true:=by simpa using hf
 clear hh ho hk h0 h1 h2 h3 hfz
 have hmf':=hmf
 go_enter_defers Tryz.func135,Tryz.ntmps135
 go_wp2_with (go_at_call 93;refine (jh R s.fe _ (by simp [World.cell?_alloc_past _ _ _ hlt,h4])).mono ?_;rintro e w1 ⟨rfl,rfl⟩)
 refine leaves_cons (f:=166) (args:=#[.pointer (some ⟨w.heap.size,0,none⟩)]) (by simp) (by simp [go_sem]) ?_
 refine (bG w.heap.size R _ (by simp)).mono ?_
 rintro e u' w'' ⟨rfl,rfl,rfl⟩
 exact ⟨_,results_tmp rfl _ _ _,rfl,HR.out.grown (jI _ _),qK _ (jI _ _)⟩
theorem ms (lo R:Nat) (most:Int) (l:List Int) (p:Nat) (fa P X:Int) (w:World) (hr:RdS w lo R l ⟨p,fa,0⟩)
  (hU:∀ (w':World),Below w.heap.size w w'→Calls Tryz.prog 96 #[.pointer (some ⟨R,0,none⟩),.int .i64 p] w' fun x w''=>x=.panicked [{ v:=flt P X,recovered:=false }]∧w''=w'):
  Calls Tryz.prog 135 #[.pointer (some ⟨R,0,none⟩),.int .i64 most] w fun e w'=>e=.returned (.string ⟨#[]⟩)∧RdS w' lo R l ⟨p,P,X⟩∧w.grownBy w' (some R):=by
 obtain ⟨v,hh,ho,hk,hl,hp,hn⟩:=hr
 obtain ⟨ao,cap,hv,hcap,hat⟩:=fO ho
 subst hv
 simp only at hh hp
 obtain ⟨h0,h1,h2,h3,h4,hfz⟩:=qN hh
 have hlt:R<w.heap.size:=(gS hh)
 have HH:Hid (w.heap[R]?=some (.cells #[.slice ao l.length cap,.int .i64 p,.int .i64 fa,.string ⟨#[]⟩,.int .i64 0] 158 (0,0))):=hh
 have HO:Hid (Owns w lo (.slice ao l.length cap) l):=ho
 have HK:Hid (∀ k,(Value.slice ao l.length cap).ownBlock=some k→k<R):=hk
 have HU:Hid (∀ (w':World),Below w.heap.size w w'→Calls Tryz.prog 96 #[.pointer (some ⟨R,0,none⟩),.int .i64 p] w' fun x w''=>x=.panicked [{ v:=flt P X,recovered:=false }]∧w''=w'):=hU
 clear hU hh ho hk h2 h3 hat
 have hmf':=hmf
 have hc1:∀ (o:Obj),(w.alloc o).cell? ⟨R,1,none⟩=some (.int .i64 p):=fun o=>by rw [World.cell?_alloc_past _ _ _ hlt];exact h1
 go_enter_defers Tryz.func135,Tryz.ntmps135
 go_wp2_with (go_at_call 93;refine (jh R 0 _ (by simp [World.cell?_alloc_past _ _ _ hlt,h4])).mono ?_;rintro e w1 ⟨rfl,rfl⟩)
 refine wp_region_any (by kernel_rfl) ?_
 change wpAny _ _ _ _ _ _ _ (World.drew _)
 refine rA [0,1] ?_
 refine AllReady.cons rfl (fun K hK=>?_) (AllReady.cons rfl (fun K hK=>?_) AllReady.nil)
 ·go_simp
  refine hK _ _ ?_
  clear hK K
  refine rA [1] ?_
  refine oR (fun K hK=>?_)
  go_simp
  refine hK _ _ ?_
  clear hK K
  refine rA [2] ?_
  refine oR (fun K hK=>?_)
  go_simp
  refine hK _ _ ?_
  clear hK K
  refine rA [3] ?_
  refine oR (fun K hK=>?_)
  go_simp
  refine hK _ _ ?_
  clear hK K
  refine rA [4] ?_
  refine oR (fun K hK=>?_)
  go_simp
  refine hK _ _ ?_
  clear hK K
  refine rA [5] ?_
  refine oR (fun K hK=>?_)
  go_simp
  refine (HU.out _ (by exact jI w _)).mono ?_
  rintro e w1 ⟨rfl,rfl⟩
  refine leaves_cons (f:=166) (args:=#[.pointer (some ⟨w.heap.size,0,none⟩)]) (by simp) (by simp [go_sem]) ?_
  refine (kH w.heap.size R _ P X [] _ _ _ _ _ (by simp) (((jI w _).block R hlt).trans HH.out)).mono ?_
  rintro e u' w'' ⟨rfl,rfl,hr2,hg2⟩
  obtain ⟨Z1,Z2⟩:=RdS.noted HO.out HK.out hl hp hn (jI w _) hr2 hg2 HH.out
  exact ⟨_,results_tmp rfl _ _ _,rfl,Z1,Z2⟩
 ·go_simp
  refine hK _ _ ?_
  clear hK K
  refine rA [0,2] ?_
  refine AllReady.cons rfl (fun K hK=>?_) (AllReady.cons rfl (fun K hK=>?_) AllReady.nil)
  ·go_simp
   refine hK _ _ ?_
   clear hK K
   refine rA [2] ?_
   refine oR (fun K hK=>?_)
   go_simp
   refine hK _ _ ?_
   clear hK K
   refine rA [3] ?_
   refine oR (fun K hK=>?_)
   go_simp
   refine hK _ _ ?_
   clear hK K
   refine rA [4] ?_
   refine oR (fun K hK=>?_)
   go_simp
   refine hK _ _ ?_
   clear hK K
   refine rA [5] ?_
   refine oR (fun K hK=>?_)
   go_simp
   refine (HU.out _ (by exact jI w _)).mono ?_
   rintro e w1 ⟨rfl,rfl⟩
   refine leaves_cons (f:=166) (args:=#[.pointer (some ⟨w.heap.size,0,none⟩)]) (by simp) (by simp [go_sem]) ?_
   refine (kH w.heap.size R _ P X [] _ _ _ _ _ (by simp) (((jI w _).block R hlt).trans HH.out)).mono ?_
   rintro e u' w'' ⟨rfl,rfl,hr2,hg2⟩
   obtain ⟨Z1,Z2⟩:=RdS.noted HO.out HK.out hl hp hn (jI w _) hr2 hg2 HH.out
   exact ⟨_,results_tmp rfl _ _ _,rfl,Z1,Z2⟩
  ·go_simp
   refine hK _ _ ?_
   clear hK K
   refine rA [0,3] ?_
   refine AllReady.cons rfl (fun K hK=>?_) (AllReady.cons rfl (fun K hK=>?_) AllReady.nil)
   ·go_simp
    refine hK _ _ ?_
    clear hK K
    refine rA [3] ?_
    refine oR (fun K hK=>?_)
    go_simp
    refine hK _ _ ?_
    clear hK K
    refine rA [4] ?_
    refine oR (fun K hK=>?_)
    go_simp
    refine hK _ _ ?_
    clear hK K
    refine rA [5] ?_
    refine oR (fun K hK=>?_)
    go_simp
    refine (HU.out _ (by exact jI w _)).mono ?_
    rintro e w1 ⟨rfl,rfl⟩
    refine leaves_cons (f:=166) (args:=#[.pointer (some ⟨w.heap.size,0,none⟩)]) (by simp) (by simp [go_sem]) ?_
    refine (kH w.heap.size R _ P X [] _ _ _ _ _ (by simp) (((jI w _).block R hlt).trans HH.out)).mono ?_
    rintro e u' w'' ⟨rfl,rfl,hr2,hg2⟩
    obtain ⟨Z1,Z2⟩:=RdS.noted HO.out HK.out hl hp hn (jI w _) hr2 hg2 HH.out
    exact ⟨_,results_tmp rfl _ _ _,rfl,Z1,Z2⟩
   ·go_simp
    refine hK _ _ ?_
    clear hK K
    refine rA [0,4] ?_
    refine AllReady.cons rfl (fun K hK=>?_) (AllReady.cons rfl (fun K hK=>?_) AllReady.nil)
    ·go_simp
     refine hK _ _ ?_
     clear hK K
     refine rA [4] ?_
     refine oR (fun K hK=>?_)
     go_simp
     refine hK _ _ ?_
     clear hK K
     refine rA [5] ?_
     refine oR (fun K hK=>?_)
     go_simp
     refine (HU.out _ (by exact jI w _)).mono ?_
     rintro e w1 ⟨rfl,rfl⟩
     refine leaves_cons (f:=166) (args:=#[.pointer (some ⟨w.heap.size,0,none⟩)]) (by simp) (by simp [go_sem]) ?_
     refine (kH w.heap.size R _ P X [] _ _ _ _ _ (by simp) (((jI w _).block R hlt).trans HH.out)).mono ?_
     rintro e u' w'' ⟨rfl,rfl,hr2,hg2⟩
     obtain ⟨Z1,Z2⟩:=RdS.noted HO.out HK.out hl hp hn (jI w _) hr2 hg2 HH.out
     exact ⟨_,results_tmp rfl _ _ _,rfl,Z1,Z2⟩
    ·go_simp
     refine hK _ _ ?_
     clear hK K
     refine rA [0] ?_
     refine oR (fun K hK=>?_)
     go_simp
     refine hK _ _ ?_
     clear hK K
     refine rA [5] ?_
     refine oR (fun K hK=>?_)
     go_simp
     refine (HU.out _ (by exact jI w _)).mono ?_
     rintro e w1 ⟨rfl,rfl⟩
     refine leaves_cons (f:=166) (args:=#[.pointer (some ⟨w.heap.size,0,none⟩)]) (by simp) (by simp [go_sem]) ?_
     refine (kH w.heap.size R _ P X [] _ _ _ _ _ (by simp) (((jI w _).block R hlt).trans HH.out)).mono ?_
     rintro e u' w'' ⟨rfl,rfl,hr2,hg2⟩
     obtain ⟨Z1,Z2⟩:=RdS.noted HO.out HK.out hl hp hn (jI w _) hr2 hg2 HH.out
     exact ⟨_,results_tmp rfl _ _ _,rfl,Z1,Z2⟩
theorem sJ (lo R:Nat) (most:Int) (l:List Int) (p:Nat) (fa:Int) (n k:Nat) (w:World) (hr:RdS w lo R l ⟨p,fa,0⟩) (hm:most<n) (_hn64:n<18446744073709551616) (hm63:-9223372036854775808≤most∧most≤9223372036854775807)
  (hU:∀ (w':World),Below w.heap.size w w'→Calls Tryz.prog 96 #[.pointer (some ⟨R,0,none⟩),.int .i64 p] w' fun x w''=>x=.returned (.tuple #[.int .u64 n,.int .i64 ((p+k:Nat):Int)])∧w''=w'):
  Calls Tryz.prog 135 #[.pointer (some ⟨R,0,none⟩),.int .i64 most] w fun e w'=>e=.returned (.string ⟨#[]⟩)∧RdS w' lo R l ⟨p,p,12⟩∧w.grownBy w' (some R):=by
 obtain ⟨v,hh,ho,hk,hl,hp,hn⟩:=hr
 obtain ⟨ao,cap,hv,hcap,hat⟩:=fO ho
 subst hv
 simp only at hh hp
 obtain ⟨h0,h1,h2,h3,h4,hfz⟩:=qN hh
 have hlt:R<w.heap.size:=(gS hh)
 have HH:Hid (w.heap[R]?=some (.cells #[.slice ao l.length cap,.int .i64 p,.int .i64 fa,.string ⟨#[]⟩,.int .i64 0] 158 (0,0))):=hh
 have HO:Hid (Owns w lo (.slice ao l.length cap) l):=ho
 have HK:Hid (∀ k,(Value.slice ao l.length cap).ownBlock=some k→k<R):=hk
 have HU:Hid (∀ (w':World),Below w.heap.size w w'→Calls Tryz.prog 96 #[.pointer (some ⟨R,0,none⟩),.int .i64 p] w' fun x w''=>x=.returned (.tuple #[.int .u64 n,.int .i64 ((p:Int)+k)])∧w''=w'):=hU
 clear hU hh ho hk h2 h3 hat
 have hmf':=hmf
 have hc1:∀ (o:Obj),(w.alloc o).cell? ⟨R,1,none⟩=some (.int .i64 p):=fun o=>by rw [World.cell?_alloc_past _ _ _ hlt];exact h1
 by_cases h0m:most<0
 all_goals
  go_enter_defers Tryz.func135,Tryz.ntmps135
  go_wp2_with (go_at_call 93;refine (jh R 0 _ (by simp [World.cell?_alloc_past _ _ _ hlt,h4])).mono ?_;rintro e w1 ⟨rfl,rfl⟩)
  go_quiet ((go_at_call 96;exact Calls.quiet_of_same (HU.out _ (by exact jS w _ _))))
  go_wp2_with (go_at_call 97;refine (kJ _ _ _).mono ?_;rintro e w1 ⟨rfl,rfl⟩)
  refine leaves_cons (f:=166) (args:=#[.pointer (some ⟨w.heap.size,0,none⟩)]) (by simp) (by simp [go_sem]) ?_
  refine (kH w.heap.size R _ p 12 [] _ _ _ _ _ (by simp) (((jS w _ _).block R hlt).trans HH.out)).mono ?_
  rintro e u' w'' ⟨rfl,rfl,hr2,hg2⟩
  obtain ⟨Z1,Z2⟩:=RdS.noted HO.out HK.out hl hp hn (jS w _ _) hr2 hg2 HH.out
  exact ⟨_,results_tmp rfl _ _ _,rfl,Z1,Z2⟩
theorem uG (lo R:Nat) (most:Int) (l:List Int) (p:Nat) (fa:Int) (n k:Nat) (w:World) (hr:RdS w lo R l ⟨p,fa,0⟩) (hB:Bytes l) (hpk:p+k≤l.length) (hm:n≤most) (hm63:most≤9223372036854775807)
  (hU:∀ (w':World),Below w.heap.size w w'→Calls Tryz.prog 96 #[.pointer (some ⟨R,0,none⟩),.int .i64 p] w' fun x w''=>x=.returned (.tuple #[.int .u64 n,.int .i64 ((p+k:Nat):Int)])∧w''=w'):
  Calls Tryz.prog 135 #[.pointer (some ⟨R,0,none⟩),.int .i64 most] w fun e w'=>e=.returned (.string (if l.length<p+k+n then ⟨#[]⟩ else mkStr ((l.drop (p+k)).take n)))∧RdS w' lo R l (if l.length<p+k+n then ⟨p,l.length,10⟩ else ⟨p+k+n,fa,0⟩)∧w.grownBy w' (some R):=by
 obtain ⟨v,hh,ho,hk,hl,hp,hn⟩:=hr
 obtain ⟨ao,cap,hv,hcap,hat⟩:=fO ho
 subst hv
 simp only at hh hp
 obtain ⟨h0,h1,h2,h3,h4,hfz⟩:=qN hh
 have hlt:R<w.heap.size:=(gS hh)
 have HH:Hid (w.heap[R]?=some (.cells #[.slice ao l.length cap,.int .i64 p,.int .i64 fa,.string ⟨#[]⟩,.int .i64 0] 158 (0,0))):=hh
 have HO:Hid (Owns w lo (.slice ao l.length cap) l):=ho
 have HK:Hid (∀ k,(Value.slice ao l.length cap).ownBlock=some k→k<R):=hk
 have HU:Hid (∀ (w':World),Below w.heap.size w w'→Calls Tryz.prog 96 #[.pointer (some ⟨R,0,none⟩),.int .i64 p] w' fun x w''=>x=.returned (.tuple #[.int .u64 n,.int .i64 ((p:Int)+k)])∧w''=w'):=hU
 clear hU hh ho hk h2 h3 hat
 have hmf':=hmf
 have hc1:∀ (o:Obj),(w.alloc o).cell? ⟨R,1,none⟩=some (.int .i64 p):=fun o=>by rw [World.cell?_alloc_past _ _ _ hlt];exact h1
 have hc0:∀ (w':World),Below w.heap.size w w'→w'.cell? ⟨R,0,none⟩=some (.slice ao l.length cap):=fun w' hb=>(hb.cell hlt).trans h0
 have HC0:Hid (∀ (w':World),Below w.heap.size w w'→w'.cell? ⟨R,0,none⟩=some (.slice ao l.length cap)):=hc0
 clear hc0
 by_cases hlen:l.length<p+k+n
 ·rw [if_pos hlen,if_pos hlen]
  go_enter_defers Tryz.func135,Tryz.ntmps135
  go_wp2_with (go_at_call 93;refine (jh R 0 _ (by simp [World.cell?_alloc_past _ _ _ hlt,h4])).mono ?_;rintro e w1 ⟨rfl,rfl⟩)
  go_quiet ((go_at_call 96;exact Calls.quiet_of_same (HU.out _ (by exact jS w _ _))))
  go_wp2_with fail
  rw [show ((p:Int)+k)=((p+k:Nat):Int) from by simp]
  refine (mi R (p+k) n ao l.length cap _ (HC0.out _ (jS _ _ _)) hn hpk (by omega) (by omega)).mono ?_
  rintro e w1 ⟨rfl,rfl⟩
  refine leaves_cons (f:=166) (args:=#[.pointer (some ⟨w.heap.size,0,none⟩)]) (by simp) (by simp [go_sem]) ?_
  refine (kH w.heap.size R _ l.length 10 [] _ _ _ _ _ (by simp) (((jS w _ _).block R hlt).trans HH.out)).mono ?_
  rintro e u' w'' ⟨rfl,rfl,hr2,hg2⟩
  obtain ⟨Z1,Z2⟩:=RdS.noted HO.out HK.out hl hp hn (jS w _ _) hr2 hg2 HH.out
  exact ⟨_,results_tmp rfl _ _ _,rfl,Z1,Z2⟩
 ·rw [if_neg hlen,if_neg hlen]
  go_enter_defers Tryz.func135,Tryz.ntmps135
  go_wp2_with (go_at_call 93;refine (jh R 0 _ (by simp [World.cell?_alloc_past _ _ _ hlt,h4])).mono ?_;rintro e w1 ⟨rfl,rfl⟩)
  go_quiet ((go_at_call 96;exact Calls.quiet_of_same (HU.out _ (by exact jS w _ _))))
  go_wp2_with fail
  have hpk2:p+k+n≤l.length:=by omega
  rw [show ((p:Int)+k)=((p+k:Nat):Int) from by simp]
  refine (rz R (p+k) n ao cap l _ (HC0.out _ (jS _ _ _)) hn hcap hpk2).mono ?_
  rintro e w1 ⟨ao',cp',rfl,rfl,hpart⟩
  have hconv:∀ x:Value,(convert 35 9 (.slice ao' n cp')).run Tryz.prog (((w.alloc (Obj.cells #[Value.pointer (some { block:=R,off:=0 })] 76)).drewN nq).setCell ⟨R,1,none⟩ x)=.ok (.string (mkStr ((l.drop (p+k)).take n))) (((w.alloc (Obj.cells #[Value.pointer (some { block:=R,off:=0 })] 76)).drewN nq).setCell ⟨R,1,none⟩ x):=fun x=>
   fM (hpart _ (sI HO.out HK.out _ _ _)) ((hB.drop _).take _)
  clear hpart
  go_wp2
  refine leaves_cons (f:=166) (args:=#[.pointer (some ⟨w.heap.size,0,none⟩)]) (by simp) (by simp [go_sem]) ?_
  obtain ⟨Z1,Z2,Z3⟩:=RdS.moved HH.out HO.out HK.out hl hn (Obj.cells #[Value.pointer (some { block:=R,off:=0 })] 76) nq ((p:Int)+k+n) (p+k+n) (by simp) hpk2
  refine (bG w.heap.size R _ (Z3.trans (by simp))).mono ?_
  rintro e u' w'' ⟨rfl,rfl,rfl⟩
  exact ⟨_,results_tmp rfl _ _ _,rfl,Z1,Z2⟩
theorem lW (lo R:Nat) (most:Int) (l:List Int) (s:St) (w:World) (hr:RdS w lo R l s) (hB:Bytes l) (hm63:-9223372036854775808≤most∧most≤9223372036854775807):
  Calls Tryz.prog 135 #[.pointer (some ⟨R,0,none⟩),.int .i64 most] w fun e w'=>e=.returned (.string (mkStr (textS l s most).1))∧RdS w' lo R l (textS l s most).2∧w.grownBy w' (some R):=by
 obtain ⟨p,fa,fe⟩:=s
 by_cases hf:fe=0
 ·subst hf
  have hp:p≤l.length:=by obtain ⟨_,_,_,_,_,hp,_⟩:=hr;exact hp
  have hU:=iD hr hB
  cases hrd:rd 0 (l.drop p) with
  | ok n k=>
   rw [hrd] at hU
   have hk:=(wJ _ _ _ _ hrd).2
   simp only [List.length_drop] at hk
   by_cases hm:most<n
   ·refine (sJ lo R most l p fa n k w hr hm (wK hrd) hm63 hU).mono ?_
    rintro e w' ⟨rfl,h1,h2⟩
    exact ⟨by simp [textS,hrd,hm,yq],by simpa [textS,hrd,hm] using h1,h2⟩
   ·refine (uG lo R most l p fa n k w hr hB (by omega) (by omega) hm63.2 hU).mono ?_
    rintro e w' ⟨rfl,h1,h2⟩
    by_cases hlen:l.length<p+k+n
    ·rw [if_pos hlen] at h1
     exact ⟨by simp [textS,hrd,hm,hlen,yq],by simpa [textS,hrd,hm,hlen] using h1,h2⟩
    ·rw [if_neg hlen] at h1
     exact ⟨by simp [textS,hrd,hm,hlen],by simpa [textS,hrd,hm,hlen] using h1,h2⟩
  | form i=>
   rw [hrd] at hU
   refine (ms lo R most l p fa _ _ w hr hU).mono ?_
   rintro e w' ⟨rfl,h1,h2⟩
   exact ⟨by simp [textS,hrd,yq],by simpa [textS,hrd] using h1,h2⟩
  | short=>
   rw [hrd] at hU
   refine (ms lo R most l p fa _ _ w hr hU).mono ?_
   rintro e w' ⟨rfl,h1,h2⟩
   exact ⟨by simp [textS,hrd,yq],by simpa [textS,hrd] using h1,h2⟩
 ·refine (oF lo R most l _ w hr hf).mono ?_
  rintro e w' ⟨rfl,h1,h2⟩
  exact ⟨by simp [textS,hf,yq],by simpa [textS,hf] using h1,h2⟩
end Go.Proofs.YtjikkhbcbfpocaaGreatDoor.Wi
