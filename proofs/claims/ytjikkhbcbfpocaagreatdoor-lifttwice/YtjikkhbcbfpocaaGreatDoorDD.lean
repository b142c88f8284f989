import Derived.Stop.Asserts
import Derived.RowKitTokens
import Derived.Test.YtjikkhbcbfpocaaGreatDoorDC
set_option maxRecDepth 100000
set_option maxHeartbeats 4000000
namespace Go.Proofs.YtjikkhbcbfpocaaGreatDoor
open Go.RowKit Go.Extern.Stop Go.Stop Go.Extern
theorem wh (t:Value) (w:World):
  Calls Tryz.prog 98 #[.nilIface,t] w fun e w'=>e=.returned (.bool false)∧w'=w:=by
 go_enter Tryz.func98,Tryz.ntmps98
 go_wp2
 go_ret
 exact ⟨rfl,rfl⟩
theorem Ras.valueOf27 (t:Addr) (w:World):(ReflectliteValue.unpack (.iface 165 (.pointer (some t)))).run Tryz.prog w
  = .ok (.agg #[.pointer (some ⟨5,165,none⟩),.pointer (some ⟨w.heap.size,0,none⟩),.int .u64 150]) (w.alloc (.cells #[.pointer (some t)] 165)):=by kernel_rfl
theorem Ras.type27 (a : Addr) (w : World) : (ReflectliteValue.methodAny (ReflectliteValue.valueError "reflectlite.Value.Type" 0) (fun t _ _ _ => ReflectliteType.toType t) #[.agg #[.pointer (some ⟨5, 165, none⟩), .pointer (some a), .int .u64 150]]).run Tryz.prog w
  = .ok (.iface 248 (.agg #[.pointer (some ⟨5,165,none⟩)])) w:=by kernel_rfl
theorem Ras.methodKind (h : Value) (w : World) : (Go.method 407 248 (.agg #[h]) "Kind").run Tryz.prog w = .ok (213, h) w := by kernel_rfl
theorem Ras.kind27 (w:World):((ReflectliteType.abiMethod fun t=>(fun a:Nat=>Value.int IntKind.u8 (a:Int)) <$> Rtype.kind t) #[.pointer (some ⟨5,165,none⟩)]).run Tryz.prog w=.ok (.int .u8 22) w:=by kernel_rfl
theorem Ras.kind25 (w:World):((ReflectliteType.abiMethod fun t=>(fun a:Nat=>Value.int IntKind.u8 (a:Int)) <$> Rtype.kind t) #[.pointer (some ⟨5,72,none⟩)]).run Tryz.prog w=.ok (.int .u8 22) w:=by kernel_rfl
theorem rlm (z:Sem Value) (f:TypeId→Addr→Nat→Nat→Sem Value) (v:Value):
  ReflectliteValue.method z f #[v]=(do match ← ReflectliteValue.parts v with | none=>z | some (t,a,fl)=>f t a fl (fl%32)):=rfl
theorem Ras.parts27 (a:Addr) (w:World):(ReflectliteValue.parts (.agg #[.pointer (some ⟨5,165,none⟩),.pointer (some a),.int .u64 150])).run Tryz.prog w=.ok (some (165,a,150)) w:=by kernel_rfl
theorem Ras.isNil27 (a p:Addr) (W:World) (ha:W.cell? a=some (.pointer (some p))):
  (ReflectliteValue.method (ReflectliteValue.valueError "reflectlite.Value.IsNil" 0) ReflectliteValue.isNil #[.agg #[.pointer (some ⟨5, 165, none⟩), .pointer (some a), .int .u64 150]]).run Tryz.prog W = .ok (.bool false) W := by
 rw [rlm]
 simp only [Sem.run_bind,Ras.parts27,Result.andThen]
 simp [ReflectliteValue.isNil,loadVar,isAgg,underlying,Tryz.underlying165,ha,Result.andThen]
theorem Ras.methodElem (h : Value) (w : World) : (Go.method 407 248 (.agg #[h]) "Elem").run Tryz.prog w = .ok (228, .agg #[h]) w := by kernel_rfl
theorem Ras.methodImplements (h : Value) (w : World) : (Go.method 407 248 (.agg #[h]) "Implements").run Tryz.prog w = .ok (229, .agg #[h]) w := by kernel_rfl
theorem Ras.methodAssignableTo (h : Value) (w : World) : (Go.method 407 248 (.agg #[h]) "AssignableTo").run Tryz.prog w = .ok (226, .agg #[h]) w := by kernel_rfl
theorem Ras.elem27 (w:World):(ReflectliteType.method ReflectliteType.elem #[.agg #[.pointer (some ⟨5,165,none⟩)]]).run Tryz.prog w=.ok (.iface 248 (.agg #[.pointer (some ⟨5,72,none⟩)])) w:=by kernel_rfl
theorem Ras.implements25 (w : World) : (ReflectliteType.relation "Implements" ReflectliteType.implements_ #[.agg #[.pointer (some ⟨5, 72, none⟩)], .iface 248 (.agg #[.pointer (some ⟨5, 41, none⟩)])]).run Tryz.prog w = .ok (.bool true) w := by kernel_rfl
theorem Ras.typeOf25 (v:Value) (w:World):(ReflectliteType.typeOf #[.iface 72 v]).run Tryz.prog w=.ok (.iface 248 (.agg #[.pointer (some ⟨5,72,none⟩)])) w:=by kernel_rfl
theorem Ras.assignable25 (w : World) : (ReflectliteType.relation "AssignableTo" ReflectliteType.assignableTo #[.agg #[.pointer (some ⟨5, 72, none⟩)], .iface 248 (.agg #[.pointer (some ⟨5, 72, none⟩)])]).run Tryz.prog w = .ok (.bool true) w := by kernel_rfl
theorem Ras.valueOf25 (e:Addr) (w:World):(ReflectliteValue.unpack (.iface 72 (.pointer (some e)))).run Tryz.prog w
  = .ok (.agg #[.pointer (some ⟨5,72,none⟩),.pointer (some ⟨w.heap.size,0,none⟩),.int .u64 150]) (w.alloc (.cells #[.pointer (some e)] 72)):=by kernel_rfl
theorem Ras.elemOf27 (w:World):(Rtype.elem? 165).run Tryz.prog w=.ok (some 72) w:=by kernel_rfl
theorem Ras.mk25 (p:Addr) (w:World):(ReflectliteValue.mk 72 p ReflectliteValue.flagAddr).run Tryz.prog w=.ok (.agg #[.pointer (some ⟨5,72,none⟩),.pointer (some p),.int .u64 406]) w:=by kernel_rfl
theorem Ras.elemV27 (a p:Addr) (W:World) (ha:W.cell? a=some (.pointer (some p))):
  (ReflectliteValue.method (ReflectliteValue.valueError "reflectlite.Value.Elem" 0) ReflectliteValue.elem #[.agg #[.pointer (some ⟨5, 165, none⟩), .pointer (some a), .int .u64 150]]).run Tryz.prog W
   = .ok (.agg #[.pointer (some ⟨5,72,none⟩),.pointer (some p),.int .u64 406]) W:=by
 rw [rlm]
 simp only [Sem.run_bind,Ras.parts27,Result.andThen]
 simp [ReflectliteValue.elem,loadVar,isAgg,underlying,Tryz.underlying165,ha,Result.andThen,Ras.elemOf27,Ras.mk25]
theorem rls (v x:Value):ReflectliteValue.set #[v,x]=(do
  let (some (dst,a,fl),some (src,b,_)):=(← ReflectliteValue.parts v,← ReflectliteValue.parts x)
   | unsupported (.noEntry "extern/(internal/reflectlite.Value).Set.zeroValue")
  if fl / ReflectliteValue.flagAddr % 2 == 0 then unsupported (.noEntry "extern/(internal/reflectlite.Value).Set.unaddressable")
  let val ← loadVar src b
  if ← Rtype.directlyAssignable dst src then storeVar dst a val
  else if ← Rtype.implements dst src then
   if (← Rtype.kind src)==20 then
    match val with
    | .nilIface => unsupported (.noEntry "extern/reflectlite: a nil value of one interface type handed on as a value of another")
    | _=>storeVar dst a val
   else storeVar dst a (.iface src val)
  else panicString ("reflectlite.Set: value of type " ++ (← Rtype.spelt src) ++ " is not assignable to type " ++ (← Rtype.spelt dst))
  pure (.tuple #[])):=rfl
theorem Ras.parts25a (a:Addr) (w:World):(ReflectliteValue.parts (.agg #[.pointer (some ⟨5,72,none⟩),.pointer (some a),.int .u64 406])).run Tryz.prog w=.ok (some (72,a,406)) w:=by kernel_rfl
theorem Ras.parts25 (a:Addr) (w:World):(ReflectliteValue.parts (.agg #[.pointer (some ⟨5,72,none⟩),.pointer (some a),.int .u64 150])).run Tryz.prog w=.ok (some (72,a,150)) w:=by kernel_rfl
theorem Ras.direct25 (w:World):(Rtype.directlyAssignable 72 72).run Tryz.prog w=.ok true w:=by kernel_rfl
theorem Ras.set25 (ta b e:Addr) (old:Value) (W:World) (hb:W.cell? b=some (.pointer (some e))) (ht:W.cell? ta=some old) (hf:W.frozen? ta=false):
  (ReflectliteValue.set #[.agg #[.pointer (some ⟨5,72,none⟩),.pointer (some ta),.int .u64 406],.agg #[.pointer (some ⟨5,72,none⟩),.pointer (some b),.int .u64 150]]).run Tryz.prog W
   = .ok (.tuple #[]) (W.setCell ta (.pointer (some e))):=by
 rw [rls]
 simp only [Sem.run_bind,Ras.parts25a,Ras.parts25,Result.andThen]
 simp [ReflectliteValue.flagAddr,loadVar,isAgg,underlying,Tryz.underlying72,hb,Result.andThen,Ras.direct25,storeVar,Value.cells,storeCells,Addr.add]
 rw [run_store Tryz.prog W ta _ _ (by rfl)]
 simp [ht,hf]
theorem wi (e t:Addr) (old:Value) (w:World) (hg:w.cell? ⟨1,0,none⟩=some (.iface 248 (.agg #[.pointer (some ⟨5,41,none⟩)]))) (ht0:w.cell? t=some old) (hf0:w.frozen? t=false):
  Calls Tryz.prog 98 #[.iface 72 (.pointer (some e)),.iface 165 (.pointer (some t))] w fun ev w'=>ev=.returned (.bool true)∧w'=((((w.alloc (.cells #[.pointer (some t)] 165)).alloc (.cells #[.pointer (some ⟨5,165,none⟩),.pointer (some ⟨w.heap.size,0,none⟩),.int .u64 150] 204)).alloc (.cells #[.pointer (some ⟨5,165,none⟩),.pointer (some ⟨w.heap.size,0,none⟩),.int .u64 150] 204)).alloc (.cells #[.pointer (some e)] 72)).setCell t (.pointer (some e)):=by
 have h6:=@run_callFunc_extern Tryz.prog 130 _ (fun args=>ReflectliteValue.unpack (args.getD 0 (.tuple #[]))) Tryz.func130 (by kernel_rfl) (by kernel_rfl) (by kernel_rfl) (by kernel_rfl)
 have h7 := @run_callFunc_extern Tryz.prog 131 _ (ReflectliteValue.methodAny (ReflectliteValue.valueError "reflectlite.Value.Type" 0) (fun t _ _ _ => ReflectliteType.toType t)) Tryz.func131 (by kernel_rfl) (by kernel_rfl) (by kernel_rfl) (by kernel_rfl)
 have h8 := @run_callFunc_extern Tryz.prog 132 _ (ReflectliteValue.method (ReflectliteValue.valueError "reflectlite.Value.IsNil" 0) ReflectliteValue.isNil) Tryz.func132 (by kernel_rfl) (by kernel_rfl) (by kernel_rfl) (by kernel_rfl)
 have h27:=@run_callFunc_extern Tryz.prog 213 _ (ReflectliteType.abiMethod fun t=>do pure (.int .u8 (← Rtype.kind t))) Tryz.func213 (by kernel_rfl) (by kernel_rfl) (by kernel_rfl) (by kernel_rfl)
 have h37:=@run_callFunc_extern Tryz.prog 228 _ (ReflectliteType.method ReflectliteType.elem) Tryz.func228 (by kernel_rfl) (by kernel_rfl) (by kernel_rfl) (by kernel_rfl)
 have h38 := @run_callFunc_extern Tryz.prog 229 _ (ReflectliteType.relation "Implements" ReflectliteType.implements_) Tryz.func229 (by kernel_rfl) (by kernel_rfl) (by kernel_rfl) (by kernel_rfl)
 have h10:=@run_callFunc_extern Tryz.prog 162 _ ReflectliteType.typeOf Tryz.func162 (by kernel_rfl) (by kernel_rfl) (by kernel_rfl) (by kernel_rfl)
 have h35 := @run_callFunc_extern Tryz.prog 226 _ (ReflectliteType.relation "AssignableTo" ReflectliteType.assignableTo) Tryz.func226 (by kernel_rfl) (by kernel_rfl) (by kernel_rfl) (by kernel_rfl)
 have h11 := @run_callFunc_extern Tryz.prog 163 _ (ReflectliteValue.method (ReflectliteValue.valueError "reflectlite.Value.Elem" 0) ReflectliteValue.elem) Tryz.func163 (by kernel_rfl) (by kernel_rfl) (by kernel_rfl) (by kernel_rfl)
 have h12:=@run_callFunc_extern Tryz.prog 164 _ ReflectliteValue.set Tryz.func164 (by kernel_rfl) (by kernel_rfl) (by kernel_rfl) (by kernel_rfl)
 have tO:=Ras.typeOf25
 have mA:=Ras.methodAssignableTo
 have a25:=Ras.assignable25
 have v25:=Ras.valueOf25
 have f6:=Ras.valueOf27
 have f7:=Ras.type27
 have mK:=Ras.methodKind
 have mE:=Ras.methodElem
 have mI:=Ras.methodImplements
 have k27:=Ras.kind27
 have k25:=Ras.kind25
 have e27:=Ras.elem27
 have i25:=Ras.implements25
 have n8:=Ras.isNil27 ⟨w.heap.size,0,none⟩ t ((w.alloc (.cells #[.pointer (some t)] 165)).alloc (.cells #[.pointer (some ⟨5,165,none⟩),.pointer (some ⟨w.heap.size,0,none⟩),.int .u64 150] 204)) (by simp)
 have hlt:1<w.heap.size:=World.block_lt_of_cell? w _ hg
 have hg2:((w.alloc (.cells #[.pointer (some t)] 165)).alloc (.cells #[.pointer (some ⟨5,165,none⟩),.pointer (some ⟨w.heap.size,0,none⟩),.int .u64 150] 204)).cell? ⟨1,0,none⟩=some (.iface 248 (.agg #[.pointer (some ⟨5,41,none⟩)])):=by
  rw [World.cell?_alloc_lt _ _ ⟨1,0,none⟩ (by simp;omega),World.cell?_alloc_lt _ _ ⟨1,0,none⟩ hlt];exact hg
 have htl:t.block<w.heap.size:=by
  rcases Nat.lt_or_ge t.block w.heap.size with h | h
  ·exact h
  ·simp [World.cell?,Array.getElem?_eq_none h] at ht0
 have el:=Ras.elemV27 ⟨w.heap.size,0,none⟩ t (((w.alloc (.cells #[.pointer (some t)] 165)).alloc (.cells #[.pointer (some ⟨5,165,none⟩),.pointer (some ⟨w.heap.size,0,none⟩),.int .u64 150] 204)).alloc (.cells #[.pointer (some ⟨5,165,none⟩),.pointer (some ⟨w.heap.size,0,none⟩),.int .u64 150] 204)) (by rw [World.cell?_alloc_lt _ _ ⟨w.heap.size,0,none⟩ (by simp;omega)];simp)
 have st:=Ras.set25 t ⟨w.heap.size+1+1+1,0,none⟩ e old ((((w.alloc (.cells #[.pointer (some t)] 165)).alloc (.cells #[.pointer (some ⟨5,165,none⟩),.pointer (some ⟨w.heap.size,0,none⟩),.int .u64 150] 204)).alloc (.cells #[.pointer (some ⟨5,165,none⟩),.pointer (some ⟨w.heap.size,0,none⟩),.int .u64 150] 204)).alloc (.cells #[.pointer (some e)] 72))
  (by rw [World.cell?_alloc_at _ _ _ _ (by simp)];rfl)
  (by rw [World.cell?_alloc_lt _ _ t (by simp;omega),World.cell?_alloc_lt _ _ t (by simp;omega),World.cell?_alloc_lt _ _ t (by simp;omega),World.cell?_alloc_lt _ _ t htl];exact ht0)
  (by rw [World.frozen?_alloc_old _ _ t (by simp;omega),World.frozen?_alloc_old _ _ t (by simp;omega),World.frozen?_alloc_old _ _ t (by simp;omega),World.frozen?_alloc_old _ _ t (Nat.ne_of_lt htl)];exact hf0)
 go_enter Tryz.func98,Tryz.ntmps98
 go_wp2
 refine wp_loop_rounds 1 ?_
 rw [rounds_succ]
 go_wp2
 go_ret
 exact ⟨rfl,rfl⟩
end Go.Proofs.YtjikkhbcbfpocaaGreatDoor
namespace Go.Proofs.YtjikkhbcbfpocaaGreatDoor
open Go.RowKit Go.Shelf
attribute [local go_sem] Oper.semAt_some
def Pq (c:Rp) (r:Rv) (M:Nat→Prop) (w0:World) (S:Nat→Prop) (w:World):Prop:=
 ∃ M',Rs c r M' w∧(∀ b,M' b→M b∨w0.heap.size≤b)∧(∀ b,S b→¬ M' b)∧(∀ b,S b→w0.heap.size≤b)∧Frs M w0 w
theorem Pq.start {c:Rp} {r:Rv} {M:Nat→Prop} {w:World} (h:Rs c r M w):Pq c r M w (fun _=>False) w:=⟨M,h,fun _ q=>.inl q,fun _ q=>q.elim,fun _ q=>q.elim,Frs.of_G (G.refl _)⟩
theorem Pq.done {c:Rp} {r:Rv} {M S:Nat→Prop} {w0 w:World} (h:Pq c r M w0 S w):Pr c r M w0 w:=by
 obtain ⟨M',h1,h2,_,_,h5⟩:=h
 exact ⟨M',h1,h2,h5⟩
theorem Pq.alloc {c:Rp} {r:Rv} {M S:Nat→Prop} {w0 w:World} (h:Pq c r M w0 S w) (o:Obj):Pq c r M w0 (fun b=>S b∨b=w.heap.size) (w.alloc o):=by
 obtain ⟨M',h1,h2,h3,h4,h5⟩:=h
 refine ⟨M',h1.grow (G.alloc _ _),h2,fun b q=>?_,fun b q=>?_,h5.trans (M1:=fun _=>False) (fun b q=>q.elim) (Frs.of_G (G.alloc _ _))⟩
 ·rcases q with q | q
  ·exact h3 b q
  ·exact fun hm=>by have:=(h1.bnd b hm).2;omega
 ·rcases q with q | q
  ·exact h4 b q
  ·rw [q];exact h5.size
theorem Pq.grow {c:Rp} {r:Rv} {M S:Nat→Prop} {w0 w w':World} (h:Pq c r M w0 S w) (hg:G w w'):Pq c r M w0 S w':=by
 obtain ⟨M',h1,h2,h3,h4,h5⟩:=h
 exact ⟨M',h1.grow hg,h2,h3,h4,h5.trans (M1:=fun _=>False) (fun b q=>q.elim) (Frs.of_G hg)⟩
theorem Pq.put {c:Rp} {r:Rv} {M S:Nat→Prop} {w0 w w':World} (h:Pq c r M w0 S w) (hf:Fr S w w'):Pq c r M w0 S w':=by
 obtain ⟨M',h1,h2,h3,h4,h5⟩:=h
 exact ⟨M',h1.keep hf.size fun b hb=>hf.same b (h1.bnd b hb).2 fun hs=>h3 b hs hb,h2,h3,h4,⟨h5.fr.trans (fun b hs=>.inr (h4 b hs)) hf,fun b cs hm hb=>by
  have e:=h5.spot b cs hb
  have hlt:=(gS hb)
  exact (hf.same b (by have:=h5.size;omega) fun hs=>by have:=h4 b hs;omega).trans e⟩⟩
theorem Pq.call {c:Rp} {r r':Rv} {M S:Nat→Prop} {w0 w:World} {f:FuncId} {args:Array Value} {Q:Ending→World→Prop} (h:Pq c r M w0 S w) (hS:∀ b,S b→b<w.heap.size)
  (hc:∀ M',Rs c r M' w→Calls Tryz.prog f args w fun x w'=>Q x w'∧Pr c r' M' w w'):
  Calls Tryz.prog f args w fun x w'=>Q x w'∧Pq c r' M w0 S w'∧w.heap.size≤w'.heap.size∧∀ b,S b→w'.heap[b]?=w.heap[b]?:=by
 obtain ⟨M',h1,h2,h3,h4,h5⟩:=h
 refine (hc M' h1).mono ?_
 rintro x w' ⟨hq,M2,k1,k2,k3⟩
 refine ⟨hq,⟨M2,k1,fun b hb=>(k2 b hb).elim (h2 b) fun q=>.inr (Nat.le_trans h5.size q),fun b hs hm=>?_,h4,h5.trans h2 k3⟩,k3.size,fun b hs=>k3.fr.same b (hS b hs) (h3 b hs)⟩
 rcases k2 b hm with q | q
 ·exact h3 b hs q
 ·have:=hS b hs;omega
theorem Pq.q0 {c:Rp} {r:Rv} {M S:Nat→Prop} {w0 w:World} (h:Pq c r M w0 S w):w.cell? ⟨c.X,0,none⟩=some (.pointer (some ⟨c.R,0,none⟩)):=by
 obtain ⟨M',h1,_⟩:=h
 exact h1.q0
theorem Pq.q1 {c:Rp} {r:Rv} {M S:Nat→Prop} {w0 w:World} (h:Pq c r M w0 S w):w.cell? ⟨c.X,1,none⟩=some (.int .i64 c.ver):=by
 obtain ⟨M',h1,_⟩:=h
 exact h1.q1
theorem Pq.q2 {c:Rp} {r:Rv} {M S:Nat→Prop} {w0 w:World} (h:Pq c r M w0 S w):w.cell? ⟨c.X,2,none⟩=some (.int .i64 r.left):=by
 obtain ⟨M',h1,_⟩:=h
 exact h1.q2
theorem aS {c:Rp} {r:Rv} {M:Nat→Prop} {w:World} (hS:Rs c r M w):
  Calls Tryz.prog 102 #[.pointer (some ⟨c.X,0,none⟩)] w fun x w'=>x=.returned (.int .i64 (modR c.l c.ver r).1)∧Pr c (modR c.l c.ver r).2 M w w':=by
 have q0:=hS.q0
 have q1:=hS.q1
 unfold modR
 by_cases hv:c.ver<2
 ·rw [if_pos hv]
  have HH:=hid (Pr.refl hS)
  clear hS
  go_enter Tryz.func102,Tryz.ntmps102
  go_wp2
  go_ret
  exact ⟨rfl,HH.o⟩
 ·rw [if_neg hv]
  have C1:=hS.at_
  have C2:=hS.byte
  have hb:=dW c.hB r.s
  simp only
  generalize hN:(Wi.byteS c.l r.s).1=N at *
  obtain ⟨P,hP⟩:∃ P:Nat,r.s.p=P:=⟨_,rfl⟩
  rw [hP] at C1 ⊢
  obtain ⟨hb1,hb2⟩:=hb
  clear hS hN hP
  go_enter Tryz.func102,Tryz.ntmps102
  go_wp2_with (first
   | (go_at_call 62;refine C1.mono ?_;rintro e w1 ⟨rfl,hw1⟩;subst hw1)
   | (go_at_call 134;refine C2.mono ?_;rintro e w2 ⟨rfl,h2⟩;have HP:=hid h2;have q2:=h2.q0;clear h2)
   | (go_at_call 66;refine (HP.o.must _ _).mono ?_;rintro e w3 ⟨rfl,h3⟩;have HQ:=hid h3;clear h3))
  go_ret
  exact ⟨rfl,HQ.o⟩
theorem Fr.mono {M M':Nat→Prop} {w w':World} (h:Fr M w w') (hM:∀ b,M b→M' b):Fr M' w w':=⟨h.os,h.tape,h.output,h.size,fun b hb hn=>h.same b hb fun q=>hn (hM b q)⟩
def ErrT (w:World):Prop:=w.cell? ⟨1,0,none⟩=some (.iface 248 (.agg #[.pointer (some ⟨5,41,none⟩)]))
theorem asW (w:World) (B:Nat) (e:Addr) (old:Value) (hB:w.heap[B]?=some (.cells #[old] 72 (0,0))) (hT:ErrT w):
  Calls Tryz.prog 98 #[.iface 72 (.pointer (some e)),.iface 165 (.pointer (some ⟨B,0,none⟩))] w fun ev w'=>ev=.returned (.bool true)∧Fr (fun b=>b=B) w w'∧w'.heap[B]?=some (.cells #[.pointer (some e)] 72 (0,0)):=by
 refine (wi e ⟨B,0,none⟩ old w hT (by simp [World.cell?,hB]) (by simp [World.frozen?,hB])).mono ?_
 rintro ev w' ⟨rfl,rfl⟩
 have hlt:=(gS hB)
 have hG:G w ((((w.alloc (.cells #[.pointer (some ⟨B,0,none⟩)] 165)).alloc (.cells #[.pointer (some ⟨5,165,none⟩),.pointer (some ⟨w.heap.size,0,none⟩),.int .u64 150] 204)).alloc (.cells #[.pointer (some ⟨5,165,none⟩),.pointer (some ⟨w.heap.size,0,none⟩),.int .u64 150] 204)).alloc (.cells #[.pointer (some e)] 72)):=(((G.alloc _ _).trans (G.alloc _ _)).trans (G.alloc _ _)).trans (G.alloc _ _)
 refine ⟨rfl,(Fr.of_G hG).trans (fun _ q=>.inl q) (Fr.setCell rfl),?_⟩
 rw [Wi.jM _ ((hG.block B hlt).trans hB)]
 rfl
theorem xb {c:Rp} {r:Rv} {M:Nat→Prop} {w:World} (hS:Rs c r M w) (hT:ErrT w) (_h1:1<c.lo):
  Calls Tryz.prog 65 #[.pointer (some ⟨c.X,0,none⟩)] w fun x w'=>x=.returned (.tuple #[])∧Pr c (yU r) M w w':=by
 obtain ⟨B,hB⟩:∃ B,w.heap.size=B:=⟨_,rfl⟩
 have hG:G w (w.alloc (.cells #[.pointer none] 72)):=G.alloc _ _
 have hA:=(Pq.start hS).alloc (.cells #[.pointer none] 72)
 have hv:(w.alloc (.cells #[.pointer none] 72)).heap[B]?=some (.cells #[.pointer none] 72 (0,0)):=by rw [← hB];exact World.alloc_heap_new w _
 have hs1:(w.alloc (.cells #[.pointer none] 72)).heap.size=B+1:=by rw [World.size_alloc,hB]
 rw [hB] at hA
 have q0:=hA.q0
 have hT1:ErrT (w.alloc (.cells #[.pointer none] 72)):=hG.cell hT
 have hR1:Wi.RdS (w.alloc (.cells #[.pointer none] 72)) c.lr c.R c.l r.s:=(hS.grow hG).rd
 clear hG hS hT
 by_cases hf:r.s.fe=0
 ·have e:yU r=r:=by unfold yU;rw [if_neg (by omega)]
  rw [e]
  have C1:=Wi.mq c.lr c.R c.l r.s.p r.s.fa (w.alloc (.cells #[.pointer none] 72)) (by unfold Wi.RdS at hR1 ⊢;rw [hf] at hR1;exact hR1)
  have HH:=hid hA.done
  clear hA hT1 hR1 hv hs1 hf e
  go_enter Tryz.func65,Tryz.ntmps65
  go_wp2_with (first
   | (go_at_call 99;refine C1.mono ?_;rintro e w1 ⟨rfl,hw1⟩;subst hw1)
   | (go_at_call 98;refine (wh _ _).mono ?_;rintro e w2 ⟨rfl,hw2⟩;subst hw2))
  go_end0
  exact ⟨rfl,HH.o⟩
 ·have C1:=Wi.mr c.lr c.R c.l r.s (w.alloc (.cells #[.pointer none] 72)) hR1 hf
  have hG2:G (w.alloc (.cells #[.pointer none] 72)) ((w.alloc (.cells #[.pointer none] 72)).alloc (.cells #[.int .i64 r.s.fa,.string ⟨#[]⟩,.int .i64 r.s.fe] 93)):=G.alloc _ _
  have hA2:=hA.grow hG2
  have hv2:=(hG2.block B (by omega)).trans hv
  have hT2:ErrT ((w.alloc (.cells #[.pointer none] 72)).alloc (.cells #[.int .i64 r.s.fa,.string ⟨#[]⟩,.int .i64 r.s.fe] 93)):=hG2.cell hT1
  have hw2:=World.alloc_heap_new (w.alloc (.cells #[.pointer none] 72)) (.cells #[.int .i64 r.s.fa,.string ⟨#[]⟩,.int .i64 r.s.fe] 93)
  rw [hs1] at C1 hw2
  have hs2:((w.alloc (.cells #[.pointer none] 72)).alloc (.cells #[.int .i64 r.s.fa,.string ⟨#[]⟩,.int .i64 r.s.fe] 93)).heap.size=B+1+1:=by rw [World.size_alloc,hs1]
  generalize (w.alloc (.cells #[.pointer none] 72)).alloc (.cells #[.int .i64 r.s.fa,.string ⟨#[]⟩,.int .i64 r.s.fe] 93)=w2 at *
  have C2:=(asW w2 B ⟨B+1,0,none⟩ (.pointer none) hv2 hT2)
  have C3:Hid (∀ w3,Fr (fun b=>b=B) w2 w3→w3.heap[B]?=some (.cells #[.pointer (some ⟨B+1,0,none⟩)] 72 (0,0))→Pq c r M w (fun b=>False∨b=B) w3∧w3.cell? ⟨B,0,none⟩=some (.pointer (some ⟨B+1,0,none⟩))∧w3.cell? ⟨B+1,2,none⟩=some (.int .i64 r.s.fe)∧w3.cell? ⟨B+1,0,none⟩=some (.int .i64 r.s.fa)∧B<w3.heap.size):=fun w3 k1 k2=>by
   have k3:=(k1.same (B+1) (by omega) (by omega)).trans hw2
   exact ⟨hA2.put (k1.mono fun b q=>.inr q),by simp [World.cell?,k2],by simp [World.cell?,k3],by simp [World.cell?,k3],(gS k2)⟩
  clear hA hA2 hG2 hv2 hT2 hT1 hR1 hv hs1 hw2 hs2
  unfold yU
  generalize r.s.fe=fe at *
  generalize r.s.fa=fa at *
  by_cases h12:fe=12
  ·subst h12
   rw [if_pos rfl]
   clear hf
   go_enter Tryz.func65,Tryz.ntmps65
   go_wp2_with (first
    | (go_at_call 99;refine C1.mono ?_;rintro e w1 ⟨rfl,hw1⟩;subst hw1)
    | (go_at_call 98;refine C2.mono ?_;rintro e w3 ⟨rfl,k1,k2⟩;obtain ⟨p1,p2,p3,p4,p5⟩:=C3.o w3 k1 k2;have HP:=hid (⟨p1,p5⟩:_∧_);clear p1 p5 k1 k2)
    | (go_at_call 69;refine (HP.o.1.call (fun b q=>by rcases q with q | q;exact q.elim;have:=HP.o.2;omega) fun M' hR=>km fa 64 hR).mono ?_;rintro e w4 ⟨rfl,h4,_⟩;have HQ:=hid h4;clear h4))
   go_end0
   exact ⟨rfl,HQ.o.done⟩
  ·rw [if_neg h12]
   have h12b:(fe==12)=false:=by simpa using h12
   clear hf h12
   go_enter Tryz.func65,Tryz.ntmps65
   go_wp2_with (first
    | (go_at_call 99;refine C1.mono ?_;rintro e w1 ⟨rfl,hw1⟩;subst hw1)
    | (go_at_call 98;refine C2.mono ?_;rintro e w3 ⟨rfl,k1,k2⟩;obtain ⟨p1,p2,p3,p4,p5⟩:=C3.o w3 k1 k2;have HP:=hid (⟨p1,p5⟩:_∧_);clear p1 p5 k1 k2))
   go_end0
   exact ⟨rfl,HP.o.1.done⟩
theorem Pr.bounded {c:Rp} {r:Rv} {M:Nat→Prop} {w w1:World} (h:Pr c r M w w1) (h1:1<c.lo) (hT:ErrT w) (hM:∀ b,M b→c.lo≤b) (hl:1<w.heap.size):
  Calls Tryz.prog 65 #[.pointer (some ⟨c.X,0,none⟩)] w1 fun x w'=>x=.returned (.tuple #[])∧Pr c (yU r) M w w':=by
 obtain ⟨M1,k1,k2,k3⟩:=h
 exact (xb k1 ((World.cell?_of_block (w:=w) (a:=⟨1,0,none⟩) (k3.fr.same 1 hl fun q=>by have:=hM 1 q;omega)).trans hT) h1).mono fun _ _ q=>⟨q.1,Pr.comp k2 k3 q.2⟩
theorem lY (l:List Int) (s:Wi.St) (m:Nat):(Wi.mkStr (Wi.textS l s m).1).size≤m:=by
 have h:(Wi.textS l s m).1.length≤m:=by
  unfold Wi.textS
  split
  ·exact Nat.zero_le _
  ·split
   ·split
    ·exact Nat.zero_le _
    ·split
     ·exact Nat.zero_le _
     ·rw [List.length_take];omega
   ·exact Nat.zero_le _
   ·exact Nat.zero_le _
 unfold Wi.mkStr
 show (List.toArray _).size≤m
 simpa using h
theorem my {c:Rp} {r:Rv} {M:Nat→Prop} {w:World} (last:ByteArray) (hS:Rs c r M w) (hT:ErrT w) (h1:1<c.lo):
  Calls Tryz.prog 101 #[.pointer (some ⟨c.X,0,none⟩),.string last] w fun x w'=>x=.returned (.string (dH c.l last r).1)∧Pr c (dH c.l last r).2 M w w':=by
 have q0:=hS.q0
 have C1:=hS.at_
 have C2:=hS.text 255 (by decide)
 have HH:=hid (⟨hS,hT⟩:_∧_)
 unfold dH
 simp only
 have hsz:=lY c.l r.s 255
 generalize hN:Wi.mkStr (Wi.textS c.l r.s 255).1=N at *
 obtain ⟨P,hP⟩:∃ P:Nat,r.s.p=P:=⟨_,rfl⟩
 rw [hP] at C1 ⊢
 have C4:=fun W=>ca N W (by omega)
 have HL:=hid h1
 obtain ⟨OK,hOK⟩:∃ OK,nOkB last N=OK:=⟨_,rfl⟩
 rw [hOK]
 unfold nOkB at hOK
 generalize { r with s:=(Wi.textS c.l r.s 255).2 }=r1 at *
 clear hS hT hN hP h1 hsz
 cases hA:Op.bytesLess N.toList last.toList with
 | true=>
  rw [hA,Bool.true_or,Bool.not_true,Bool.false_and] at hOK
  subst hOK
  clear C4
  go_enter Tryz.func101,Tryz.ntmps101
  go_wp2_with (first
   | (go_at_call 62;refine C1.mono ?_;rintro e w1 ⟨rfl,hw1⟩;subst hw1)
   | (go_at_call 135;refine C2.mono ?_;rintro e w2 ⟨rfl,h2⟩;have HP:=hid h2;clear h2)
   | (go_at_call 65;refine (HP.o.bounded HL.o HH.o.2 (fun b q=>(HH.o.1.bnd b q).1) (World.block_lt_of_cell? _ _ HH.o.2)).mono ?_;rintro e w3 ⟨rfl,h3⟩;have HQ:=hid h3;clear h3)
   | (go_at_call 66;refine (HQ.o.must _ _).mono ?_;rintro e w5 ⟨rfl,h5⟩;have HU:=hid h5;clear h5))
  go_ret
  exact ⟨rfl,HU.o⟩
 | false=>
  rw [hA,Bool.false_or] at hOK
  cases hE:(N.toList==last.toList) with
  | true=>
   rw [hE,Bool.not_true,Bool.false_and] at hOK
   subst hOK
   clear C4
   have hE2:N.toList=last.toList:=by simpa using hE
   clear hE
   go_enter Tryz.func101,Tryz.ntmps101
   go_wp2_with (first
    | (go_at_call 62;refine C1.mono ?_;rintro e w1 ⟨rfl,hw1⟩;subst hw1)
    | (go_at_call 135;refine C2.mono ?_;rintro e w2 ⟨rfl,h2⟩;have HP:=hid h2;clear h2)
    | (go_at_call 65;refine (HP.o.bounded HL.o HH.o.2 (fun b q=>(HH.o.1.bnd b q).1) (World.block_lt_of_cell? _ _ HH.o.2)).mono ?_;rintro e w3 ⟨rfl,h3⟩;have HQ:=hid h3;clear h3)
    | (go_at_call 66;refine (HQ.o.must _ _).mono ?_;rintro e w5 ⟨rfl,h5⟩;have HU:=hid h5;clear h5))
   go_ret
   exact ⟨rfl,HU.o⟩
  | false=>
   rw [hE,Bool.not_false,Bool.true_and] at hOK
   rw [hOK] at C4
   have hE2:¬ N.toList=last.toList:=by simpa using hE
   have HE:=hid hE
   clear hE
   cases OK with
   | true=>
    rw [show eno true=0 from rfl] at C4
    clear hOK
    go_enter Tryz.func101,Tryz.ntmps101
    go_wp2_with (first
     | (go_at_call 62;refine C1.mono ?_;rintro e w1 ⟨rfl,hw1⟩;subst hw1)
     | (go_at_call 135;refine C2.mono ?_;rintro e w2 ⟨rfl,h2⟩;have HP:=hid h2;clear h2)
     | (go_at_call 65;refine (HP.o.bounded HL.o HH.o.2 (fun b q=>(HH.o.1.bnd b q).1) (World.block_lt_of_cell? _ _ HH.o.2)).mono ?_;rintro e w3 ⟨rfl,h3⟩;have HQ:=hid h3;clear h3)
     | (go_at_call 136;refine (C4 _).mono ?_;rintro e w4 ⟨rfl,h4⟩;have HR:=hid (HQ.o.grow h4);clear h4)
     | (go_at_call 66;refine (HR.o.must _ _).mono ?_;rintro e w5 ⟨rfl,h5⟩;have HU:=hid h5;clear h5))
    go_ret
    have hu:=HU.o
    rw [HE.o] at hu
    exact ⟨rfl,hu⟩
   | false=>
    rw [show eno false=30 from rfl] at C4
    clear hOK
    go_enter Tryz.func101,Tryz.ntmps101
    go_wp2_with (first
     | (go_at_call 62;refine C1.mono ?_;rintro e w1 ⟨rfl,hw1⟩;subst hw1)
     | (go_at_call 135;refine C2.mono ?_;rintro e w2 ⟨rfl,h2⟩;have HP:=hid h2;clear h2)
     | (go_at_call 65;refine (HP.o.bounded HL.o HH.o.2 (fun b q=>(HH.o.1.bnd b q).1) (World.block_lt_of_cell? _ _ HH.o.2)).mono ?_;rintro e w3 ⟨rfl,h3⟩;have HQ:=hid h3;clear h3)
     | (go_at_call 136;refine (C4 _).mono ?_;rintro e w4 ⟨rfl,h4⟩;have HR:=hid (HQ.o.grow h4);clear h4)
     | (go_at_call 66;refine (HR.o.must _ _).mono ?_;rintro e w5 ⟨rfl,h5⟩;have HU:=hid h5;clear h5))
    go_ret
    exact ⟨rfl,HU.o⟩
theorem Pr.call {c:Rp} {r r':Rv} {M:Nat→Prop} {w w1:World} {f:FuncId} {args:Array Value} {Q:Ending→World→Prop} (h:Pr c r M w w1) (hc:∀ M',Rs c r M' w1→Calls Tryz.prog f args w1 fun x w'=>Q x w'∧Pr c r' M' w1 w'):
  Calls Tryz.prog f args w1 fun x w'=>Q x w'∧Pr c r' M w w':=by
 obtain ⟨M1,k1,k2,k3⟩:=h
 exact (hc M1 k1).mono fun _ _ q=>⟨q.1,Pr.comp k2 k3 q.2⟩
theorem Pr.setLeft {c:Rp} {r:Rv} {M:Nat→Prop} {w w1:World} (h:Pr c r M w w1) (x:Int):Pr c { r with left:=x } M w (w1.setCell ⟨c.X,2,none⟩ (.int .i64 x))∧w1.frozen? ⟨c.X,2,none⟩=false:=by
 obtain ⟨M1,⟨fp,sv,xs,k1⟩,k2,k3⟩:=h
 have h2:=k1.setLeft x
 exact ⟨Pr.comp k2 k3 ⟨M1,⟨_,_,_,h2.1⟩,fun _ q=>.inl q,h2.2⟩,k1.frz 2⟩
theorem dX {c:Rp} {r:Rv} {M:Nat→Prop} {w:World} (deep:Nat) (hS:Rs c r M w) (hd:deep≤100) (hl:-100000000≤r.left∧r.left≤100000000):
  Calls Tryz.prog 100 #[.pointer (some ⟨c.X,0,none⟩),.int .i64 (deep:Int)] w fun x w'=>x=.returned (.int .i64 (kD c.l deep r).1)∧Pr c (kD c.l deep r).2 M w w':=by
 have q0:=hS.q0
 have q2:=hS.q2
 have C1:=hS.at_
 have hb:=dW c.hB r.s
 have hps:=uS deep r
 have hpl:(preR deep r).left=r.left:=(Sm.pre deep r).left
 have C2:Hid (∀ W,Pr c (preR deep r) M w W→Calls Tryz.prog 134 #[.pointer (some ⟨c.R,0,none⟩)] W fun e w'=>e=.returned (.int .u8 (Wi.byteS c.l r.s).1)∧Pr c { preR deep r with s:=(Wi.byteS c.l r.s).2 } M w w'):=fun W h=>h.call fun M' hR=>by
  have:=hR.byte
  rw [hps] at this
  exact this
 have hkk:kD c.l deep r=((Wi.byteS c.l r.s).1,{ kT r.s.p (kOk deep (Wi.byteS c.l r.s).1) { preR deep r with s:=(Wi.byteS c.l r.s).2 } with left:=r.left-1 }):=rfl
 rw [hkk]
 simp only
 have hml:∀ ok,(kT r.s.p ok { preR deep r with s:=(Wi.byteS c.l r.s).2 }).left=r.left:=fun ok=>((Sm.must _ _ _).left).trans hpl
 have CA:Hid (∀ e,preR deep r=refR r.s.p e r→Calls Tryz.prog 69 #[.pointer (some ⟨c.X,0,none⟩),.int .i64 r.s.p,.int .i64 e] w fun x w'=>x=.returned (.tuple #[])∧Pr c (preR deep r) M w w'):=fun e he=>by
  rw [he]
  exact km _ _ hS
 have C0:Hid (preR deep r=r→Pr c (preR deep r) M w w):=fun he=>by rw [he];exact Pr.refl hS
 have hpre:(r.left=0∧preR deep r=refR r.s.p 63 r)∨(r.left≠0∧64<deep∧preR deep r=refR r.s.p 64 r)∨(r.left≠0∧¬ 64<deep∧preR deep r=r):=by
  unfold preR
  by_cases h1:r.left=0
  ·rw [if_pos h1];exact .inl ⟨h1,rfl⟩
  ·rw [if_neg h1]
   by_cases h2:64<deep
   ·rw [if_pos h2];exact .inr (.inl ⟨h1,h2,rfl⟩)
   ·rw [if_neg h2];exact .inr (.inr ⟨h1,h2,rfl⟩)
 obtain ⟨P,hP⟩:∃ P:Nat,r.s.p=P:=⟨_,rfl⟩
 rw [hP] at C1 hml CA hpre ⊢
 obtain ⟨L,hL⟩:∃ L:Int,r.left=L:=⟨_,rfl⟩
 rw [hL] at q2 hml hpre hl ⊢
 generalize hN:(Wi.byteS c.l r.s).1=N at *
 generalize { preR deep r with s:=(Wi.byteS c.l r.s).2 }=r1 at *
 have HML:=hid hml
 clear hN hps hpl hS hkk hP hml hL
 obtain ⟨hb1,hb2⟩:=hb
 have hk:(N=1∧kOk deep N=true)∨(N≠1∧deep=0∧kOk deep N=false)∨(0<deep∧N=2∧kOk deep N=true)∨(0<deep∧N=3∧kOk deep N=true)∨(0<deep∧N≠1∧N≠2∧N≠3∧kOk deep N=false):=by
  unfold kOk
  by_cases h1:N=1
  ·exact .inl ⟨h1,by simp [h1]⟩
  ·rcases Nat.eq_zero_or_pos deep with h0 | h0
   ·exact .inr (.inl ⟨h1,h0,by simp [h1,h0]⟩)
   ·by_cases h2:N=2
    ·exact .inr (.inr (.inl ⟨h0,h2,by simp [h2,h0]⟩))
    ·by_cases h3:N=3
     ·exact .inr (.inr (.inr (.inl ⟨h0,h3,by simp [h3,h0]⟩)))
     ·exact .inr (.inr (.inr (.inr ⟨h0,h1,h2,h3,by simp [h1,h2,h3]⟩)))
 rcases hpre with ⟨hp1,hp2⟩ | ⟨hp0,hp1,hp2⟩ | ⟨hp0,hp1,hp2⟩
 ·have CR:=CA.o 63 hp2
  subst hp1
  clear CA C0 hp2
  rcases hk with ⟨k1,hk⟩ | ⟨k1,k2,hk⟩ | ⟨k1,k2,hk⟩ | ⟨k1,k2,hk⟩ | ⟨k1,k2,k3,k4,hk⟩
  all_goals
   rw [hk]
   clear hk
   try subst N
   try subst deep
   try have b1:(N==1)=false:=by simp;omega
   try have b2:(N==2)=false:=by simp;omega
   try have b3:(N==3)=false:=by simp;omega
   try clear k2
   try clear k3
   try clear k4
   go_enter Tryz.func100,Tryz.ntmps100
   go_wp2_with (first
    | (go_at_call 62;refine C1.mono ?_;rintro e w1 ⟨rfl,hw1⟩;subst hw1)
    | (go_at_call 69;refine CR.mono ?_;rintro e w0 ⟨rfl,h0⟩;have HPre:=hid h0;have q5:=h0.q0;clear h0)
    | (go_at_call 134;refine (C2.o _ HPre.o).mono ?_;rintro e w2 ⟨rfl,h2⟩;have HP:=hid h2;clear h2)
    | (go_at_call 66;refine (HP.o.must _ _).mono ?_;rintro e w5 ⟨rfl,h5⟩;have u2:=h5.q2;rw [HML.o] at u2;obtain ⟨u3,u4⟩:=h5.setLeft (0-1);have HQ:=hid u3;clear h5 u3))
   go_ret
   exact ⟨rfl,HQ.o⟩
 ·have CR:=CA.o 64 hp2
  have hp0b:(L==0)=false:=by simpa using hp0
  clear CA C0 hp2 hp0
  rcases hk with ⟨k1,hk⟩ | ⟨k1,k2,hk⟩ | ⟨k1,k2,hk⟩ | ⟨k1,k2,hk⟩ | ⟨k1,k2,k3,k4,hk⟩
  all_goals try (exfalso;omega)
  all_goals
   rw [hk]
   clear hk
   try subst N
   try subst deep
   try have b1:(N==1)=false:=by simp;omega
   try have b2:(N==2)=false:=by simp;omega
   try have b3:(N==3)=false:=by simp;omega
   try clear k2
   try clear k3
   try clear k4
   go_enter Tryz.func100,Tryz.ntmps100
   go_wp2_with (first
    | (go_at_call 62;refine C1.mono ?_;rintro e w1 ⟨rfl,hw1⟩;subst hw1)
    | (go_at_call 69;refine CR.mono ?_;rintro e w0 ⟨rfl,h0⟩;have HPre:=hid h0;have q5:=h0.q0;clear h0)
    | (go_at_call 134;refine (C2.o _ HPre.o).mono ?_;rintro e w2 ⟨rfl,h2⟩;have HP:=hid h2;clear h2)
    | (go_at_call 66;refine (HP.o.must _ _).mono ?_;rintro e w5 ⟨rfl,h5⟩;have u2:=h5.q2;rw [HML.o] at u2;obtain ⟨u3,u4⟩:=h5.setLeft (L-1);have HQ:=hid u3;clear h5 u3))
   go_ret
   exact ⟨rfl,HQ.o⟩
 ·have HPre:=hid (C0.o hp2)
  have hp0b:(L==0)=false:=by simpa using hp0
  clear CA C0 hp2 hp0
  rcases hk with ⟨k1,hk⟩ | ⟨k1,k2,hk⟩ | ⟨k1,k2,hk⟩ | ⟨k1,k2,hk⟩ | ⟨k1,k2,k3,k4,hk⟩
  all_goals
   rw [hk]
   clear hk
   try subst N
   try subst deep
   try have b1:(N==1)=false:=by simp;omega
   try have b2:(N==2)=false:=by simp;omega
   try have b3:(N==3)=false:=by simp;omega
   try clear k2
   try clear k3
   try clear k4
   go_enter Tryz.func100,Tryz.ntmps100
   go_wp2_with (first
    | (go_at_call 62;refine C1.mono ?_;rintro e w1 ⟨rfl,hw1⟩;subst hw1)
    | (go_at_call 134;refine (C2.o _ HPre.o).mono ?_;rintro e w2 ⟨rfl,h2⟩;have HP:=hid h2;clear h2)
    | (go_at_call 66;refine (HP.o.must _ _).mono ?_;rintro e w5 ⟨rfl,h5⟩;have u2:=h5.q2;rw [HML.o] at u2;obtain ⟨u3,u4⟩:=h5.setLeft (L-1);have HQ:=hid u3;clear h5 u3))
   go_ret
   exact ⟨rfl,HQ.o⟩
end Go.Proofs.YtjikkhbcbfpocaaGreatDoor
