import Derived.Shelf.Strings.OnBuilder
import Derived.Test.YtjikkhbcbfpocaaGreatDoorFault
import Derived.Test.YtjikkhbcbfpocaaGreatDoorKids
import Derived.RangeFuncBound
import Derived.RangeFuncNested
import Derived.OwnWalkIn
import Derived.TacticsInMore
set_option maxRecDepth 100000
set_option maxHeartbeats 2000000
namespace Go.Proofs.YtjikkhbcbfpocaaGreatDoor
open Go.Shelf
def Tryz.lays156_ren:Go.Shelf.Ren:=⟨fun | 156=>114 | 165=>146 | 166=>147 | 169=>148 | 240=>172 | 241=>173 | 276=>184 | 277=>185 | n=>n,fun | 31=>106 | 9=>9 | 3=>3 | 4=>4 | 0=>0 | 20=>20 | 72=>227 | 76=>228 | 70=>225 | 37=>35 | 75=>41 | 127=>264 | 164=>201 | 5=>5 | 80=>129 | n=>n,fun | n=>n⟩
theorem Tryz.lays156:Go.Proofs.Lays.n156 Tryz.prog Tryz.lays156_ren:={
 mixed:=by kernel_rfl
 f156:=Tryz.func114.trans (congrArg some (by kernel_rfl))
 f165:=Tryz.func146.trans (congrArg some (by kernel_rfl))
 f166:=Tryz.func147.trans (congrArg some (by kernel_rfl))
 f169:=Tryz.func148.trans (congrArg some (by kernel_rfl))
 f240:=Tryz.func172.trans (congrArg some (by kernel_rfl))
 f241:=Tryz.func173.trans (congrArg some (by kernel_rfl))
 f276:=Tryz.func184.trans (congrArg some (by kernel_rfl))
 f277:=Tryz.func185.trans (congrArg some (by kernel_rfl))
 t0:=Tryz.underlying0
 a0:=Tryz.isAgg0
 z0:=Tryz.sizeOf0
 v0:=Tryz.zeroValue0
 t3:=Tryz.underlying3
 a3:=Tryz.isAgg3
 z3:=Tryz.sizeOf3
 v3:=Tryz.zeroValue3
 t4:=Tryz.underlying4
 a4:=Tryz.isAgg4
 z4:=Tryz.sizeOf4
 v4:=Tryz.zeroValue4
 t9:=Tryz.underlying9
 a9:=Tryz.isAgg9
 z9:=Tryz.sizeOf9
 v9:=Tryz.zeroValue9
 t20:=Tryz.underlying20
 a20:=Tryz.isAgg20
 z20:=Tryz.sizeOf20
 v20:=Tryz.zeroValue20
 t31:=Tryz.underlying106
 a31:=Tryz.isAgg106
 z31:=Tryz.sizeOf106
 v31:=Tryz.zeroValue106
 t37:=Tryz.underlying35
 a37:=Tryz.isAgg35
 z37:=Tryz.sizeOf35
 v37:=Tryz.zeroValue35
 t70:=Tryz.underlying225
 a70:=Tryz.isAgg225
 z70:=Tryz.sizeOf225
 v70:=Tryz.zeroValue225
 t72:=Tryz.underlying227
 a72:=Tryz.isAgg227
 z72:=Tryz.sizeOf227
 v72:=Tryz.zeroValue227
 t75:=Tryz.underlying41
 a75:=Tryz.isAgg41
 z75:=Tryz.sizeOf41
 v75:=Tryz.zeroValue41
 t76:=Tryz.underlying228
 a76:=Tryz.isAgg228
 z76:=Tryz.sizeOf228
 v76:=Tryz.zeroValue228
 t127:=Tryz.underlying264
 a127:=Tryz.isAgg264
 z127:=Tryz.sizeOf264
 v127:=Tryz.zeroValue264
 t164:=Tryz.underlying201
 a164:=Tryz.isAgg201
 z164:=Tryz.sizeOf201
 v164:=Tryz.zeroValue201 }
theorem Tryz.Builder_Extra_156:Builder.Extra Tryz.prog Tryz.lays156_ren:={
 sizeBuilder:=by kernel_rfl
 liesBuilder:=by kernel_rfl
 t5:=Tryz.underlying5
 a5:=Tryz.isAgg5
 z5:=Tryz.sizeOf5
 v5:=Tryz.zeroValue5
 infoByte:=by kernel_rfl
 cellsByte:=by kernel_rfl
 sizeByte:=by kernel_rfl
 neB5:=by decide }
open Go.RowKit in
theorem Tryz.strings_Join_none (a:Option Addr) (c:Nat) (sep:ByteArray) (w:World):
  Calls Tryz.prog 114 #[.slice a 0 c,.string sep] w fun e w'=>e=.returned (.string ⟨#[]⟩)∧w'=w:=Any.strings_Join_none Tryz.lays156 Tryz.Builder_Extra_156 a c sep w
open Go.RowKit in
theorem Tryz.strings_Join (bk o c:Nat) (xs:List ByteArray) (sep:ByteArray) (w:World) (jd:∀ (j:Nat) x,xs[j]?=some x→w.cell? ⟨bk,o+j,none⟩=some (.string x)) (hbk:bk<w.heap.size) (hN:xs.length≤140737488355328) (hcap:xs.length≤c) (hlen:(Lib.join (xs.map (·.data.toList)) sep.data.toList).length≤140737488355328):
  Calls Tryz.prog 114 #[.slice (some ⟨bk,o,none⟩) xs.length c,.string sep] w fun e w'=>e=.returned (.string ⟨(Lib.join (xs.map (·.data.toList)) sep.data.toList).toArray⟩)∧Below w.heap.size w w':=Any.strings_Join Tryz.lays156 Tryz.Builder_Extra_156 bk o c xs sep w jd hbk hN hcap hlen
end Go.Proofs.YtjikkhbcbfpocaaGreatDoor
namespace Go.Proofs.YtjikkhbcbfpocaaGreatDoor
open Go.RowKit
theorem et:∀ L:List By,Lib.join L [47]=aI L
 | []=>rfl
 | [x]=>Lib.join_one x [47]
 | x::y::t=>by
  have ih:=et (y::t)
  unfold Lib.join at ih ⊢
  rw [aI,← ih]
  simp [List.intercalate]
def ofB (l:By):ByteArray:=⟨l.toArray⟩
theorem ur (l:By):tl (ofB l)=l:=by simp [tl,ofB]
theorem uu (s:ByteArray):ofB (tl s)=s:=uv _ _ (ur _)
theorem rK (v:Value) (L:List ByteArray) (w:World) (hv:HasT w v L) (hn:L.length≤1048577) (hs:(aI (L.map tl)).length≤1048576):
  Calls Tryz.prog 114 #[v,.string ⟨#[47]⟩] w fun e w'=>e=.returned (.string (ofB (aI (L.map tl))))∧Below w.heap.size w w':=by
 rcases hv with ⟨rfl,rfl⟩ | ⟨a,cap,rfl,hc,hcell⟩
 ·exact (Tryz.strings_Join_none none 0 ⟨#[47]⟩ w).mono fun e w' h=>⟨h.1,by rw [h.2];exact Below.refl _ _⟩
 ·cases L with
  | nil=>exact (Tryz.strings_Join_none (some a) cap ⟨#[47]⟩ w).mono fun e w' h=>⟨h.1,by rw [h.2];exact Below.refl _ _⟩
  | cons x L=>
   have h0:=hcell 0 x rfl
   have hadd:a.add 0=a:=by simp [Addr.add]
   rw [hadd] at h0
   obtain ⟨bk,o,sp⟩:=a
   have hsp:sp=none:=by
    cases sp with
    | none=>rfl
    | some q=>simp only [World.cell?] at h0;split at h0<;>simp at h0
   subst hsp
   have hE:(fun s:ByteArray=>s.data.toList)=tl:=by funext s;rw [tl,ByteArray.toList_eq]
   have hlen:(Lib.join ((x::L).map (·.data.toList)) (ByteArray.data ⟨#[47]⟩).toList).length≤140737488355328:=by
    rw [hE]
    show (Lib.join _ [47]).length≤_
    rw [et];omega
   refine (Tryz.strings_Join bk o cap (x::L) ⟨#[47]⟩ w (fun j y hj=>?_) (World.block_lt_of_cell? w _ h0) (by omega) hc hlen).mono fun e w' h=>⟨?_,h.2⟩
   ·have:=hcell j y hj
    by_cases e:j=0
    ·subst e;rw [hadd] at this;exact this
    ·simpa [Addr.add,e] using this
   ·rw [h.1,hE]
    show Ending.returned (.string ⟨(Lib.join _ [47]).toArray⟩)=_
    rw [et];rfl
theorem bA (v:Value) (L:List ByteArray) (w:World) (hv:HasT w v L) (hn:L.length≤1048577) (hs:(aI (L.map tl)).length≤1048576):
  Calls Tryz.prog 78 #[v] w fun e w'=>e=.returned (.string (ofB (aI (L.map tl))))∧Below w.heap.size w w':=by
 have C:=rK v L w hv hn hs
 obtain ⟨ao,cap,rfl,_⟩:=hv.form
 clear hv hs
 generalize ofB (aI (L.map tl))=z at *
 go_enter Tryz.func78,Tryz.ntmps78
 go_wp2_with (go_at_call 114;refine C.mono ?_;rintro e w1 ⟨rfl,b1⟩)
 go_ret
 exact ⟨rfl,b1⟩
def wsum:List ByteArray→Nat
 | []=>0
 | s::L=>1+s.size+wsum L
theorem iw (a b:List ByteArray):wsum (a++b)=wsum a+wsum b:=by
 induction a with
 | nil=>simp [wsum]
 | cons x a ih=>simp only [List.cons_append,wsum,ih];omega
theorem tZ (a:List ByteArray):a.length≤wsum a:=by
 induction a with
 | nil=>simp
 | cons x a ih=>simp only [lC,wsum];omega
theorem cW:∀ a:List ByteArray,(aI (a.map tl)).length≤wsum a
 | []=>by simp [aI]
 | [x]=>by simp [aI,wsum,qp]
 | x::y::a=>by
  have ih:=cW (y::a)
  simp only [List.map_cons,aI,lA,lC,qp] at ih ⊢
  simp only [wsum] at ih ⊢
  omega
theorem ai:∀ (f:F) (prev:Option ByteArray) (L P:List ByteArray) (e:Int),jc f prev L=some (P,e)→wsum P≤wsum L+f.weight
 | .nil,_,_,_,_,h=>by cases h
 | .cons nm v m ks r,prev,L,P,e,h=>by
  rw [jc] at h
  have hw:wsum (L++[nm])=wsum L+(1+nm.size):=by rw [iw];simp [wsum]
  split at h
  ·injection h with h;injection h with h1;subst h1;rw [hw,F.weight];omega
  ·split at h
   ·injection h with h;injection h with h1;subst h1;rw [hw,F.weight];omega
   ·cases hx:jc ks none (L++[nm]) with
    | some x=>
     rw [hx] at h
     injection h with h
     subst h
     have:=ai ks none (L++[nm]) P e hx
     rw [hw] at this
     rw [F.weight];omega
    | none=>
     rw [hx] at h
     have:=ai r (some nm) L P e h
     rw [F.weight];omega
theorem ix {v:Vd} {m:Md} {ks:F} {P:List ByteArray} {e:Int} (h:qR v m ks []=some (P,e)):wsum P≤ks.weight:=by
 unfold qR at h
 split at h
 ·injection h with h;injection h with h1;subst h1;simp [wsum]
 ·have:=ai ks none [] P e h
  simpa [wsum] using this
theorem F.ok_of_weight:∀ f:F,f.weight≤9223372036854775807→f.ok
 | .nil,_=>trivial
 | .cons nm v m ks r,h=>by
  simp only [F.weight] at h
  have h1:=F.size_le_weight ks
  have h2:=F.len_le_size ks
  exact ⟨by omega,by omega,F.ok_of_weight ks (by omega),F.ok_of_weight r (by omega)⟩
theorem F.okL_of_weight (f:F) (h:f.weight≤9223372036854775807):f.okL:=Nat.le_trans (F.size_le_weight f) h
def xU:Option (List ByteArray × Int)→List ByteArray
 | none=>[]
 | some (P,_)=>P
def vo:Option (List ByteArray × Int)→Int
 | none=>0
 | some (_,e)=>e
theorem eW.both {w:World} {u:Value} {er:Int} {r:Option (List ByteArray × Int)} (h:eW w u er r):HasT w u (xU r)∧er=vo r:=by
 cases r with
 | none=>exact ⟨.inl ⟨h.2,rfl⟩,h.1⟩
 | some x=>exact ⟨h.2.2,h.1⟩
theorem G.of_grown {w w':World} (h:w.grownBy w' none):G w w':=⟨h.os,h.tape,h.output,h.size,fun k hk=>h.block k hk (by simp)⟩
def mU (v:Vd) (m:Md) (ks:F):ByteArray:=ofB (aI ((xU (qR v m ks [])).map tl))
def qL (v:Vd) (m:Md) (ks:F):Int:=vo (qR v m ks [])
theorem nW (v:Vd) (m:Md) (ks:F):wsum (xU (qR v m ks []))≤ks.weight:=by
 cases h:qR v m ks [] with
 | none=>simp [xU,wsum]
 | some x=>exact ix (e:=x.2) h
theorem nX (c:Array Value) (nm:ByteArray) (v:Vd) (m:Md) (ks:F) (w:World) (hN:HasN w c nm v m ks) (hw:ks.weight≤100000):
  Calls Tryz.prog 50 #[.agg c] w fun e w'=>e=.returned (.tuple #[.string (mU v m ks),.int .i64 (qL v m ks)])∧G w w':=by
 obtain ⟨kv,hc,hS⟩:=hN
 have hB:G w (w.alloc (.cells c 30)):=G.alloc _ _
 have hl:=jW w c 30
 rw [hc] at hl
 have C1:=pE (w.alloc (.cells (nc nm v m kv) 30)) (ks.size+1) ks (Nat.lt_succ_self _) w.heap.size 0 nm v m kv hl (by rw [← hc];exact hS.below hB) (F.okL_of_weight _ (by omega)) (F.ok_of_weight _ (by omega)) (w.alloc (.cells (nc nm v m kv) 30)) (.slice none 0 0) [] (Below.refl _ _) (jz.nil _ _) (by simp)
 rw [← hc] at C1
 have HG:Hid (G w (w.alloc (.cells c 30))):=hB
 have hws:=nW v m ks
 have C2:Hid (∀ (W:World) (u:Value),HasT W u (xU (qR v m ks []))→Calls Tryz.prog 78 #[u] W fun e w'=>e=.returned (.string (mU v m ks))∧G W w'):=fun W u h=>bA u _ W h (by have:=tZ (xU (qR v m ks []));omega) (by have:=cW (xU (qR v m ks []));omega)
 have HE:Hid (vo (qR v m ks [])=qL v m ks):=rfl
 generalize mU v m ks=cp at *
 generalize qL v m ks=ce at *
 clear hl hc hS hB hw hws
 go_enter Tryz.func50,Tryz.ntmps50
 go_upto_region 1 with fail
 generalize w.alloc (.cells c 30)=w1 at *
 generalize w.heap.size=H at *
 go_wp2_with (first
  | (go_at_call 77;refine C1.mono ?_;rintro e w2 ⟨u,er,rfl,hg2,_,hres⟩;obtain ⟨hT,her⟩:=hres.both;rw [HE.o] at her;subst her;have CJ:=C2.o w2 u hT;have HG2:Hid (G w w2):=HG.o.trans (G.of_grown hg2);obtain ⟨au,cu,hu,_⟩:=hT.form;subst hu;clear C1 C2 hT hg2 hres)
  | (go_at_call 78;refine CJ.mono ?_;rintro e w3 ⟨rfl,g3⟩))
 go_ret2
 exact ⟨rfl,HG2.o.trans g3⟩
theorem jF {ops:Array Oper} {rest:List Oper} {o:Oper} {a:Act} {w:World} {Q:Exit→Act→World→Prop} (v:Value) (w':World)
  (he:(execOp a.eval o).run Tryz.prog w=.ok (.value v) w') (h:wpList Tryz.prog ops Q rest (a.put o.dst v) w') (hw:Region.wanted o (yielded ops a.tmps)=true:=by kernel_rfl):wpList Tryz.prog ops Q (o::rest) a w:=by
 refine wpList_step fun K hK=>?_
 rw [if_pos hw]
 unfold Oper.wp
 rw [he,Oper.upon_value]
 exact hK _ _ h
theorem jC {ops:Array Oper} {rest:List Oper} {o:Oper} {a:Act} {w:World} {Q:Exit→Act→World→Prop} (w':World)
  (he:(execOp a.eval o).run Tryz.prog w=.ok .skip w') (h:wpList Tryz.prog ops Q rest (a.put o.dst undef) w') (hw:Region.wanted o (yielded ops a.tmps)=true:=by kernel_rfl):wpList Tryz.prog ops Q (o::rest) a w:=by
 refine wpList_step fun K hK=>?_
 rw [if_pos hw]
 unfold Oper.wp
 rw [he,Oper.upon_skip]
 exact hK _ _ h
def Vd.zero:Vd:=⟨0,0,0,jw,by simp [jw]⟩
def z30:Array Value:=nc ⟨#[]⟩ Vd.zero Md.zero (.slice none 0 0)
theorem xZ:(Tryz.prog.info? 30).bind (·.zero)=some (.agg z30):=by kernel_rfl
theorem jN:z30.size=41:=jO ..
theorem dV (w:World):(zeroValue 30).run Tryz.prog w=.ok (.agg z30) w:=by
 have h:=xZ
 cases hq:Tryz.prog.info? 30 with
 | none=>rw [hq] at h;cases h
 | some i=>
  rw [hq] at h
  simp only [Option.bind_some] at h
  simp [zeroValue,typeInfo,hq,h]
theorem zO {o:Oper} {a:Act} (ho:o.op=.alloc 30) (w:World):(execOp a.eval o).run Tryz.prog w=.ok (.value (.pointer (some ⟨w.heap.size,0,none⟩))) (w.alloc (.cells z30 30)):=by
 unfold execOp
 simp only [ho,Instr.alloc,Sem.run_bind,dV,Result.andThen_ok]
 simp [newVar,newRow,newObj,Value.cells]
 rfl
def Var (w:World) (g:Nat) (c:Array Value):Prop:=w.heap[g]?=some (.cells c 30 (0,0))
theorem Var.lies {w:World} {g:Nat} {c:Array Value} (h:Var w g c):Lies w g 0 c:=fun j u hj=>by
 have h':w.heap[g]?=some (.cells c 30 (0,0)):=h
 simp only [World.cell?,h',Nat.zero_add]
 exact hj
theorem Var.lt {w:World} {g:Nat} {c:Array Value} (h:Var w g c):g<w.heap.size:=(gS h)
theorem Var.new (w:World) (c:Array Value):Var (w.alloc (.cells c 30)) w.heap.size c:=World.alloc_heap_new w _
theorem Var.grow {w w':World} {g:Nat} {c:Array Value} (h:Var w g c) (hg:G w w'):Var w' g c:=(Below.block hg g h.lt).trans h
theorem jU {o:Oper} {a:Act} (x y:Operand) (ho:o.op=.store 30 x y) (g:Nat) (c old:Array Value) (hx:a.eval x=.pointer (some ⟨g,0,none⟩)) (hy:a.eval y=.agg c) (w:World) (hg:Var w g old)
  (hs:c.size=41) (hs':old.size=41) (h1:c.all (·.oneCell')=true):(execOp a.eval o).run Tryz.prog w=.ok .skip (w.setRow g c):=by
 unfold execOp
 simp only [ho,hx,hy,Instr.storeAt,Instr.sureAddr,Sem.run_bind,Sem.run_pure,Result.andThen_ok,run_storeVar_row (P:=Tryz.prog) w g 30 30 old c hg (by rw [kL,hs]) (by rw [hs,hs']) h1]
theorem Var.set {w:World} {g:Nat} {c old:Array Value} (h:Var w g old):Var (w.setRow g c) g c:=setRow_heap w g old c 30 _ h
theorem But.setRow {K:Nat} {a b:World} (h:But K a b) (cs:Array Value):But K a (b.setRow K cs):=
 ⟨h.os,h.tape,h.output,by simpa using h.size,fun j hj hn=>(setRow_other b K j cs (fun e=>hn e)).trans (h.block j hj hn)⟩
theorem qz (nm:ByteArray) (v:Vd) (m:Md) (kv:Value) (h:kv.oneCell'=true):(nc nm v m kv).all (·.oneCell')=true:=by
 rw [Array.all_eq_true_iff_forall_mem]
 intro x hx
 simp only [nc,vx,mx,List.mem_toArray,List.mem_cons,List.mem_append,List.mem_map,List.not_mem_nil,or_false] at hx
 rcases hx with rfl | (rfl | rfl | rfl | ⟨b,_,rfl⟩) | (rfl | rfl | rfl | rfl) | rfl<;>first | rfl | exact h
theorem aR (w:World) (c:Array Value):G w ((w.alloc (.cells z30 30)).setRow w.heap.size c)∧Var ((w.alloc (.cells z30 30)).setRow w.heap.size c) w.heap.size c∧((w.alloc (.cells z30 30)).setRow w.heap.size c).heap.size=w.heap.size+1:=by
 have h:=(But.setRow (K:=w.heap.size) ((But.refl _ w).alloc (.cells z30 30)) c)
 exact ⟨h.below (Nat.le_refl _) (Nat.le_refl _),(Var.new w z30).set,by simp⟩
def kR (w:World) (P:Nat→Prop):F→Nat→Nat→Prop
 | .nil,_,_=>True
 | .cons nm v m kids rest,g,o=>(∃ a cap,Lies w g o (nc nm v m (.slice a kids.len cap))∧(kids.len≤cap∧(kids=.nil∨∃ g' o',a=some ⟨g',o',none⟩∧P g'∧kR w P kids g' o')))∧kR w P rest g (o+41)
def xA (w:World) (P:Nat→Prop) (v:Value) (f:F):Prop:=∃ a cap,v=.slice a f.len cap∧f.len≤cap∧(f=.nil∨∃ g o,a=some ⟨g,o,none⟩∧P g∧kR w P f g o)
def zL (w:World) (P:Nat→Prop) (c:Array Value) (nm:ByteArray) (v:Vd) (m:Md) (ks:F):Prop:=∃ kv,c=nc nm v m kv∧xA w P kv ks
theorem kR.has {w:World} {P:Nat→Prop}:∀ {f:F} {g o:Nat},kR w P f g o→HasR w f g o
 | .nil,_,_,_=>trivial
 | .cons _ _ _ _ _,_,_,⟨⟨a,cap,hc,hl,hk⟩,hr⟩=>⟨⟨a,cap,hc,hl,hk.imp id fun ⟨g',o',ha,_,h⟩=>⟨g',o',ha,kR.has h⟩⟩,kR.has hr⟩
theorem xA.has {w:World} {P:Nat→Prop} {v:Value} {f:F} (h:xA w P v f):HasS w v f:=by
 obtain ⟨a,cap,hv,hl,h⟩:=h
 exact ⟨a,cap,hv,hl,h.imp id fun ⟨g,o,ha,_,h⟩=>⟨g,o,ha,h.has⟩⟩
theorem zL.has {w:World} {P:Nat→Prop} {c:Array Value} {nm:ByteArray} {v:Vd} {m:Md} {ks:F} (h:zL w P c nm v m ks):HasN w c nm v m ks:=by
 obtain ⟨kv,hc,h⟩:=h
 exact ⟨kv,hc,h.has⟩
theorem Lies.same {w w':World} {g o:Nat} {c:Array Value} (h:Lies w g o c) (hb:w'.heap[g]?=w.heap[g]?):Lies w' g o c:=fun j u hj=>(World.cell?_of_block (w:=w) (a:=⟨g,o+j,none⟩) hb).trans (h j u hj)
theorem kR.keep {w w':World} {P P':Nat→Prop} (hP:∀ b,P b→w'.heap[b]?=w.heap[b]?∧P' b):∀ {f:F} {g o:Nat},kR w P f g o→w'.heap[g]?=w.heap[g]?→kR w' P' f g o
 | .nil,_,_,_,_=>trivial
 | .cons _ _ _ _ _,_,_,⟨⟨a,cap,hc,hl,hk⟩,hr⟩,hg=>⟨⟨a,cap,hc.same hg,hl,hk.imp id fun ⟨g',o',ha,hp,h⟩=>⟨g',o',ha,(hP _ hp).2,kR.keep hP h (hP _ hp).1⟩⟩,kR.keep hP hr hg⟩
theorem xA.keep {w w':World} {P P':Nat→Prop} {v:Value} {f:F} (h:xA w P v f) (hP:∀ b,P b→w'.heap[b]?=w.heap[b]?∧P' b):xA w' P' v f:=by
 obtain ⟨a,cap,hv,hl,h⟩:=h
 exact ⟨a,cap,hv,hl,h.imp id fun ⟨g,o,ha,hp,h⟩=>⟨g,o,ha,(hP _ hp).2,h.keep hP (hP _ hp).1⟩⟩
def ja (w:World) (P:Nat→Prop):F→List Value→Prop
 | .nil,xs=>xs=[]
 | .cons nm v m ks r,xs=>∃ kv xs',xs=(nc nm v m kv).toList++xs'∧xA w P kv ks∧ja w P r xs'
theorem ja.len {w:World} {P:Nat→Prop}:∀ {f:F} {xs:List Value},ja w P f xs→xs.length=f.len*41
 | .nil,_,h=>by rw [h];simp [F.len]
 | .cons nm v m ks r,xs,⟨kv,xs',h,_,hr⟩=>by rw [h,lA,ja.len hr,F.len];simp [jO];omega
theorem ja.snoc {w:World} {P:Nat→Prop} {nm:ByteArray} {v:Vd} {m:Md} {kv:Value} {ks:F} (hk:xA w P kv ks):∀ {f:F} {xs:List Value},ja w P f xs→ja w P (f.app (.cons nm v m ks .nil)) (xs++(nc nm v m kv).toList)
 | .nil,xs,h=>⟨kv,[],by rw [h];simp,hk,rfl⟩
 | .cons _ _ _ _ r,xs,⟨kv',xs',h,hs,hr⟩=>⟨kv',xs'++(nc nm v m kv).toList,by rw [h,List.append_assoc],hs,ja.snoc hk hr⟩
theorem ja.keep {w w':World} {P P':Nat→Prop} (hP:∀ b,P b→w'.heap[b]?=w.heap[b]?∧P' b):∀ {f:F} {xs:List Value},ja w P f xs→ja w' P' f xs
 | .nil,_,h=>h
 | .cons _ _ _ _ _,_,⟨kv,xs',h,hs,hr⟩=>⟨kv,xs',h,hs.keep hP,ja.keep hP hr⟩
theorem ja.row {w:World} {P:Nat→Prop} {g:Nat}:∀ {f:F} {xs:List Value} {o:Nat},ja w P f xs→(∀ j u,xs[j]?=some u→w.cell? ⟨g,o+j,none⟩=some u)→kR w P f g o
 | .nil,_,_,_,_=>trivial
 | .cons nm v m ks r,xs,o,⟨kv,xs',h,hs,hr⟩,hc=>by
  subst h
  obtain ⟨a,cap,rfl,hl,hk⟩:=hs
  have h41:(nc nm v m (.slice a ks.len cap)).toList.length=41:=by simp [jO]
  refine ⟨⟨a,cap,fun j u hj=>hc j u ?_,hl,hk⟩,ja.row hr fun j u hj=>?_⟩
  ·have hlt:=(gS hj)
   rw [jO] at hlt
   rw [List.getElem?_append_left (by omega)]
   simpa using hj
  ·have:=hc (41+j) u (by rw [List.getElem?_append_right (by omega),h41];simpa using hj)
   rw [show o+41+j=o+(41+j) by omega]
   exact this
theorem ja.slice {w:World} {P:Nat→Prop} {lo:Nat} {f:F} {xs:List Value} {v:Value} (h:ja w P f xs) (ho:w.ownsRow lo 30 41 v f.len xs) (hP:∀ g,v.ownBlock=some g→P g):xA w P v f:=by
 have h0:=ho
 obtain ⟨_,q | ⟨g,cap,cur,rfl,hb,hh,hn,hm,hs,ht⟩⟩:=ho
 ·obtain ⟨rfl,hl⟩:=q
  have:f=.nil:=by
   cases f with
   | nil=>rfl
   | cons=>simp [F.len] at hl
  subst this
  exact ⟨none,0,rfl,Nat.le_refl _,.inl rfl⟩
 ·refine ⟨_,cap,rfl,hn,.inr ⟨g,0,rfl,hP g rfl,h.row fun j u hj=>?_⟩⟩
  have:=World.ownsRow.cells h0 (g:=g) rfl j u hj
  rwa [show ((⟨g,0,none⟩:Addr).add j)=⟨g,0+j,none⟩ from Addr.add_mid g 0 j] at this
theorem gm:(Tryz.prog.info? 30).map (fun i=>(i.zero,i.size,i.bytes))=some (some (.agg z30),41,128):=by kernel_rfl
theorem lF {o:Oper} {a:Act} (x:Operand) (ho:o.op=.buildSlice 28 1 #[(0,x)]) (c:Array Value) (hx:a.eval x=.agg c) (hs:c.size=41) (w:World):
  (execOp a.eval o).run Tryz.prog w=.ok (.value (.slice (some ⟨w.heap.size,0,none⟩) 1 1)) (w.alloc (.cells c 30)):=by
 obtain ⟨i0,hi,hz0,hz1,hz2⟩:=info_parts gm
 have hf:Instr.fill (fun i=>some (i*41,41)) ((Array.range (1*41)).map (z30[·%z30.size]!)) [(0,.agg c)]=some c:=by
  obtain ⟨z,hz,hzl⟩:∃ z:List Value,((Array.range (1*41)).map (z30[·%z30.size]!))=z.toArray∧z.length=41:=⟨((Array.range (1*41)).map (z30[·%z30.size]!)).toList,Array.toArray_toList.symm,by simp⟩
  rw [hz,qy _ z 0 0 41 _ c.toList _ rfl (by simp [Value.cells]) (by simpa using hs) (by omega),Instr.fill]
  have hd:z.drop 41=[]:=List.drop_of_length_le (by omega)
  simp [over,hs,hd]
 have hsz:(sizeOf 30).run Tryz.prog w=.ok 41 w:=by simp [sizeOf,typeInfo,hi,hz1]
 have hzv:=dV w
 generalize z30=zz at hf hzv
 have hb:(Instr.buildSlice 28 1 #[(0,.agg c)]).run Tryz.prog w=.ok (.slice (some ⟨w.heap.size,0,none⟩) 1 1) (w.alloc (.cells c 30)):=by
  unfold Instr.buildSlice
  simp only [Sem.run_bind,run_underlying Tryz.underlying28,Result.andThen_ok,hsz]
  have h1:¬ (1*41 > 2 ^ 24):=by omega
  have h2:¬ (1*41=0):=by omega
  simp only [h1,h2,if_false,Sem.run_bind,Sem.run_pure,Result.andThen_ok,hzv,Value.cells,hf]
  rfl
 unfold execOp
 simp only [ho]
 have hmap:(#[(0,x)].map fun (p:Nat × Operand)=>match p with | (i,x)=>(i,a.eval x))=#[(0,.agg c)]:=by simp [hx]
 rw [hmap]
 simp only [Sem.run_bind,hb,Result.andThen_ok,Sem.run_pure]
theorem cg (nm:ByteArray) (v:Vd) (m:Md) (kv kv':Value):(nc nm v m kv).setIfInBounds 40 kv'=nc nm v m kv':=by
 simp only [nc,List.setIfInBounds_toArray,List.set_cons_succ]
 rw [List.set_append_right _ _ (by simp [je]),je,List.set_append_right _ _ (by simp [qh])]
 simp [qh]
theorem rT (nm nm':ByteArray) (v:Vd) (m:Md) (kv:Value):(nc nm v m kv).setIfInBounds 0 (.string nm')=nc nm' v m kv:=by
 simp [nc]
def UO (W:World) (b:Nat):Prop:=∃ c t,W.heap[b]?=some (.cells c t (0,0))
theorem UO.lt {W:World} {b:Nat} (h:UO W b):b<W.heap.size:=by
 obtain ⟨c,t,hc⟩:=h
 exact (gS hc)
theorem UO.same {W W':World} {b:Nat} (h:UO W b) (e:W'.heap[b]?=W.heap[b]?):UO W' b:=by
 obtain ⟨c,t,hc⟩:=h
 exact ⟨c,t,e.trans hc⟩
def New (w w':World) (b:Nat):Prop:=w.heap.size≤b∧UO w' b
def CI (w:World) (B:Nat) (c:Array Value) (ks:F) (wr:World) (k:Nat) (u:Value):Prop:=
 G w wr∧Var wr B c∧Var wr (B+1) z30∧B+2≤wr.heap.size∧∃ (xs:List Value) (T:Nat→Prop),wr.ownsRow (B+2) 30 41 u k xs∧ja wr T (ks.take k) xs∧∀ b,T b→B+2≤b∧UO wr b∧some b≠u.ownBlock
theorem CI.step {w:World} {B:Nat} {c:Array Value} {ks ks1 r:F} {wr w2 w4:World} {k:Nat} {u u':Value} {nm:ByteArray} {v:Vd} {m:Md} {c1:Array Value} {xs:List Value} (h:G w wr∧Var wr B c∧Var wr (B+1) z30∧B+2≤wr.heap.size) {T:Nat→Prop}
  (hrow:wr.ownsRow (B+2) 30 41 u k xs) (hcs:ja wr T (ks.take k) xs) (hT:∀ b,T b→B+2≤b∧UO wr b∧some b≠u.ownBlock) (hd:ks.drop k=.cons nm v m ks1 r)
  (hn:zL w2 (New wr w2) c1 nm v m ks1) (hg:G wr w2) (ho:w4.ownsRow (B+2) 30 41 u' (k+1) (xs++c1.toList)) (hgr:(w2.alloc (.cells c1 30)).grownBy w4 u.ownBlock)
  (hat:u'.ownBlock=u.ownBlock∨u'.ownBlock=some (w2.alloc (.cells c1 30)).heap.size) (hwB:w.heap.size=B):CI w B c ks w4 (k+1) u':=by
 have hlt:=World.ownsRow.lt hrow
 have hs1:=hg.size
 have hs2:=hgr.size
 have hsw:=h.1.size
 simp only [World.size_alloc] at hs2 hat
 have hsame:∀ b,b<w2.heap.size→some b≠u.ownBlock→w4.heap[b]?=w2.heap[b]?:=fun b hb hne=>(hgr.block b (by simp;omega) hne).trans (Below.heap_alloc w2 _ b hb)
 have hbu:∀ g,u.ownBlock=some g→B+2≤g:=fun g hg=>(hlt g hg).1
 have hne:∀ b,b<B+2→some b≠u.ownBlock:=fun b hb e=>by have:=hbu b e.symm;omega
 obtain ⟨kv,rfl,hk⟩:=hn
 refine ⟨?_,(hsame B (by omega) (hne B (by omega))).trans (h.2.1.grow hg),(hsame (B+1) (by omega) (hne _ (by omega))).trans (h.2.2.1.grow hg),by omega,xs++(nc nm v m kv).toList,fun b=>T b∨New wr w2 b,ho,?_,?_⟩
 ·have h1:=(h.1.trans hg).trans (G.alloc w2 (.cells (nc nm v m kv) 30))
  exact Below.trans (B:=w.heap.size) h1 ((Below.refl _ _).grown hgr (by simp;omega) fun g hg=>by have:=hbu g hg;omega)
 ·rw [F.xh ks k nm v m ks1 r hd]
  refine ja.snoc (hk.keep fun b hb=>⟨?_,.inr hb⟩) (hcs.keep fun b hb=>⟨?_,.inl hb⟩)
  ·exact hsame b hb.2.lt fun e=>by have:=(hlt b e.symm).2;have:=hb.1;omega
  ·have:=hT b hb
   have l:=this.2.1.lt
   rw [hsame b (by omega) this.2.2]
   exact Below.block hg b l
 ·rintro b (hb | hb)
  ·have:=hT b hb
   have l:=this.2.1.lt
   refine ⟨this.1,this.2.1.same ((hsame b (by omega) this.2.2).trans (Below.block hg b l)),?_⟩
   rcases hat with e | e
   ·rw [e];exact this.2.2
   ·rw [e];intro q;injection q with q;omega
  ·have h1:=hb.1
   have h2:=hb.2.lt
   refine ⟨by omega,hb.2.same (hsame b h2 fun q=>by have:=(hlt b q.symm).2;omega),?_⟩
   rcases hat with e | e
   ·rw [e];intro q;have:=(hlt b q.symm).2;omega
   ·rw [e];intro q;injection q with q;omega
theorem zj {w:World} {g:Nat} {c:Array Value} (h:Var w g c) (j:Nat):w.frozen? ⟨g,j,none⟩=false:=by
 have h':w.heap[g]?=some (.cells c 30 (0,0)):=h
 simp [World.frozen?,h']
theorem bZ {w:World} {g:Nat} {c:Array Value} (h:Var w g c) (j:Nat) (hj:j<c.size):∃ u,w.cell? ⟨g,j,none⟩=some u:=⟨c[j],jB h.lies j _ (by simp [hj])⟩
theorem Var.setCell {w:World} {g:Nat} {c:Array Value} (h:Var w g c) (j:Nat) (u:Value):Var (w.setCell ⟨g,j,none⟩ u) g (c.setIfInBounds j u):=by
 have h':w.heap[g]?=some (.cells c 30 (0,0)):=h
 unfold Var World.setCell
 simp only []
 rw [Array.getElem?_modify]
 simp [h']
theorem yC {w w':World} {lo e size n:Nat} {v:Value} {xs:List Value} (h:w.ownsRow lo e size v n xs) (hg:G w w'):w'.ownsRow lo e size v n xs:=by
 have hlt:=World.ownsRow.lt h
 obtain ⟨h1,h | ⟨g,cap,cur,hv,hb,hh,hr⟩⟩:=h
 ·exact ⟨h1,.inl h⟩
 ·refine ⟨h1,.inr ⟨g,cap,cur,hv,hb,?_,hr⟩⟩
  rw [Below.block hg g (hlt g (by rw [hv];rfl)).2]
  exact hh
open Go.Shelf
section
variable {ops:Array Oper} {Q:Exit→Act→World→Prop} {md:Region.Mode} {n:Nat}
theorem cC {id:Nat} {a:Act} {w:World} (h:wpAnyIn Fence.wide n Tryz.prog .any ops Q ops.size (Array.replicate ops.size false) a w.drew):(Code.region id ops true).wpIn Fence.wide n Tryz.prog Q a w:=
 wpIn_region_any (by kernel_rfl) h
theorem a06 (i d:Nat) (v:Value) {oi:Oper} {fuel:Nat} {listed l':Array Bool} {a a':Act} {w:World} (hy:∀ w,(execOp a.eval oi).run Tryz.prog w=.ok (.value v) w) (h:wpAnyIn Fence.wide n Tryz.prog md ops Q fuel l' a' w) (hi:ops[i]?=some oi:=by exact rfl) (hd:oi.dst=some d:=by exact rfl) (hs:Region.noSelect ops=true:=by kernel_rfl) (hf:Region.free md ops listed i=true:=by kernel_rfl) (hr:(Region.ready md ops listed).contains i=true:=by kernel_rfl)
  (hQ:∀ c a w,Q (.panic c) (a.put (some d) v) w→Q (.panic c) a w:=by exact fun _ _ _ h=>h) (hw:Region.wanted oi (yielded ops a.tmps)=true:=by kernel_rfl) (ho:∀ w,oi.about Tryz.prog w a.eval=none:=by exact fun _=>rfl)
  (hl:listed.setIfInBounds i true=l':=by (first | (simp only [Act.put,sA,sB,sC]<;>exact rfl) | exact rfl)) (hp:a.put (some d) v=a':=by (first | (simp only [Act.put,sA,sB,sC]<;>exact rfl) | exact rfl)):wpAnyIn Fence.wide n Tryz.prog md ops Q (fuel+1) listed a w:=by
 subst hl hp
 exact wpAnyIn_take rfl hi hs hf hr (by rw [hd];exact hQ) ⟨.inl ⟨hw,hy⟩,ho⟩ (by rw [hd];exact h)
theorem qB (i d:Nat) {oi:Oper} {fuel:Nat} {listed l':Array Bool} {a a':Act} {w:World} (h:wpAnyIn Fence.wide n Tryz.prog md ops Q fuel l' a' w) (hi:ops[i]?=some oi:=by exact rfl) (hd:oi.dst=some d:=by exact rfl) (hs:Region.noSelect ops=true:=by kernel_rfl) (hf:Region.free md ops listed i=true:=by kernel_rfl) (hr:(Region.ready md ops listed).contains i=true:=by kernel_rfl)
  (hQ:∀ c a w,Q (.panic c) (a.put (some d) undef) w→Q (.panic c) a w:=by exact fun _ _ _ h=>h) (hw:Region.wanted oi (yielded ops a.tmps)=false:=by kernel_rfl) (ho:∀ w,oi.about Tryz.prog w a.eval=none:=by exact fun _=>rfl)
  (hl:listed.setIfInBounds i true=l':=by (first | (simp only [Act.put,sA,sB,sC]<;>exact rfl) | exact rfl)) (hp:a.put (some d) undef=a':=by (first | (simp only [Act.put,sA,sB,sC]<;>exact rfl) | exact rfl)):wpAnyIn Fence.wide n Tryz.prog md ops Q (fuel+1) listed a w:=by
 subst hl hp
 exact wpAnyIn_take rfl hi hs hf hr (by rw [hd];exact hQ) ⟨.inr ⟨hw,rfl⟩,ho⟩ (by rw [hd];exact h)
theorem gI (i d:Nat) (v:Value) {oi:Oper} {fuel:Nat} {listed l':Array Bool} {a a':Act} {w:World} (h:wpAnyIn Fence.wide n Tryz.prog md ops Q fuel l' a' w) (hi:ops[i]?=some oi:=by exact rfl) (hd:oi.dst=some d:=by exact rfl) (hy:∀ w,(execOp a.eval oi).run Tryz.prog w=.ok (.value v) w:=by intro _;go_simp) (hs:Region.noSelect ops=true:=by kernel_rfl) (hf:Region.free md ops listed i=true:=by kernel_rfl) (hr:(Region.ready md ops listed).contains i=true:=by kernel_rfl)
  (hQ:∀ c a w,Q (.panic c) (a.put (some d) v) w→Q (.panic c) a w:=by exact fun _ _ _ h=>h) (hw:Region.wanted oi (yielded ops a.tmps)=true:=by kernel_rfl) (ho:∀ w,oi.about Tryz.prog w a.eval=none:=by exact fun _=>rfl)
  (hl:listed.setIfInBounds i true=l':=by (first | (simp only [Act.put,sA,sB,sC]<;>exact rfl) | exact rfl)) (hp:a.put (some d) v=a':=by (first | (simp only [Act.put,sA,sB,sC]<;>exact rfl) | exact rfl)):wpAnyIn Fence.wide n Tryz.prog md ops Q (fuel+1) listed a w:=a06 i d v hy h hi hd hs hf hr hQ hw ho hl hp
theorem fI (i d:Nat) (v:Value) {oi:Oper} {fuel:Nat} {listed l':Array Bool} {a a':Act} {w:World} (h:wpAnyIn Fence.wide n Tryz.prog md ops Q fuel l' a' w) (hi:ops[i]?=some oi:=by exact rfl) (hd:oi.dst=some d:=by exact rfl) (hy:∀ w,(execOp a.eval oi).run Tryz.prog w=.ok (.value v) w:=by exact fun _=>rfl) (hs:Region.noSelect ops=true:=by kernel_rfl) (hf:Region.free md ops listed i=true:=by kernel_rfl) (hr:(Region.ready md ops listed).contains i=true:=by kernel_rfl)
  (hQ:∀ c a w,Q (.panic c) (a.put (some d) v) w→Q (.panic c) a w:=by exact fun _ _ _ h=>h) (hw:Region.wanted oi (yielded ops a.tmps)=true:=by kernel_rfl) (ho:∀ w,oi.about Tryz.prog w a.eval=none:=by exact fun _=>rfl)
  (hl:listed.setIfInBounds i true=l':=by (first | (simp only [Act.put,sA,sB,sC]<;>exact rfl) | exact rfl)) (hp:a.put (some d) v=a':=by (first | (simp only [Act.put,sA,sB,sC]<;>exact rfl) | exact rfl)):wpAnyIn Fence.wide n Tryz.prog md ops Q (fuel+1) listed a w:=a06 i d v hy h hi hd hs hf hr hQ hw ho hl hp
theorem qS (i d:Nat) (v:Value) (w':World) {oi:Oper} {fuel:Nat} {listed:Array Bool} {a:Act} {w:World} {rs:List Nat} (hi:ops[i]?=some oi) (hd:oi.dst=some d) (hw:Region.wanted oi (yielded ops a.tmps)=true)
  (hx:(execOp a.eval oi).run Tryz.prog w=.ok (.value v) w') (h:wpAnyIn Fence.wide n Tryz.prog md ops Q fuel (listed.setIfInBounds i true) (a.put (some d) v) w')
  (hs:AllReadyIn Fence.wide n Tryz.prog md ops Q fuel listed a w rs):AllReadyIn Fence.wide n Tryz.prog md ops Q fuel listed a w (i::rs):=by
 refine AllReadyIn.cons hi (fun K hK=>?_) hs
 rw [if_pos hw]
 refine ⟨fun _ _=>trivial,?_⟩
 rw [show (Fence.wide).round=none from rfl,Oper.semAt_none,hx,Oper.uponIn_value,hd]
 exact hK _ _ h
theorem yL (i d:Nat) {oi:Oper} {fuel:Nat} {listed:Array Bool} {a:Act} {w:World} {rs:List Nat} (hi:ops[i]?=some oi) (hd:oi.dst=some d) (hw:Region.wanted oi (yielded ops a.tmps)=false)
  (h:wpAnyIn Fence.wide n Tryz.prog md ops Q fuel (listed.setIfInBounds i true) (a.put (some d) undef) w)
  (hs:AllReadyIn Fence.wide n Tryz.prog md ops Q fuel listed a w rs):AllReadyIn Fence.wide n Tryz.prog md ops Q fuel listed a w (i::rs):=by
 refine AllReadyIn.cons hi (fun K hK=>?_) hs
 rw [if_neg (by rw [hw];simp),hd]
 exact ⟨fun _ _=>trivial,hK _ _ h⟩
theorem vO (i d:Nat) (f:FuncId) (args:Array Value) {oi:Oper} {fuel:Nat} {listed:Array Bool} {a:Act} {w:World} {rs:List Nat} (hi:ops[i]?=some oi) (hd:oi.dst=some d) (hw:Region.wanted oi (yielded ops a.tmps)=true)
  (hx:(execOp a.eval oi).run Tryz.prog w=.ok (.enter f args) w) (hc:CallsIn Fence.wide (n-1) Tryz.prog f args w fun e w'=>∃ v,e=.returned v∧wpAnyIn Fence.wide n Tryz.prog md ops Q fuel (listed.setIfInBounds i true) (a.put (some d) v) w')
  (hs:AllReadyIn Fence.wide n Tryz.prog md ops Q fuel listed a w rs):AllReadyIn Fence.wide n Tryz.prog md ops Q fuel listed a w (i::rs):=by
 refine AllReadyIn.cons hi (fun K hK=>?_) hs
 rw [if_pos hw]
 refine ⟨fun _ _=>trivial,?_⟩
 rw [show (Fence.wide).round=none from rfl,Oper.semAt_none,hx,Oper.uponIn_enter,hd]
 refine ⟨fun h=>(by cases h),hc.mono ?_⟩
 rintro e w' ⟨v,rfl,h⟩
 exact hK _ _ h
theorem ug (i d l:Nat) {oi:Oper} {fuel:Nat} {listed:Array Bool} {a:Act} {w:World} {rs:List Nat} (f:FuncId) (tmps:Array Value) (assign body:Code) (hi:ops[i]?=some oi) (hd:oi.dst=some d) (hw:Region.wanted oi (yielded ops a.tmps)=true)
  (hx:(execOp a.eval oi).run Tryz.prog w=.ok (.round l f tmps assign body) w) (hc:RoundIn Fence.wide (n-1) Tryz.prog l f tmps assign body w fun e w'=>∃ v,e=.returned v∧wpAnyIn Fence.wide n Tryz.prog md ops Q fuel (listed.setIfInBounds i true) (a.put (some d) v) w')
  (hs:AllReadyIn Fence.wide n Tryz.prog md ops Q fuel listed a w rs):AllReadyIn Fence.wide n Tryz.prog md ops Q fuel listed a w (i::rs):=by
 refine AllReadyIn.cons hi (fun K hK=>?_) hs
 rw [if_pos hw]
 refine ⟨fun _ _=>trivial,?_⟩
 rw [show (Fence.wide).round=none from rfl,Oper.semAt_none,hx,Oper.uponIn_round,hd]
 refine ⟨fun h=>(by cases h),hc.mono ?_⟩
 rintro e w' ⟨v,rfl,h⟩
 exact hK _ _ h
end
attribute [local go_sem] Oper.semAt_some
structure Kid where
 nm:ByteArray
 p:Nat
 v:Vd
 m:Md
 k:K
def K.items:K→List Kid
 | .nil=>[]
 | .node _ p nm v m kids ah be=>ah.items++⟨nm,p,v,m,kids⟩::be.items
abbrev iS (w0:World) (S:Nat):Type:={ x:Kid // AtT w0 x.p x.v x.m x.k∧x.k.flat.size<S }
abbrev kids {w0:World} {S:Nat} (ys:List (iS w0 S)):List Kid:=ys.map (·.1)
theorem roomNone {F:Fence} (hd:F.depth=none) (k:Nat):F.room k:=fun d h=>by rw [hd] at h;cases h
theorem roundAny {F:Fence} (hd:F.depth=none) {m m':Nat} {P:Program} {l:Nat} {f:FuncId} {tmps:Array Value} {assign body:Code} {w:World} {R:Ending→World→Prop}
  (h:RoundIn F m P l f tmps assign body w R):RoundIn F m' P l f tmps assign body w R:=⟨h.1,fun c cs _=>h.2 c cs (roomNone hd _)⟩
theorem yieldAny {F:Fence} (hd:F.depth=none) {m:Nat} (m':Nat) {P:Program} {l:Nat} {args:Array Value} {W:World} {R:Ending→World→Prop} (h:YieldAt F m P l args W R):YieldAt F m' P l args W R:=by
 obtain ⟨fn,tmps,assign,body,hy,hR⟩:=h
 exact ⟨fn,tmps,assign,body,hy,roundAny hd hR⟩
theorem G.trans' {w0 W W':World} (h:G w0 W) (hb:Below w0.heap.size W W'):G w0 W':=Below.trans (B:=w0.heap.size) h hb
abbrev qs (w0:World) (S:Kid→Prop):Type:={ x:Kid // AtT w0 x.p x.v x.m x.k∧S x }
abbrev jk {w0:World} {S:Kid→Prop} (ys:List (qs w0 S)):List Kid:=ys.map (·.1)
theorem wy {w0:World} {S:Kid→Prop} {ys qq:List (qs w0 S)} {x:qs w0 S} {ah be:K} {q:Nat} (hys:jk ys=ah.items) (hq:jk qq <+: be.items):jk (ys++x::qq) <+: (K.node q x.1.p x.1.nm x.1.v x.1.m x.1.k ah be).items:=by
 obtain ⟨t,ht⟩:=hq
 refine ⟨t,?_⟩
 rw [K.items,← hys,← ht]
 simp
theorem a00 {w0:World} {S:Kid→Prop} {ys:List (qs w0 S)} {x:qs w0 S} {ah be:K} {q:Nat} (hys:jk ys=ah.items):jk (ys++[x]) <+: (K.node q x.1.p x.1.nm x.1.v x.1.m x.1.k ah be).items:=by
 refine ⟨be.items,?_⟩
 rw [K.items,← hys]
 simp
theorem yE:∀ {k:K},∀ x∈k.items,x.k.flat.size<k.flat.size
 | .nil,x,hx=>by cases hx
 | .node q p nm v m kids ah be,x,hx=>by
  rw [K.flat,F.app_size,F.size]
  rw [K.items,List.mem_append,List.mem_cons] at hx
  rcases hx with hx | rfl | hx
  ·have:=yE x hx;omega
  ·show kids.flat.size<_;omega
  ·have:=yE x hx;omega
theorem sq (w0:World) (S:Kid→Prop) (A:List Kid) (l N:Nat) (J Jx:List (qs w0 S)→World→Prop) (hJD:∀ pre W,J pre W→J pre W.drew)
  (hY:∀ m pre (x:qs w0 S) W,J pre W→pre.length<N→jk (pre++[x]) <+: A→YieldAt Fence.wide m Tryz.prog l #[.string x.1.nm,.pointer (some ⟨x.1.p,0,none⟩)] W fun e W'=>
   (e=.returned (.bool true)∧J (pre++[x]) W'∧Below w0.heap.size W W')∨(e=.returned (.bool false)∧Jx (pre++[x]) W')) (k:K):
  ∀ (n:Nat) (u:Value) (pre:List (qs w0 S)) (W:World),At w0 k u→(∀ x∈k.items,S x)→G w0 W→J pre W→pre.length+k.items.length≤N→jk pre++k.items <+: A→
   CallsIn Fence.wide n Tryz.prog 72 #[u,.func (.yield l) #[] #[]] W fun e W'=>
    (e=.returned (.bool true)∧∃ ys,jk ys=k.items∧J (pre++ys) W'∧G w0 W')∨(e=.returned (.bool false)∧∃ q,jk q <+: k.items∧Jx (pre++q) W'):=by
 induction k with
 | nil=>
  intro n u pre W ht _ hG hJ _ _
  obtain rfl:u=.pointer none:=ht
  have HG:Hid (G w0 W.drew):=hG.trans (G.drew W)
  have HJ:Hid (J pre W.drew):=hJD pre W hJ
  refine callsIn_of_wp Tryz.func72 rfl trivial ?_ rfl
  simp only [Tryz.ntmps72,List.size_toArray,lC,lN,Nat.reduceAdd,Nat.reduceSub,Array.replicate_succ,Array.replicate_zero,List.push_toArray,List.append_toArray,List.nil_append,List.cons_append]
  gi_wp2
  refine cC ?_
  refine fI 0 5 (.pointer none) ?_
  refine gI 1 6 (.bool true) ?_
  refine fI 2 7 (.bool true) ?_
  refine qB 3 8 ?_
  refine qB 4 9 ?_
  refine qB 5 10 ?_
  refine qB 6 11 ?_
  refine qB 7 12 ?_
  refine rI [8] ?_
  refine yL 8 13 rfl rfl (by kernel_rfl) ?_ AllReadyIn.nil
  try simp only [Act.put,sA,sB,sC]
  refine qB 9 14 ?_
  refine qB 10 15 ?_
  refine qB 11 16 ?_
  refine qB 12 17 ?_
  refine qB 13 18 ?_
  refine qB 14 19 ?_
  refine qB 15 20 ?_
  refine qB 16 21 ?_
  refine qB 17 22 ?_
  refine qB 18 23 ?_
  refine qB 19 24 ?_
  refine qB 20 25 ?_
  refine rI [21] ?_
  refine yL 21 26 rfl rfl (by kernel_rfl) ?_ AllReadyIn.nil
  try simp only [Act.put,sA,sB,sC]
  refine qB 22 27 ?_
  refine qB 23 28 ?_
  refine qB 24 29 ?_
  refine qB 25 30 ?_
  refine qB 26 31 ?_
  refine qB 27 32 ?_
  refine qB 28 33 ?_
  refine rI [29] ?_
  refine yL 29 34 rfl rfl (by kernel_rfl) ?_ AllReadyIn.nil
  try simp only [Act.put,sA,sB,sC]
  refine qB 30 35 ?_
  refine gI 31 36 (.bool true) ?_
  refine fI 32 4 (.bool true) ?_
  refine dI ?_
  gi_wp2
  go_ret
  exact .inl ⟨rfl,[],rfl,by simpa using HJ.o,HG.o⟩
 | node q p nm v m kk ah be ihk iha ihb=>
  intro n u pre W ht hS hG hJ hN hA
  obtain ⟨rfl,pk,pa,pb,⟨h2,h3⟩,hk,ha,hb⟩:=ht
  have c0:=jB h2 0 (.string nm) rfl
  have c1:=jB h2 1 (.pointer (some ⟨p,0,none⟩)) rfl
  have c2:=jB h2 2 pa rfl
  have c3:=jB h2 3 pb rfl
  have hN':pre.length+(ah.items.length+(be.items.length+1))≤N:=by simpa [K.items] using hN
  have HX:Hid (AtT w0 p v m kk∧S ⟨nm,p,v,m,kk⟩):=⟨⟨pk,h3,hk⟩,hS _ (by simp [K.items])⟩
  obtain ⟨aa,rfl⟩:=ha.form
  obtain ⟨ab,rfl⟩:=hb.form
  generalize hpa:(Value.pointer aa)=pa at *
  generalize hpb:(Value.pointer ab)=pb at *
  have HG0:Hid (G w0 W.drew):=hG.trans (G.drew W)
  have HJ0:Hid (J pre W.drew):=hJD pre W hJ
  have IA:=hid (fun (n:Nat) (W:World) (hG:G w0 W) (hJ:J pre W)=>iha n pa pre W ha (fun x hx=>hS x (by simp [K.items,hx])) hG hJ (by omega) (List.IsPrefix.trans ⟨⟨nm,p,v,m,kk⟩::be.items,by simp [K.items]⟩ hA))
  have IB:=hid (fun (n:Nat) (W:World) (pre':List (qs w0 S)) (hG:G w0 W) (hJ:J pre' W) (hN:pre'.length+be.items.length≤N) (hA:jk pre'++be.items <+: A)=>ihb n pb pre' W hb (fun x hx=>hS x (by simp [K.items,hx])) hG hJ hN hA)
  have HY:=hid (fun (W:World) (ys:List (qs w0 S)) (hJ:J (pre++ys) W) (hys:jk ys=ah.items)=>hY (n-1) (pre++ys) ⟨⟨nm,p,v,m,kk⟩,HX.o⟩ W hJ (by have:=congrArg List.length hys;simp at this;simp;omega) (List.IsPrefix.trans ⟨be.items,by simp only [jk,List.map_append,List.map_cons,List.map_nil,List.append_assoc] at hys ⊢;rw [hys];simp [K.items]⟩ hA))
  have HA:=hid (fun (ys:List (qs w0 S)) (hys:jk ys=ah.items)=>(show jk (pre++ys++[(⟨⟨nm,p,v,m,kk⟩,HX.o⟩:qs w0 S)])++be.items <+: A from List.IsPrefix.trans ⟨[],by simp only [jk,List.map_append,List.map_cons,List.map_nil,List.append_assoc] at hys ⊢;rw [hys];simp [K.items]⟩ hA))
  clear ihk iha ihb hk ha hb h2 h3 hN hS hA
  rw [← hpa] at c2
  rw [← hpb] at c3
  rw [hpa] at c2
  rw [hpb] at c3
  refine callsIn_of_wp Tryz.func72 rfl trivial ?_ rfl
  simp only [Tryz.ntmps72,List.size_toArray,lC,lN,Nat.reduceAdd,Nat.reduceSub,Array.replicate_succ,Array.replicate_zero,List.push_toArray,List.append_toArray,List.nil_append,List.cons_append]
  gi_wp2
  refine cC ?_
  have HG:=HG0
  have HJ:=HJ0
  generalize W.drew=W2 at *
  subst hpa hpb
  refine fI 0 5 (.pointer (some ⟨q,0,none⟩)) ?_
  refine gI 1 6 (.bool false) ?_
  refine fI 2 7 (.bool false) ?_
  refine fI 3 8 (.pointer (some ⟨q,0,none⟩)) ?_
  refine gI 4 9 (.pointer (some ⟨q,0,none⟩)) ?_
  refine gI 5 10 (.pointer (some ⟨q,2,none⟩)) ?_
  refine fI 7 12 (.func (.yield l) #[] #[]) ?_
  refine rI [6] ?_
  refine qS 6 11 (.pointer aa) W2 rfl rfl (by kernel_rfl) (by have y:=HG.o.cell c2;go_simp) ?_ AllReadyIn.nil
  try simp only [Act.put,sA,sB,sC]
  refine rI [8] ?_
  refine vO 8 13 72 #[.pointer aa,.func (.yield l) #[] #[]] rfl rfl (by kernel_rfl) (by go_simp) ((IA.o (n-1) W2 HG.o HJ.o).mono ?_) AllReadyIn.nil
  rintro e W3 (⟨rfl,ys,hys,hJ3,hG3⟩ | ⟨rfl,qq,hqq,hx3⟩)
  ·have HG3:Hid (G w0 W3):=hG3
   refine ⟨_,rfl,?_⟩
   try simp only [Act.put,sA,sB,sC]
   refine fI 9 14 (.bool true) ?_
   refine fI 10 15 (.func (.yield l) #[] #[]) ?_
   refine fI 11 16 (.pointer (some ⟨q,0,none⟩)) ?_
   refine gI 12 17 (.pointer (some ⟨q,0,none⟩)) ?_
   refine gI 13 18 (.pointer (some ⟨q,0,none⟩)) ?_
   refine gI 14 19 (.pointer (some ⟨q,0,none⟩)) ?_
   refine fI 16 21 (.pointer (some ⟨q,0,none⟩)) ?_
   refine gI 17 22 (.pointer (some ⟨q,0,none⟩)) ?_
   refine gI 18 23 (.pointer (some ⟨q,0,none⟩)) ?_
   refine gI 19 24 (.pointer (some ⟨q,1,none⟩)) ?_
   refine rI [15,20] ?_
   refine qS 15 20 (.string nm) W3 rfl rfl (by kernel_rfl) (by have y:=HG3.o.cell c0;go_simp) ?_ (qS 20 25 (.pointer (some ⟨p,0,none⟩)) W3 rfl rfl (by kernel_rfl) (by have y:=HG3.o.cell c1;go_simp) ?_ AllReadyIn.nil)
   all_goals try simp only [Act.put,sA,sB,sC]
   ·refine rI [20] ?_
    refine qS 20 25 (.pointer (some ⟨p,0,none⟩)) W3 rfl rfl (by kernel_rfl) (by have y:=HG3.o.cell c1;go_simp) ?_ AllReadyIn.nil
    try simp only [Act.put,sA,sB,sC]
    obtain ⟨fn,tmps,assign,body,hy,hR⟩:=HY.o W3 ys hJ3 hys
    try dsimp only at hy
    refine rI [21] ?_
    refine ug 21 26 l fn tmps assign body rfl rfl (by kernel_rfl) (by go_simp) (hR.mono ?_) AllReadyIn.nil
    clear hy hR
    rintro e W4 (⟨rfl,hJ4,hB4⟩ | ⟨rfl,hx4⟩)
    ·refine ⟨_,rfl,?_⟩
     try simp only [Act.put,sA,sB,sC]
     have hG4:G w0 W4:=HG3.o.trans' hB4
     refine gI 22 27 (.bool true) ?_
     refine fI 23 28 (.bool true) ?_
     refine fI 24 29 (.pointer (some ⟨q,0,none⟩)) ?_
     refine gI 25 30 (.pointer (some ⟨q,0,none⟩)) ?_
     refine gI 26 31 (.pointer (some ⟨q,3,none⟩)) ?_
     refine fI 28 33 (.func (.yield l) #[] #[]) ?_
     refine rI [27] ?_
     refine qS 27 32 (.pointer ab) W4 rfl rfl (by kernel_rfl) (by have y:=hG4.cell c3;go_simp) ?_ AllReadyIn.nil
     try simp only [Act.put,sA,sB,sC]
     refine rI [29] ?_
     refine vO 29 34 72 #[.pointer ab,.func (.yield l) #[] #[]] rfl rfl (by kernel_rfl) (by go_simp) ((IB.o (n-1) W4 _ hG4 hJ4 (by simp;have:=congrArg List.length hys;simp at this;omega) (by simpa using HA.o ys hys)).mono ?_) AllReadyIn.nil
     rintro e W5 (⟨rfl,zs,hzs,hJ5,hG5⟩ | ⟨rfl,qq,hqq,hx5⟩)
     ·refine ⟨_,rfl,?_⟩
      try simp only [Act.put,sA,sB,sC]
      refine gI 30 35 (.bool true) ?_
      refine gI 31 36 (.bool true) ?_
      refine fI 32 4 (.bool true) ?_
      refine dI ?_
      gi_wp2
      go_ret
      exact .inl ⟨rfl,ys++⟨⟨nm,p,v,m,kk⟩,HX.o⟩::zs,by simp [jk,K.items,hys,hzs] ,by simpa using hJ5,hG5⟩
     ·refine ⟨_,rfl,?_⟩
      try simp only [Act.put,sA,sB,sC]
      refine gI 30 35 (.bool false) ?_
      refine gI 31 36 (.bool false) ?_
      refine fI 32 4 (.bool false) ?_
      refine dI ?_
      gi_wp2
      go_ret
      exact .inr ⟨rfl,ys++⟨⟨nm,p,v,m,kk⟩,HX.o⟩::qq,wy hys hqq,by simpa using hx5⟩
    ·refine ⟨_,rfl,?_⟩
     try simp only [Act.put,sA,sB,sC]
     refine gI 22 27 (.bool false) ?_
     refine fI 23 28 (.bool false) ?_
     refine qB 24 29 ?_
     refine qB 25 30 ?_
     refine qB 26 31 ?_
     refine qB 27 32 ?_
     refine qB 28 33 ?_
     refine rI [29] ?_
     refine yL 29 34 rfl rfl (by kernel_rfl) ?_ AllReadyIn.nil
     try simp only [Act.put,sA,sB,sC]
     refine gI 30 35 (.bool false) ?_
     refine gI 31 36 (.bool false) ?_
     refine fI 32 4 (.bool false) ?_
     refine dI ?_
     gi_wp2
     go_ret
     exact .inr ⟨rfl,ys++[⟨⟨nm,p,v,m,kk⟩,HX.o⟩],a00 hys,by simpa using hx4⟩
   ·refine rI [15] ?_
    refine qS 15 20 (.string nm) W3 rfl rfl (by kernel_rfl) (by have y:=HG3.o.cell c0;go_simp) ?_ AllReadyIn.nil
    try simp only [Act.put,sA,sB,sC]
    obtain ⟨fn,tmps,assign,body,hy,hR⟩:=HY.o W3 ys hJ3 hys
    try dsimp only at hy
    refine rI [21] ?_
    refine ug 21 26 l fn tmps assign body rfl rfl (by kernel_rfl) (by go_simp) (hR.mono ?_) AllReadyIn.nil
    clear hy hR
    rintro e W4 (⟨rfl,hJ4,hB4⟩ | ⟨rfl,hx4⟩)
    ·refine ⟨_,rfl,?_⟩
     try simp only [Act.put,sA,sB,sC]
     have hG4:G w0 W4:=HG3.o.trans' hB4
     refine gI 22 27 (.bool true) ?_
     refine fI 23 28 (.bool true) ?_
     refine fI 24 29 (.pointer (some ⟨q,0,none⟩)) ?_
     refine gI 25 30 (.pointer (some ⟨q,0,none⟩)) ?_
     refine gI 26 31 (.pointer (some ⟨q,3,none⟩)) ?_
     refine fI 28 33 (.func (.yield l) #[] #[]) ?_
     refine rI [27] ?_
     refine qS 27 32 (.pointer ab) W4 rfl rfl (by kernel_rfl) (by have y:=hG4.cell c3;go_simp) ?_ AllReadyIn.nil
     try simp only [Act.put,sA,sB,sC]
     refine rI [29] ?_
     refine vO 29 34 72 #[.pointer ab,.func (.yield l) #[] #[]] rfl rfl (by kernel_rfl) (by go_simp) ((IB.o (n-1) W4 _ hG4 hJ4 (by simp;have:=congrArg List.length hys;simp at this;omega) (by simpa using HA.o ys hys)).mono ?_) AllReadyIn.nil
     rintro e W5 (⟨rfl,zs,hzs,hJ5,hG5⟩ | ⟨rfl,qq,hqq,hx5⟩)
     ·refine ⟨_,rfl,?_⟩
      try simp only [Act.put,sA,sB,sC]
      refine gI 30 35 (.bool true) ?_
      refine gI 31 36 (.bool true) ?_
      refine fI 32 4 (.bool true) ?_
      refine dI ?_
      gi_wp2
      go_ret
      exact .inl ⟨rfl,ys++⟨⟨nm,p,v,m,kk⟩,HX.o⟩::zs,by simp [jk,K.items,hys,hzs] ,by simpa using hJ5,hG5⟩
     ·refine ⟨_,rfl,?_⟩
      try simp only [Act.put,sA,sB,sC]
      refine gI 30 35 (.bool false) ?_
      refine gI 31 36 (.bool false) ?_
      refine fI 32 4 (.bool false) ?_
      refine dI ?_
      gi_wp2
      go_ret
      exact .inr ⟨rfl,ys++⟨⟨nm,p,v,m,kk⟩,HX.o⟩::qq,wy hys hqq,by simpa using hx5⟩
    ·refine ⟨_,rfl,?_⟩
     try simp only [Act.put,sA,sB,sC]
     refine gI 22 27 (.bool false) ?_
     refine fI 23 28 (.bool false) ?_
     refine qB 24 29 ?_
     refine qB 25 30 ?_
     refine qB 26 31 ?_
     refine qB 27 32 ?_
     refine qB 28 33 ?_
     refine rI [29] ?_
     refine yL 29 34 rfl rfl (by kernel_rfl) ?_ AllReadyIn.nil
     try simp only [Act.put,sA,sB,sC]
     refine gI 30 35 (.bool false) ?_
     refine gI 31 36 (.bool false) ?_
     refine fI 32 4 (.bool false) ?_
     refine dI ?_
     gi_wp2
     go_ret
     exact .inr ⟨rfl,ys++[⟨⟨nm,p,v,m,kk⟩,HX.o⟩],a00 hys,by simpa using hx4⟩
  ·refine ⟨_,rfl,?_⟩
   try simp only [Act.put,sA,sB,sC]
   refine fI 9 14 (.bool false) ?_
   refine qB 10 15 ?_
   refine qB 11 16 ?_
   refine qB 12 17 ?_
   refine qB 13 18 ?_
   refine qB 14 19 ?_
   refine qB 15 20 ?_
   refine qB 16 21 ?_
   refine qB 17 22 ?_
   refine qB 18 23 ?_
   refine qB 19 24 ?_
   refine qB 20 25 ?_
   refine rI [21] ?_
   refine yL 21 26 rfl rfl (by kernel_rfl) ?_ AllReadyIn.nil
   try simp only [Act.put,sA,sB,sC]
   refine gI 22 27 (.bool false) ?_
   refine fI 23 28 (.bool false) ?_
   refine qB 24 29 ?_
   refine qB 25 30 ?_
   refine qB 26 31 ?_
   refine qB 27 32 ?_
   refine qB 28 33 ?_
   refine rI [29] ?_
   refine yL 29 34 rfl rfl (by kernel_rfl) ?_ AllReadyIn.nil
   try simp only [Act.put,sA,sB,sC]
   refine gI 30 35 (.bool false) ?_
   refine gI 31 36 (.bool false) ?_
   refine fI 32 4 (.bool false) ?_
   refine dI ?_
   gi_wp2
   go_ret
   exact .inr ⟨rfl,qq,hqq.trans (by simp [K.items]),hx3⟩
theorem yw (n:Nat) (w0:World) (S:Kid→Prop) (l Bt p:Nat) (v:Vd) (m:Md) (k:K) (J Jx:List (qs w0 S)→World→Prop) (hJD:∀ pre W,J pre W→J pre W.drew)
  (hY:∀ pre (x:qs w0 S) W,J pre W→pre.length<k.items.length→jk (pre++[x]) <+: k.items→YieldAt Fence.wide (n-1) Tryz.prog l #[.string x.1.nm,.pointer (some ⟨x.1.p,0,none⟩)] W fun e W'=>
   (e=.returned (.bool true)∧J (pre++[x]) W'∧Below w0.heap.size W W')∨(e=.returned (.bool false)∧Jx (pre++[x]) W'))
  (W:World) (hBt:W.cell? ⟨Bt,0,none⟩=some (.pointer (some ⟨p,0,none⟩))) (hT:AtT w0 p v m k) (hS:(∀ x∈k.items,S x)) (hG:G w0 W) (h0:J [] W):
  CallsIn Fence.wide n Tryz.prog 71 #[.func (.yield l) #[] #[],.pointer (some ⟨Bt,0,none⟩)] W fun e W'=>(∃ v,e=.returned v)∧
   ((∃ ys:List (qs w0 S),jk ys=k.items∧J ys W')∨(∃ pre:List (qs w0 S),jk pre <+: k.items∧Jx pre W')):=by
 obtain ⟨pk,h1,h2⟩:=hT
 have c39:=hG.cell (jB h1 39 _ (zi ..))
 have hp:=sq w0 S k.items l k.items.length J Jx hJD (fun m pre x W hj hl hp=>yieldAny rfl m (hY pre x W hj hl hp)) k (n-1) pk [] W h2 hS hG h0 (by simp) (by simp [jk])
 obtain ⟨a,rfl⟩:=h2.form
 clear h1 h2 hY
 refine callsIn_of_wp Tryz.func71 rfl trivial ?_ rfl
 simp only [Tryz.ntmps71,List.size_toArray,lC,lN,Nat.reduceAdd,Nat.reduceSub,Array.replicate_succ,Array.replicate_zero,List.push_toArray,List.append_toArray,List.nil_append,List.cons_append]
 gi_wp2_with (refine ⟨trivial,fun h=>(by cases h),?_⟩;gi_at_call 72;refine hp.mono ?_;clear hp;rintro e W1 (⟨rfl,ys,hys,hJ1,_⟩ | ⟨rfl,q,hq,hx⟩))
 ·go_end0
  exact ⟨⟨_,rfl⟩,.inl ⟨ys,hys,by simpa using hJ1⟩⟩
 ·go_end0
  exact ⟨⟨_,rfl⟩,.inr ⟨q,hq,by simpa using hx⟩⟩
end Go.Proofs.YtjikkhbcbfpocaaGreatDoor
