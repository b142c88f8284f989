import Derived.Test.YtjikkhbcbfpocaaGreatDoorFind
import Derived.Test.YtjikkhbcbfpocaaGreatDoorPSplit
import Derived.Test.YtjikkhbcbfpocaaGreatDoorYV
set_option maxRecDepth 100000
set_option maxHeartbeats 4000000
namespace Go.Proofs.YtjikkhbcbfpocaaGreatDoor
open Go.RowKit
def AtF (w:World) (u:Value) (f:F):Prop:=∃ k,At w k u∧k.flat=f
def AtTF (w:World) (p:Nat) (v:Vd) (m:Md) (f:F):Prop:=∃ k,AtT w p v m k∧k.flat=f
theorem AtTF.grow {w w':World} {p:Nat} {v:Vd} {m:Md} {f:F} (h:AtTF w p v m f) (hg:G w w'):AtTF w' p v m f:=by obtain ⟨k,h,e⟩:=h;exact ⟨k,h.grow hg,e⟩
abbrev T3:=Vd × Md × F
def zj (w:World) (u:Value):Option T3→Prop
 | none=>u=.pointer none
 | some t=>∃ p,u=.pointer (some ⟨p,0,none⟩)∧AtTF w p t.1 t.2.1 t.2.2
theorem zj.grow {w w':World} {u:Value} {o:Option T3} (h:zj w u o) (hg:G w w'):zj w' u o:=by
 cases o with
 | none=>exact h
 | some t=>obtain ⟨p,h1,h2⟩:=h;exact ⟨p,h1,h2.grow hg⟩
theorem zj.form {w:World} {u:Value} {o:Option T3} (h:zj w u o):∃ a,u=.pointer a:=by
 cases o with
 | none=>exact ⟨_,h⟩
 | some t=>obtain ⟨p,h1,_⟩:=h;exact ⟨_,h1⟩
theorem AtTF.kids {w:World} {p:Nat} {v:Vd} {m:Md} {f:F} (h:AtTF w p v m f):∃ ak,Lies w p 0 (tc v m (.pointer ak))∧AtF w (.pointer ak) f:=by
 obtain ⟨k,⟨pk,h1,h2⟩,e⟩:=h
 obtain ⟨ak,rfl⟩:=h2.form
 exact ⟨ak,h1,k,h2,e⟩
theorem rL {w:World} {au:Option Addr} {f:F} (h:AtF w (.pointer au) f) (hr:f.rises) (nm:ByteArray):∃ u,zj w u (f.get nm)∧∀ W,G w W→Calls Tryz.prog 143 #[.pointer au,.string nm] W fun e w'=>e=.returned u∧w'=W:=by
 obtain ⟨k,h,rfl⟩:=h
 refine ⟨vY (k.find nm),?_,fun W hW=>rO k (.pointer au) nm W (h.grow hW)⟩
 rw [← K.find_get hr]
 cases hf:k.find nm with
 | none=>rfl
 | some x=>
  obtain ⟨p,v,m,kk⟩:=x
  exact ⟨p,rfl,kk,K.find_at h p v m kk hf,rfl⟩
theorem F.rises_get {nm:ByteArray} {t:T3}:∀ {f:F},f.rises→f.get nm=some t→t.2.2.rises∧t.2.2.size<f.size
 | .nil,_,h=>by cases h
 | .cons n v m k r,⟨_,h2,h3⟩,h=>by
  rw [F.get] at h
  split at h
  ·cases h;exact ⟨h2,by simp only [F.size];omega⟩
  ·have:=F.rises_get h3 h
   exact ⟨this.1,by simp only [F.size];omega⟩
def dn:T3→List ByteArray→Option T3
 | t,[]=>some t
 | t,nm::L=>(t.2.2.get nm).bind fun s=>dn s L
theorem np:∀ (t:T3) (L M:List ByteArray),dn t (L++M)=(dn t L).bind fun s=>dn s M
 | t,[],M=>rfl
 | t,nm::L,M=>by
  rw [List.cons_append,dn,dn]
  cases t.2.2.get nm with
  | none=>rfl
  | some s=>exact np s L M
theorem iq:∀ {t:T3} {L:List ByteArray} {s:T3},t.2.2.rises→dn t L=some s→s.2.2.rises∧s.2.2.size≤t.2.2.size
 | t,[],s,hr,h=>by cases h;exact ⟨hr,Nat.le_refl _⟩
 | t,nm::L,s,hr,h=>by
  rw [dn] at h
  cases hg:t.2.2.get nm with
  | none=>rw [hg] at h;cases h
  | some x=>
   rw [hg] at h
   have h1:=F.rises_get hr hg
   have h2:=iq h1.1 h
   exact ⟨h2.1,by omega⟩
theorem rM (p:Nat) (t:T3) (names:Value) (L:List ByteArray) (w:World) (ht:AtTF w p t.1 t.2.1 t.2.2) (hr:t.2.2.rises) (hn:HasT w names L) (hl:L.length≤1000000):
  Calls Tryz.prog 110 #[.pointer (some ⟨p,0,none⟩),names] w fun e w'=>(∃ u,e=.returned u∧zj w u (dn t L))∧w'=w:=by
 obtain ⟨ao,cap,rfl,_⟩:=hn.form
 have HN:=hid hn
 have H0:Hid (zj w (.pointer (some ⟨p,0,none⟩)) (dn t (L.take 0))):=by rw [List.take_zero];exact ⟨p,rfl,ht⟩
 have HR:=hid hr
 obtain ⟨N,hN⟩:∃ N,L.length=N:=⟨_,rfl⟩
 have HL:=hid hN
 rw [hN] at HN hl ⊢
 clear hn ht hr hN
 go_enter Tryz.func110,Tryz.ntmps110
 go_wp2_with fail
 go_loopw [0,9] (fun u i wr=>∃ k:Nat,i=.int .i64 k∧k≤N∧(∃ a,u=.pointer a)∧wr=w∧Hid (zj w u (dn t (L.take k)))) (fun _ i _=>N-iOf i)
 case atStart=>exact ⟨0,rfl,Nat.zero_le _,⟨_,rfl⟩,rfl,H0.o⟩
 case round=>
  clear H0
  obtain ⟨k,rfl,hk,⟨a,rfl⟩,rfl,HP⟩:=hrel
  by_cases hlt:k<N
  ·have hltI:(k:Int)<(N:Int):=by omega
   obtain ⟨x,hx⟩:∃ x,L[k]?=some x:=⟨_,gl (by rw [HL.o];exact hlt)⟩
   obtain ⟨ad,cap',hv,hc⟩:=HN.o.at hx
   obtain rfl:ao=some ad:=by injection hv
   clear hv
   have hsplit:L.take (k+1)=L.take k++[x]:=by rw [List.take_add_one,hx];rfl
   cases hd:dn t (L.take k) with
   | none=>
    rw [hd] at HP
    have e:=HP.o
    have e:Value.pointer a=.pointer none:=e
    injection e with e
    subst e
    have HD:Hid (zj wr (.pointer none) (dn t L)):=by
     have h:=np t (L.take k) (L.drop k)
     rw [List.take_append_drop,hd] at h
     rw [h];rfl
    clear hd hsplit HP
    go_wp2_with fail
    go_ret
    exact ⟨⟨_,rfl,HD.o⟩,rfl⟩
   | some s=>
    rw [hd] at HP
    obtain ⟨p',e,hs⟩:=HP.o
    injection e with e
    subst e
    obtain ⟨ak,hli,hak⟩:=hs.kids
    have c39:=jB hli 39 _ (xH ..)
    obtain ⟨u,hu,hC⟩:=rL hak (iq HR.o hd).1 x
    have C:=hC wr (G.refl _)
    obtain ⟨au,rfl⟩:=hu.form
    have HU:Hid (zj wr (.pointer au) (dn t (L.take (k+1)))):=by
     show zj _ _ _
     rw [hsplit,np,hd]
     have e:((some s).bind fun s=>dn s [x])=s.2.2.get x:=by
      show (s.2.2.get x).bind (fun s=>some s)=_
      cases s.2.2.get x<;>rfl
     rw [e]
     exact hu
    clear hd hsplit HP hs hli hak hu hC
    go_wp2_with (go_at_call 143;refine C.mono ?_;rintro e w2 ⟨rfl,e2⟩;subst e2)
    go_roundw
    case rel=>exact ⟨k+1,by go_num,by omega,⟨_,rfl⟩,by trivial,HU.o⟩
    case measure=>simp;omega
  ·have hltI:¬ (k:Int)<(N:Int):=by omega
   have HD:Hid (zj wr (.pointer a) (dn t L)):=by
    have h:=HP.o
    rw [List.take_of_length_le (by rw [HL.o];omega)] at h
    exact h
   go_wp2_with fail
   go_ret
   exact ⟨⟨_,rfl,HD.o⟩,rfl⟩
theorem zj.isSome {w:World} {au:Option Addr} {o:Option T3} (h:zj w (.pointer au) o):au.isSome=o.isSome:=by
 cases o with
 | none=>have e:Value.pointer au=.pointer none:=h;injection e with e;rw [e];rfl
 | some t=>obtain ⟨p,e,_⟩:=h;injection e with e;rw [e];rfl
def cutN (s:ByteArray):List ByteArray:=(jm (tl s)).map ofB
theorem si {s:ByteArray} {L:List ByteArray} (h:L.map tl=dT (tl s) 64) (he:yc (tl s) 64=0):L=cutN s:=by
 unfold dT at h
 rw [if_pos he] at h
 unfold cutN
 rw [← h,List.map_map]
 have:(ofB ∘ tl)=id:=by funext x;exact tf x
 rw [this,List.map_id]
theorem pj {s:ByteArray} (he:yc (tl s) 64=0):(cutN s).length≤64:=by
 unfold yc at he
 split at he
 ·cases he
 ·rename_i h
  unfold cutN
  rw [List.length_map]
  omega
def subS (t:T3) (s:ByteArray):Option T3:=if yc (tl s) 64=0 then dn t (cutN s) else none
theorem uv (p:Nat) (t:T3) (s:ByteArray) (w:World) (ht:AtTF w p t.1 t.2.1 t.2.2) (hr:t.2.2.rises) (hs:s.size≤1048576):
  Calls Tryz.prog 74 #[.pointer (some ⟨p,0,none⟩),.string s] w fun e w'=>∃ u,e=.returned (.tuple #[u,.bool (subS t s).isSome])∧zj w' u (subS t s)∧G w w':=by
 have C1:=pC s 64 w hs
 have HT:=hid (⟨ht,hr⟩:_∧_)
 obtain ⟨E,hE⟩:∃ E,yc (tl s) 64=E:=⟨_,rfl⟩
 have HE:=hid hE
 rw [hE] at C1
 clear ht hr hE
 by_cases h0:E=0
 ·subst h0
  have hS:subS t s=dn t (cutN s):=by unfold subS;rw [if_pos HE.o]
  rw [hS]
  clear hS
  go_enter Tryz.func74,Tryz.ntmps74
  go_wp2_with (first
   | (go_at_call 109;refine C1.mono ?_;rintro e w1 ⟨⟨nv,L,rfl,hO,hL⟩,hg1⟩;obtain rfl:=si hL HE.o;have hN:=hO.has;obtain ⟨an,cn,rfl,_⟩:=hN.form;have CD:=rM p t _ _ w1 (HT.o.1.grow hg1) HT.o.2 hN (by have:=pj HE.o;omega);have HG1:=hid hg1;clear hO hL hN hg1)
   | (go_at_call 110;refine CD.mono ?_;rintro e w2 ⟨⟨u,rfl,hu⟩,e2⟩;subst e2;have HU:=hid hu;obtain ⟨au,rfl⟩:=hu.form;clear hu))
  go_ret2
  refine ⟨.pointer au,?_,HU.o,HG1.o⟩
  rw [← HU.o.isSome]
  rfl
 ·have hS:subS t s=none:=by unfold subS;rw [if_neg (by rw [HE.o];exact h0)]
  rw [hS]
  have h1:(E !=0)=true:=by simpa using h0
  clear hS h0
  go_enter Tryz.func74,Tryz.ntmps74
  go_wp2_with (go_at_call 109;refine C1.mono ?_;rintro e w1 ⟨⟨nv,L,rfl,hO,hL⟩,hg1⟩;obtain ⟨an,cn,rfl,_⟩:=hO.has.form;have HG1:=hid hg1;clear hO hL hg1)
  go_ret2
  exact ⟨_,rfl,rfl,HG1.o⟩
def ar (w:World) (g:Nat) (c:Array Value):Prop:=w.heap[g]?=some (.cells c 24 (0,0))
theorem ar.lt {w:World} {g:Nat} {c:Array Value} (h:ar w g c):g<w.heap.size:=(ga h).1
theorem ar.grow {w w':World} {g:Nat} {c:Array Value} (h:ar w g c) (hg:G w w'):ar w' g c:=(Below.block hg g h.lt).trans h
theorem yg (v:Vd):(vx v).toArray.size=35:=by simp [jg]
theorem lu (w:World):(zeroValue 24).run Tryz.prog w=.ok (.agg (vx Vd.zero).toArray) w:=by
 have h:(Tryz.prog.info? 24).bind (·.zero)=some (.agg (vx Vd.zero).toArray):=by kernel_rfl
 cases hq:Tryz.prog.info? 24 with
 | none=>rw [hq] at h;cases h
 | some i=>
  rw [hq] at h
  simp only [Option.bind_some] at h
  simp [zeroValue,typeInfo,hq,h]
theorem zA {o:Oper} {a:Act} (ho:o.op=.alloc 24) (w:World):(execOp a.eval o).run Tryz.prog w=.ok (.value (.pointer (some ⟨w.heap.size,0,none⟩))) (w.alloc (.cells (vx Vd.zero).toArray 24)):=by
 unfold execOp
 simp only [ho,Instr.alloc,Sem.run_bind,lu,Result.andThen_ok]
 simp [newVar,newRow,newObj,Value.cells]
 rfl
theorem zC {o:Oper} {a:Act} (x y:Operand) (ho:o.op=.store 24 x y) (g:Nat) (c old:Array Value) (hx:a.eval x=.pointer (some ⟨g,0,none⟩)) (hy:a.eval y=.agg c) (w:World) (hg:ar w g old)
  (hs:c.size=35) (hs':old.size=35) (h1:c.all (·.oneCell')=true):(execOp a.eval o).run Tryz.prog w=.ok .skip (w.setRow g c):=by
 unfold execOp
 simp only [ho,hx,hy,Instr.storeAt,Instr.sureAddr,Sem.run_bind,Sem.run_pure,Result.andThen_ok,run_storeVar_row (P:=Tryz.prog) w g 24 24 old c hg (by rw [oN,hs]) (by rw [hs,hs']) h1]
theorem xI {fn:Func} {p u:Tmp} (h:fn.results=#[.cell p 24,.tmp u]) (tmps:Array Value) (w:World) (g:Nat) (cs:Array Value) (hp:tmps.getD p undef=.pointer (some ⟨g,0,none⟩)) (hg:ar w g cs) (hs:cs.size=35):
  (results fn tmps).run Tryz.prog w=.ok (.tuple #[.agg cs,tmps.getD u undef]) w:=by
 have hu:Tryz.prog.underlying 24=some (.struct (Tryz.prog.fieldsOf 24)):=by kernel_rfl
 rw [results_cell_tmp h,hp]
 simp only [asAddr,Sem.run_pure,Result.andThen_ok,run_loadVar_row (P:=Tryz.prog) w g 24 24 cs (0,0) _ hg hu rfl (by rw [oN,hs])]
def atV (t:T3) (s:ByteArray):Vd:=match subS t s with | none=>Vd.zero | some x=>x.1
theorem es (p:Nat) (t:T3) (s:ByteArray) (w:World) (ht:AtTF w p t.1 t.2.1 t.2.2) (hr:t.2.2.rises) (hs:s.size≤1048576):
  Calls Tryz.prog 46 #[.pointer (some ⟨p,0,none⟩),.string s] w fun e w'=>e=.returned (.tuple #[.agg (vx (atV t s)).toArray,.bool (subS t s).isSome])∧G w w':=by
 have hG:G w (w.alloc (.cells (vx Vd.zero).toArray 24)):=G.alloc _ _
 have C1:=uv p t s _ (ht.grow hG) hr hs
 have hV:ar (w.alloc (.cells (vx Vd.zero).toArray 24)) w.heap.size (vx Vd.zero).toArray:=World.alloc_heap_new w _
 have HV:=hid (⟨hV,hG⟩:_∧_)
 have hat:atV t s=(match subS t s with | none=>Vd.zero | some x=>x.1):=rfl
 cases hS:subS t s with
 | none=>
  rw [hS] at C1 hat
  rw [hat]
  clear hat hS ht hr hV hG
  go_enter Tryz.func46,Tryz.ntmps46
  go_upto_region 1 with ((with_reducible refine jE (.pointer (some ⟨w.heap.size,0,none⟩)) (w.alloc (.cells (vx Vd.zero).toArray 24)) ?_ ?_ ?_);exact zA rfl _;kernel_rfl)
  generalize w.alloc (.cells (vx Vd.zero).toArray 24)=w1 at *
  generalize hB:w.heap.size=B at *
  have HB:=hid hB
  clear hB
  go_wp2_with (first
   | (go_at_call 74;refine C1.mono ?_;rintro e w2 ⟨u,rfl,hu,hg2⟩;have hu2:u=.pointer none:=hu;subst hu2;have HV2:=hid (⟨HV.o.1.grow hg2,HV.o.2.trans hg2⟩:ar w2 B (vx Vd.zero).toArray∧G w w2);clear hu hg2)
   | ((with_reducible refine jA (.agg (vx Vd.zero).toArray) ?_ ?_ ?_);exact exec_build 24 _ rfl _ _ _ rfl (run_build _ 24 _ _ (by kernel_rfl));kernel_rfl)
   | ((with_reducible refine jD (w2.setRow B (vx Vd.zero).toArray) ?_ ?_ ?_);exact zC _ _ rfl B _ (vx Vd.zero).toArray rfl rfl _ HV2.o.1 (yg _) (yg _) (zk _);kernel_rfl))
  refine bodyPost_ret (xI (p:=4) (u:=5) rfl _ _ B (vx Vd.zero).toArray rfl (setRow_heap _ _ _ _ 24 _ HV2.o.1) (yg _)) rfl ⟨rfl,?_⟩
  have hBw:=HB.o
  exact Below.trans (B:=w.heap.size) HV2.o.2 ⟨rfl,rfl,rfl,by simp,fun b hb=>setRow_other _ B b _ (by omega)⟩
 | some x=>
  rw [hS] at C1 hat
  rw [hat]
  clear hat hS ht hr hV hG
  go_enter Tryz.func46,Tryz.ntmps46
  go_upto_region 1 with ((with_reducible refine jE (.pointer (some ⟨w.heap.size,0,none⟩)) (w.alloc (.cells (vx Vd.zero).toArray 24)) ?_ ?_ ?_);exact zA rfl _;kernel_rfl)
  generalize w.alloc (.cells (vx Vd.zero).toArray 24)=w1 at *
  generalize hB:w.heap.size=B at *
  have HB:=hid hB
  clear hB
  go_wp2_with (first
   | (go_at_call 74;refine C1.mono ?_;rintro e w2 ⟨u,rfl,⟨p2,hu,h2⟩,hg2⟩;subst hu;have HV2:=hid (⟨HV.o.1.grow hg2,HV.o.2.trans hg2⟩:ar w2 B (vx Vd.zero).toArray∧G w w2);obtain ⟨ak,hli,_⟩:=h2.kids;have HL:Hid (Lies w2 p2 0 (vx x.1).toArray):=fun j u hj=>hli j u (by rw [tc,List.getElem?_toArray,List.getElem?_append_left (by have:=(ga hj).1;simpa using this)];simpa using hj);clear h2 hg2 hli)
   | ((with_reducible refine jA (.agg (vx x.1).toArray) ?_ ?_ ?_);exact jL _ rfl p2 0 rfl _ (yg _) HL.o;kernel_rfl)
   | ((with_reducible refine jD (w2.setRow B (vx x.1).toArray) ?_ ?_ ?_);exact zC _ _ rfl B _ (vx Vd.zero).toArray rfl rfl _ HV2.o.1 (yg _) (yg _) (zk _);kernel_rfl))
  refine bodyPost_ret (xI (p:=4) (u:=5) rfl _ _ B (vx x.1).toArray rfl (setRow_heap _ _ _ _ 24 _ HV2.o.1) (yg _)) rfl ⟨rfl,?_⟩
  have hBw:=HB.o
  exact Below.trans (B:=w.heap.size) HV2.o.2 ⟨rfl,rfl,rfl,by simp,fun b hb=>setRow_other _ B b _ (by omega)⟩
open Go.Shelf
attribute [local go_sem] Oper.semAt_some
def fv7:Vd:=⟨2,6,3,ju,by simp [ju]⟩
def fm7:Md:=⟨4,5,0,0⟩
def fN:ByteArray:=⟨#[102]⟩
def KF:F:=.cons fN fv7 fm7 .nil .nil
def knF:Array Value:=nc fN fv7 fm7 (.slice none 0 0)
def knT (g:Nat):Array Value:=nc ⟨#[]⟩ kv7 Md.zero (.slice (some ⟨g,0,none⟩) 1 1)
theorem so {o:Oper} {a:Act} (ho:o.op=.build 24 #[(0,.const (.int .i64 2)),(1,.const (.int .i64 6)),(2,.const (.int .i64 3))]) (w:World):(execOp a.eval o).run Tryz.prog w=.ok (.value (.agg (vx fv7).toArray)) w:=by
 unfold execOp
 simp only [ho]
 kernel_rfl
theorem sq {o:Oper} {a:Act} (ho:o.op=.build 26 #[(0,.const (.int .i64 4)),(1,.const (.int .i64 5))]) (w:World):(execOp a.eval o).run Tryz.prog w=.ok (.value (.agg #[.int .i64 4,.int .i64 5])) w:=by
 unfold execOp
 simp only [ho]
 kernel_rfl
theorem sr {o:Oper} {a:Act} (ho:o.op=.build 26 #[]) (w:World):(execOp a.eval o).run Tryz.prog w=.ok (.value (.agg #[.int .i64 0,.int .i64 0])) w:=by
 unfold execOp
 simp only [ho]
 kernel_rfl
theorem ss {o:Oper} {a:Act} (x y:Operand) (ho:o.op=.build 27 #[(0,x),(1,y)]) (hx:a.eval x=.agg #[.int .i64 4,.int .i64 5]) (hy:a.eval y=.agg #[.int .i64 0,.int .i64 0]) (w:World):(execOp a.eval o).run Tryz.prog w=.ok (.value (.agg (mx fm7).toArray)) w:=by
 unfold execOp
 simp only [ho,List.map_toArray,List.map_cons,List.map_nil,hx,hy]
 kernel_rfl
theorem su {o:Oper} {a:Act} (x y:Operand) (ho:o.op=.build 30 #[(0,.const (.string fN)),(1,x),(2,y)]) (hx:a.eval x=.agg (vx fv7).toArray) (hy:a.eval y=.agg (mx fm7).toArray) (w:World):(execOp a.eval o).run Tryz.prog w=.ok (.value (.agg knF)) w:=by
 unfold execOp
 simp only [ho,List.map_toArray,List.map_cons,List.map_nil,hx,hy]
 kernel_rfl
theorem sw {o:Oper} {a:Act} (x y:Operand) (g:Nat) (ho:o.op=.build 30 #[(1,x),(3,y)]) (hx:a.eval x=.agg knX) (hy:a.eval y=.slice (some ⟨g,0,none⟩) 1 1) (w:World):(execOp a.eval o).run Tryz.prog w=.ok (.value (.agg (knT g))) w:=by
 unfold execOp
 simp only [ho,List.map_toArray,List.map_cons,List.map_nil,hx,hy]
 kernel_rfl
theorem uw:tl fN=[102]:=by simp [tl,fN]
theorem bK:qT kv7 Md.zero KF=0:=by
 have h1:kJ none fN 1=0:=by
  unfold kJ
  rw [uw]
  rfl
 refine xL (by decide) ?_
 unfold KF
 rw [jt,show ([]:List ByteArray).length+1=1 from rfl,h1]
 rfl
theorem ux (W:World):HasN (W.alloc (.cells knF 30)) (knT W.heap.size) ⟨#[]⟩ kv7 Md.zero KF:=by
 refine ⟨_,rfl,some ⟨W.heap.size,0,none⟩,1,rfl,Nat.le_refl _,.inr ⟨W.heap.size,0,rfl,⟨none,0,fun j u hj=>?_,Nat.le_refl _,.inl rfl⟩,trivial⟩⟩
 rw [Nat.zero_add]
 have:=World.cell?_alloc_new W knF 30 j
 rw [this]
 exact hj
theorem ib:Ar 2 kv7 Md.zero KF:=⟨by decide,by decide,rfl,bK,⟨fun q=>absurd q (by decide),⟨fun q=>absurd q (by decide),trivial,trivial⟩⟩,zr,⟨zr,trivial,trivial⟩,by decide⟩
def KG:F:=KF.mp id (mz 2)
theorem sy:KG.rises:=⟨trivial,trivial,trivial⟩
theorem wQ:subS (kv7,mz 2 Md.zero,KG) fN=some (fv7,mz 2 fm7,.nil):=by
 have h1:yc (tl fN) 64=0:=by rw [uw];decide
 have h2:cutN fN=[fN]:=by
  unfold cutN
  have e:jm (tl fN)=[tl fN]:=by rw [uw];decide
  rw [e,List.map_cons,tf]
  rfl
 unfold subS
 rw [if_pos h1,h2]
 show (F.get KG fN).bind _=_
 unfold KG KF F.mp F.get
 rw [if_pos rfl]
 rfl
theorem wL (p:Nat) (k:K) (W:World) (hT:AtT W p kv7 Md.zero k) (hk:k.flat=KF) (hTb:Su.Tabs W) (hTh:Su.Half W):
  Calls Tryz.prog 11 #[.pointer (some ⟨p,0,none⟩),.int .i64 2,.int .i64 9] W fun e w'=>∃ x,e=.returned (.tuple #[x,.int .i64 0])∧G W w'∧Su.Has w' x (arcW 2 kv7 Md.zero KF):=by
 refine (zK p kv7 Md.zero k W 2 9 hT (bW (jl bK).1 zr) (by rw [hk];exact ib.g.1) (by rw [hk];exact ib.g.2) (by rw [hk];decide) (by rw [hk];exact Nat.le_trans ib.hw (by decide)) (by rw [hk];exact xM bK) hTb hTh).mono ?_
 rintro e w' h
 have h0:encE 2 kv7.kind (1+k.flat.size:Nat) 9=0:=by rw [hk];decide
 rcases h with ⟨q,_⟩ | ⟨_,x,q1,q2,q3⟩
 ·exact absurd h0 q
 ·have e1:wrF 2 k.flat=KF:=by rw [hk];unfold wrF;rw [if_neg (by decide)]
  have e2:wrV 2 kv7=kv7:=by unfold wrV;rw [if_neg (by decide)]
  rw [e1,e2] at q2
  exact ⟨x,q1,q3,q2.has⟩
theorem uy (tv:Nat) (h2:2≤tv) (h3:tv≤3):Ar tv kv7 (mz 2 Md.zero) KG:=ib.later h2 h3
def kA3:List Nat:=arcW 3 kv7 (mz 2 Md.zero) KG
theorem bL:kA3.take 4=twn∧kA3.getD 4 0=3∧4<kA3.length:=by
 have hA:kA3=[116,119,110,101,3]++((encN (1+KG.size)++encT 3 [] kv7 (mz 2 Md.zero) KG)++le4 (Su.Crc.crc (arcB 3 kv7 (mz 2 Md.zero) KG))):=by
  unfold kA3 arcW
  rw [← List.append_assoc,bZ 3 (by decide)];rfl
 rw [hA]
 refine ⟨rfl,rfl,?_⟩
 rw [List.length_append]
 simp only [List.length_cons,List.length_nil]
 omega
theorem nH (w:World) (hTb:Su.Tabs w) (hTh:Su.Half w) (hE:ErrT w) (h1:1<w.heap.size):Calls Tryz.prog 22 #[] w fun e w'=>e=.returned (.bool true)∧G w w':=by
 have HG0:Hid (G w (w.alloc (.cells knF 30))):=G.alloc _ _
 have C1:Hid (Calls Tryz.prog 29 #[.agg (knT w.heap.size)] (w.alloc (.cells knF 30)) fun e w'=>∃ p k,e=.returned (.tuple #[.pointer (some ⟨p,0,none⟩),.int .i64 0])∧G (w.alloc (.cells knF 30)) w'∧AtT w' p kv7 Md.zero k∧k.flat=KF):=
  (eL (knT w.heap.size) ⟨#[]⟩ kv7 Md.zero KF _ (ux w) (Nat.le_trans ib.hw (by decide))).mono fun e w' ⟨u,q1,q2,q3⟩=>by
   rw [bK] at q1 q3
   rcases q3 with ⟨q,_⟩ | ⟨_,p,k,rfl,h3,h4,_⟩
   ·exact absurd rfl q
   ·exact ⟨p,k,q1,q2,h3,h4⟩
 have HC2:Hid (∀ (p:Nat) (k:K) (W:World),G w W→AtT W p kv7 Md.zero k→k.flat=KF→Calls Tryz.prog 11 #[.pointer (some ⟨p,0,none⟩),.int .i64 2,.int .i64 9] W fun e w'=>∃ x,e=.returned (.tuple #[x,.int .i64 0])∧G W w'∧Su.Has w' x (arcW 2 kv7 Md.zero KF)):=
  fun p k W hg h2 h3=>wL p k W h2 h3 (hTb.up hg) (hTh.below hg (by omega))
 have HC3:Hid (∀ (x:Value) (W:World),G w W→Su.Has W x (arcW 2 kv7 Md.zero KF)→Calls Tryz.prog 24 #[x,.int .i64 3,.int .i64 9] W fun e w'=>∃ a cap,e=.returned (.tuple #[.slice (some a) kA3.length cap,.nilIface])∧G W w'∧Su.Has w' (.slice (some a) kA3.length cap) kA3∧kA3.length≤cap):=
  fun x W hg h2=>(yy x 3 9 W ib (by decide) h2 (hTb.up hg) (hTh.below hg (by omega)) (hE.up hg) (by have:=hg.size;omega)).mono fun e w' ⟨q0,q⟩=>by
   rcases q with ⟨q,_⟩ | ⟨_,x,q1,q2⟩
   ·omega
   ·have q2:Su.Has w' x kA3:=q2
    have h5:=bL.2.2
    rcases q2 with ⟨_,e2⟩ | ⟨a,cap,e1,e2,e3⟩
    ·rw [e2] at h5;exact absurd h5 (by decide)
    ·subst e1;exact ⟨a,cap,q1,q0,.inr ⟨a,cap,rfl,e2,e3⟩,e2⟩
 have HC4:Hid (∀ (a:Addr) (cap:Nat) (W:World),Su.Has W (.slice (some a) kA3.length cap) kA3→kA3.length≤cap→Calls Tryz.prog 45 #[.slice (some a) kA3.length cap] W fun e w'=>e=.returned (.tuple #[.int .i64 3,.bool true])∧G W w'):=
  fun a cap W h2 h3=>ie a cap 3 kA3 W h2 h3 bL.2.2 (uy 3 (by decide) (by decide)).bytes bL.1 bL.2.1 (by decide) (by decide)
 have HC5:Hid (∀ (v:Value) (W:World),G w W→Su.Has W v kA3→Calls Tryz.prog 13 #[v,.int .i64 9] W fun e w'=>∃ p,e=.returned (.tuple #[.pointer (some ⟨p,0,none⟩),.int .i64 3,.nilIface])∧G W w'∧AtTF w' p kv7 (mz 2 Md.zero) KG):=
  fun v W hg h2=>(dw v W (uy 3 (by decide) (by decide)) (by decide) h2 (hTb.up hg) (hTh.below hg (by omega)) (hE.up hg) (by have:=hg.size;omega)).mono fun _ _ ⟨p,k,q1,q2,q3,q4⟩=>by
   have hb:=ib.back (tv:=3) (by decide)
   have hb1:mz (3:Nat) (mz 2 Md.zero)=mz 2 Md.zero:=hb.1
   have hb2:KG.mp id (mz (3:Nat))=KG:=hb.2
   rw [hb1] at q3
   rw [hb2] at q4
   exact ⟨p,q1,q2,k,q3,q4⟩
 have HC6:Hid (∀ (p:Nat) (W:World),AtTF W p kv7 (mz 2 Md.zero) KG→Calls Tryz.prog 46 #[.pointer (some ⟨p,0,none⟩),.string { data:=#[102] }] W fun e w'=>e=.returned (.tuple #[.agg (vx fv7).toArray,.bool true])∧G W w'):=
  fun p W h2=>(es p (kv7,mz 2 Md.zero,KG) fN W h2 sy (by decide)).mono fun _ _ ⟨q1,q2⟩=>by
   unfold atV at q1
   rw [wQ] at q1
   exact ⟨q1,q2⟩
 have HC7:Hid (∀ (x:Value) (W:World),G w W→Su.Has W x kA3→Calls Tryz.prog 24 #[x,.int .i64 2,.int .i64 9] W fun e w'=>∃ fb,e=.returned (.tuple #[.slice none 0 0,.iface 72 (.pointer (some ⟨fb,0,none⟩))])∧G W w'∧w'.heap[fb]?=some (.cells (fc 4 ⟨#[]⟩ 70) 93 (0,0))):=
  fun x W hg h2=>(yy x 2 9 W (uy 3 (by decide) (by decide)) (by decide) h2 (hTb.up hg) (hTh.below hg (by omega)) (hE.up hg) (by have:=hg.size;omega)).mono fun e w' ⟨q0,q⟩=>by
   rcases q with ⟨_,fb,q1,q2⟩ | ⟨q,_⟩
   ·exact ⟨fb,q1,q0,q2⟩
   ·omega
 have HTo:Hid (∀ (fb:Nat) (W:World),W.heap[fb]?=some (.cells (fc 4 ⟨#[]⟩ 70) 93 (0,0))→Calls Tryz.prog 25 #[.iface 72 (.pointer (some ⟨fb,0,none⟩))] W fun x w'=>x=.returned (.tuple #[.agg #[.int .i64 4,.string ⟨#[]⟩,.int .i64 70],.bool true])∧G W w'):=
  fun fb W h=>dZ fb 4 70 ⟨#[]⟩ W h (by decide)
 clear hTb hTh hE h1
 generalize hN:kA3.length=N at *
 have hNN:Hid (kA3.length=N):=hN
 clear hN
 go_enter Tryz.func22,Tryz.ntmps22
 go_upto_region 8 with (first
  | ((with_reducible refine jA (.agg knX) ?_ ?_ ?_);exact rX rfl _;kernel_rfl)
  | ((with_reducible refine jA (.agg (vx fv7).toArray) ?_ ?_ ?_);exact so rfl _;kernel_rfl)
  | ((with_reducible refine jA (.agg #[.int .i64 4,.int .i64 5]) ?_ ?_ ?_);exact sq rfl _;kernel_rfl)
  | ((with_reducible refine jA (.agg #[.int .i64 0,.int .i64 0]) ?_ ?_ ?_);exact sr rfl _;kernel_rfl)
  | ((with_reducible refine jA (.agg (mx fm7).toArray) ?_ ?_ ?_);exact ss _ _ rfl rfl rfl _;kernel_rfl)
  | ((with_reducible refine jA (.agg knF) ?_ ?_ ?_);exact su _ _ rfl rfl rfl _;kernel_rfl)
  | ((with_reducible refine jA (.agg (knT w.heap.size)) ?_ ?_ ?_);exact sw _ _ _ rfl rfl rfl _;kernel_rfl)
  | (go_at_call 29;refine C1.o.mono ?_;rintro e w1 ⟨p,k,rfl,hg1,hT1,hk1⟩;have HT1:=hid (⟨G.trans HG0.o hg1,hT1,hk1⟩:_∧_∧_);clear hg1 hT1 hk1)
  | (go_at_call 11;refine (HC2.o p k _ HT1.o.1 HT1.o.2.1 HT1.o.2.2).mono ?_;rintro e w2 ⟨x2,rfl,hg2,hh2⟩;have HT2:=hid (⟨G.trans HT1.o.1 hg2,hh2⟩:_∧_);clear hg2 hh2)
  | (go_at_call 24;refine (HC3.o _ _ HT2.o.1 HT2.o.2).mono ?_;rintro e w3 ⟨a,cap,rfl,hg3,hh3,hc3⟩;have HT3:=hid (⟨G.trans HT2.o.1 hg3,hh3,hc3⟩:_∧_∧_);clear hg3 hh3 hc3)
  | (go_at_call 45;refine (HC4.o a cap w3 HT3.o.2.1 HT3.o.2.2).mono ?_;rintro e w4 ⟨rfl,hg4⟩;have HT4:=hid (⟨G.trans HT3.o.1 hg4,HT3.o.2.1.below hg4⟩:_∧_);clear hg4)
  | (go_at_call 13;refine (HC5.o _ w4 HT4.o.1 HT4.o.2).mono ?_;rintro e w5 ⟨p5,rfl,hg5,hT5⟩;have HT5:=hid (⟨G.trans HT4.o.1 hg5,HT4.o.2.below hg5,hT5⟩:_∧_∧_);clear hg5 hT5))
 go_upto_region 11 with (first
  | (go_at_call 46;refine (HC6.o p5 w5 HT5.o.2.2).mono ?_;rintro e w6 ⟨rfl,hg6⟩;have HT6:=hid (⟨G.trans HT5.o.1 hg6,HT5.o.2.1.below hg6⟩:_∧_);clear hg6)
  | ((with_reducible refine jE (.pointer (some ⟨w6.heap.size,0,none⟩)) (w6.alloc (.cells (vx Vd.zero).toArray 24)) ?_ ?_ ?_);exact zA rfl _;kernel_rfl)
  | ((with_reducible refine jD ((w6.alloc (.cells (vx Vd.zero).toArray 24)).setRow w6.heap.size (vx fv7).toArray) ?_ ?_ ?_);exact zC _ _ rfl w6.heap.size _ (vx Vd.zero).toArray rfl rfl _ (World.alloc_heap_new w6 _) (yg _) (yg _) (zk _);kernel_rfl))
 have HV:Hid (ar ((w6.alloc (.cells (vx Vd.zero).toArray 24)).setRow w6.heap.size (vx fv7).toArray) w6.heap.size (vx fv7).toArray):=setRow_heap _ _ _ _ 24 _ (World.alloc_heap_new w6 _)
 have HT7:Hid (G w6 ((w6.alloc (.cells (vx Vd.zero).toArray 24)).setRow w6.heap.size (vx fv7).toArray)):=Below.trans (B:=w6.heap.size) (G.alloc _ _) ⟨rfl,rfl,rfl,by simp,fun b hb=>setRow_other _ _ b _ (by omega)⟩
 generalize (w6.alloc (.cells (vx Vd.zero).toArray 24)).setRow w6.heap.size (vx fv7).toArray=w7 at *
 generalize hB:w6.heap.size=B at *
 have HB:=hid hB
 clear hB
 go_upto_region 13 with (first
  | (go_at_call 24;refine (HC7.o _ w7 (G.trans HT6.o.1 HT7.o) (HT6.o.2.below HT7.o)).mono ?_;rintro e w8 ⟨fb,rfl,hg8,hf8⟩;have HT8:=hid (⟨hg8,hf8⟩:_∧_);clear hg8 hf8)
  | (go_at_call 25;refine (HTo.o fb w8 HT8.o.2).mono ?_;rintro e w9 ⟨rfl,hg9⟩;have HT9:=hid (G.trans HT8.o.1 hg9);clear hg9))
 have hV9:ar (w9.alloc (.cells #[.int .i64 4,.string { data:=#[] },.int .i64 70] 49)) B (vx fv7).toArray:=HV.o.grow (G.trans HT9.o (G.alloc _ _))
 have hV9':(w9.alloc (.cells #[.int .i64 4,.string { data:=#[] },.int .i64 70] 49)).heap[B]?=some (.cells (vx fv7).toArray 24 (0,0)):=hV9
 have c1:(w9.alloc (.cells #[.int .i64 4,.string { data:=#[] },.int .i64 70] 49)).cell? ⟨B,1,none⟩=some (.int .i64 6):=by simp only [World.cell?,hV9'];rfl
 have c2:(w9.alloc (.cells #[.int .i64 4,.string { data:=#[] },.int .i64 70] 49)).cell? ⟨B,2,none⟩=some (.int .i64 3):=by simp only [World.cell?,hV9'];rfl
 clear hV9 hV9'
 go_wp2_with fail
 go_ret
 exact ⟨rfl,G.trans HT6.o.1 (G.trans HT7.o (G.trans HT9.o (G.alloc _ _)))⟩
end Go.Proofs.YtjikkhbcbfpocaaGreatDoor
