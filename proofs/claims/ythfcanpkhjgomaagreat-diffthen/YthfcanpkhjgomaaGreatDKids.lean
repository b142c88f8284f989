import Derived.Test.YthfcanpkhjgomaaGreatAtA
import Derived.Test.YthfcanpkhjgomaaGreatCSame
import Derived.Test.YthfcanpkhjgomaaGreatRefOrder
import Derived.Shelf.Small.Strs
set_option maxRecDepth 100000
set_option maxHeartbeats 4000000
namespace Go.Proofs.YthfcanpkhjgomaaGreat
open Go.RowKit Go.Shelf
def kidsF:List Kid→F
 | []=>.nil
 | x::r=>.cons x.nm x.v x.m x.k.flat (kidsF r)
theorem kidsF_app:∀ a b:List Kid,kidsF (a++b)=(kidsF a).app (kidsF b)
 | [],_=>rfl
 | x::a,b=>by rw [List.cons_append,kidsF,kidsF,F.app,kidsF_app a b]
theorem kidsF_items:∀ k:K,kidsF k.items=k.flat
 | .nil=>rfl
 | .node _ _ _ _ _ _ ah be=>by rw [K.items,kidsF_app,kidsF_items ah,kidsF,kidsF_items be,K.flat]
theorem owns_form {w:World} {base e size n:Nat} {u:Value} {xs:List Value} (h:w.ownsRow base e size u n xs):∃ ao uc,u=.slice ao n uc:=by
 obtain ⟨_,q | ⟨g,cap,cur,hv,_⟩⟩:=h
 ·obtain ⟨rfl,rfl⟩:=q;exact ⟨_,_,rfl⟩
 ·exact ⟨_,_,hv⟩
theorem exec_slice1e {o:Oper} {a:Act} (x:Operand) (ho:o.op=.buildSlice 28 1 #[(0,x)]) (c:Array Value) (hx:a.eval x=.agg c) (hs:c.size=41) (w:World) (b:Nat) (hb:w.heap.size=b):
  (execOp a.eval o).run Tryz.prog w=.ok (.value (.slice (some ⟨b,0,none⟩) 1 1)) (w.alloc (.cells c 30)):=by
 subst hb;exact exec_slice1 x ho c hx hs w
attribute [local go_sem] Oper.semAt_some
theorem step_worldIn {F:Fence} {m:Nat} {P:Program} {c:Code} {Q:Exit→Act→World→Prop} {a:Act} {W:World} (I:World→Prop) (h:I W) (k:∀ wr,I wr→c.wpIn F m P Q a wr):c.wpIn F m P Q a W:=k W h
def RetM (fn:Func) (R:Ending→World→Prop):Exit→Act→World→Prop
 | .ret,a,w=>LeavesInM Fence.wide 3 Tryz.prog fn a.tmps R a.defers .returning w
 | _,_,_=>False
theorem RetM.post {fn:Func} {R:Ending→World→Prop}:∀ e a w,RetM fn R e a w→bodyPostM Fence.wide 3 Tryz.prog fn R e a w
 | .ret,_,_,h=>h
 | .normal,_,_,h | .panic _,_,_,h | .outgrown,_,_,h | .exit _,_,_,h | .goto _,_,_,h=>h.elim
end Go.Proofs.YthfcanpkhjgomaaGreat
namespace Go.Proofs.YthfcanpkhjgomaaGreat
open Go.RowKit
theorem subtree_none (w:World):Calls Tryz.prog 97 #[.pointer none] w fun e w'=>e=.returned (.pointer none)∧w'=w:=by
 go_enter Tryz.func97,Tryz.ntmps97
 go_wp2
 all_goals go_ret
 all_goals exact ⟨rfl,rfl⟩
theorem subtree_some (B o p:Nat) (w:World) (h:w.cell? ⟨B,o+1,none⟩=some (.pointer (some ⟨p,0,none⟩))):Calls Tryz.prog 97 #[.pointer (some ⟨B,o,none⟩)] w fun e w'=>e=.returned (.pointer (some ⟨p,0,none⟩))∧w'=w:=by
 go_enter Tryz.func97,Tryz.ntmps97
 go_wp2
 all_goals go_ret
 all_goals exact ⟨rfl,rfl⟩
theorem under24v:Tryz.prog.underlying 24=some (.struct (Tryz.prog.fieldsOf 24)):=by kernel_rfl
theorem size24v:(Tryz.prog.info? 24).map (·.size)=some 35:=by kernel_rfl
def vzA:Array Value:=(Ch.vx Ch.vz).toArray
theorem zero24v:(Tryz.prog.info? 24).bind (·.zero)=some (.agg vzA):=by kernel_rfl
theorem vx_oneM (v:Vd):(vx v).toArray.all (·.oneCell')=true:=by
 have:=Ch.vx_oneA ⟨v.kind,v.mode,v.size,v.sum,v.len⟩
 exact this
theorem value_any (p:Nat) (v:Vd) (m:Md) (k:K) (w:World) (h:AtT w p v m k):Calls Tryz.prog 123 #[.pointer (some ⟨p,0,none⟩)] w fun e w'=>e=.returned (.agg (vx v).toArray)∧Below w.heap.size w w':=by
 obtain ⟨pk,hl,_⟩:=h
 obtain ⟨B,hB⟩:∃ B,w.heap.size=B:=⟨_,rfl⟩
 obtain ⟨Y,hY⟩:∃ Y,(vx v).toArray=Y:=⟨_,rfl⟩
 have HY:Hid (Y.size=35∧Y.all (·.oneCell')=true):=⟨by rw [← hY];simp [vx_len],by rw [← hY];exact vx_oneM v⟩
 have hp:Lies w p 0 Y:=by have:=hl.part 0 35;rwa [tc_val,hY] at this
 have n1:=Ch.new_varT w 24 vzA Y
 rw [hB] at n1
 have g0:Below w.heap.size w (w.alloc (.cells vzA 24)):=(Below.refl _ w).alloc (Nat.le_refl _) _
 have HL:Hid (Lies (w.alloc (.cells vzA 24)) p 0 Y):=fun j u hj=>(g0.cell (World.block_lt_of_cell? w _ (hp j u hj))).trans (hp j u hj)
 have HA:Hid ((w.alloc (.cells vzA 24)).heap[B]?=some (.cells vzA 24 (0,0))):=by rw [← hB];exact heap_alloc_new _ _
 obtain ⟨w1,hw1⟩:∃ w1,(w.alloc (.cells vzA 24)).setRow B Y=w1:=⟨_,rfl⟩
 rw [hw1] at n1
 have HW:=hid hw1
 have HN:=hid n1
 rw [hY]
 clear hl hp n1 g0 hw1 hY
 go_enter Tryz.func123,Tryz.ntmps123
 go_wp2_with (first
  | ((with_reducible refine wpList_execW (.pointer (some ⟨B,0,none⟩)) (w.alloc (.cells vzA 24)) ?_ ?_ ?_);exact Ch.exec_allocT 24 vzA rfl zero24v _ _ hB;kernel_rfl)
  | ((with_reducible refine wpList_exec (.agg Y) ?_ ?_ ?_);exact Ch.exec_load 24 _ rfl p 0 rfl Y _ HL.out under24v rfl (by rw [size24v,HY.out.1]);kernel_rfl)
  | ((with_reducible refine wpList_skipW w1 ?_ ?_ ?_);exact (by rw [← HW.out];exact Ch.exec_storeT 24 _ _ rfl B Y vzA rfl rfl _ HA.out (by rw [size24v,HY.out.1]) (by rw [HY.out.1];rfl) HY.out.2);kernel_rfl))
 refine bodyPost_ret (results_cell_row (P:=Tryz.prog) (p:=2) (ty:=24) rfl _ _ B 24 Y (0,0) _ rfl HN.out.2.1 under24v rfl (by rw [size24v,HY.out.1])) rfl ?_
 exact ⟨rfl,by have:=HN.out.1;rwa [hB]⟩
theorem valueOf_none (w:World):Calls Tryz.prog 91 #[.pointer none] w fun e w'=>e=.returned (.agg vzA)∧Below w.heap.size w w':=by
 obtain ⟨B,hB⟩:∃ B,w.heap.size=B:=⟨_,rfl⟩
 have n1:=Ch.new_varT w 24 vzA vzA
 rw [hB] at n1
 have HA:Hid ((w.alloc (.cells vzA 24)).heap[B]?=some (.cells vzA 24 (0,0))):=by rw [← hB];exact heap_alloc_new _ _
 obtain ⟨w1,hw1⟩:∃ w1,(w.alloc (.cells vzA 24)).setRow B vzA=w1:=⟨_,rfl⟩
 rw [hw1] at n1
 have HW:=hid hw1
 have HN:=hid n1
 have HV:Hid (vzA.all (·.oneCell')=true):=Ch.vx_oneA _
 have HB:Hid (Tryz.prog.built 24 []=some vzA):=by show Tryz.prog.built 24 []=some vzA;kernel_rfl
 clear n1 hw1
 go_enter Tryz.func91,Tryz.ntmps91
 go_wp2_with (first
  | ((with_reducible refine wpList_execW (.pointer (some ⟨B,0,none⟩)) (w.alloc (.cells vzA 24)) ?_ ?_ ?_);exact Ch.exec_allocT 24 vzA rfl zero24v _ _ hB;kernel_rfl)
  | ((with_reducible refine wpList_skipW w1 ?_ ?_ ?_);exact (by rw [← HW.out];exact Ch.exec_storeT 24 _ _ rfl B vzA vzA rfl rfl _ HA.out (by rw [size24v];rfl) rfl HV.out);kernel_rfl))
 refine bodyPost_ret (results_cell_row (P:=Tryz.prog) (p:=2) (ty:=24) rfl _ _ B 24 vzA (0,0) _ rfl HN.out.2.1 under24v rfl (by rw [size24v];rfl)) rfl ?_
 exact ⟨rfl,by have:=HN.out.1;rwa [hB]⟩
theorem valueOf_some (p:Nat) (v:Vd) (m:Md) (k:K) (w:World) (h:AtT w p v m k):Calls Tryz.prog 91 #[.pointer (some ⟨p,0,none⟩)] w fun e w'=>e=.returned (.agg (vx v).toArray)∧Below w.heap.size w w':=by
 obtain ⟨B,hB⟩:∃ B,w.heap.size=B:=⟨_,rfl⟩
 obtain ⟨w0,hw0⟩:∃ w0,w.alloc (.cells vzA 24)=w0:=⟨_,rfl⟩
 have g0:Below w.heap.size w w0:=by rw [← hw0];exact (Below.refl _ w).alloc (Nat.le_refl _) _
 have a0:w0.heap[B]?=some (.cells vzA 24 (0,0)):=by rw [← hw0,← hB];exact heap_alloc_new _ _
 have CV:=hid (value_any p v m k w0 (h.grow g0))
 obtain ⟨Y,hY⟩:∃ Y,(vx v).toArray=Y:=⟨_,rfl⟩
 have HY:Hid (Y.size=35∧Y.all (·.oneCell')=true):=⟨by rw [← hY];simp [vx_len],by rw [← hY];exact vx_oneM v⟩
 rw [hY] at CV ⊢
 have H0:=hid (And.intro g0 a0)
 clear h g0 a0 hY
 go_enter Tryz.func91,Tryz.ntmps91
 go_upto_region 3 with ((with_reducible refine wpList_execW (.pointer (some ⟨B,0,none⟩)) (w.alloc (.cells vzA 24)) ?_ ?_ ?_);exact Ch.exec_allocT 24 vzA rfl zero24v _ _ hB;kernel_rfl)
 go_wp2_with (first
  | (go_at_call 123;refine CV.out.mono ?_;rintro e w1 ⟨rfl,b1⟩;have H1:=hid b1;clear b1)
  | ((with_reducible refine wpList_skipW (w1.setRow B Y) ?_ ?_ ?_);exact Ch.exec_storeT 24 _ _ rfl B Y vzA rfl rfl _ ((H1.out.block B (Array.getElem?_eq_some_iff.1 H0.out.2).1).trans H0.out.2) (by rw [size24v,HY.out.1]) (by rw [HY.out.1];rfl) HY.out.2;kernel_rfl))
 have hB1:=(H1.out.block B (Array.getElem?_eq_some_iff.1 H0.out.2).1).trans H0.out.2
 refine bodyPost_ret (results_cell_row (P:=Tryz.prog) (p:=2) (ty:=24) rfl _ _ B 24 Y (0,0) _ rfl (setRow_heap _ _ vzA Y 24 _ hB1) under24v rfl (by rw [size24v,HY.out.1])) rfl ?_
 refine ⟨rfl,?_⟩
 have b1:Below w.heap.size w w1:=Below.trans H0.out.1 (H1.out.mono H0.out.1.size)
 exact ⟨b1.os,b1.tape,b1.output,by have:=b1.size;simpa using this,fun b hb=>(setRow_other _ _ _ _ (by omega)).trans (b1.block b hb)⟩
def cmpB (a b:ByteArray):Int:=Lib.compareBytes a.data.toList b.data.toList
theorem cmpStr_any (a b:ByteArray) (w:World):Calls Tryz.prog 142 #[.string a,.string b] w fun e w'=>e=.returned (.int .i64 (cmpB a b))∧w'=w:=by
 go_enter Tryz.func142,Tryz.ntmps142
 go_wp2
 rw [run_callFunc_extern Tryz.func154 (by kernel_rfl) (by kernel_rfl) (by kernel_rfl) (e:=Extern.BytealgCompare.compare) (by kernel_rfl),Lib.run_compareString]
 simp only [Result.andThen]
 rw [Oper.upon_value]
 go_wp2
 go_ret
 exact ⟨rfl,rfl⟩
theorem sCompare_any (a b:ByteArray) (w:World):Calls Tryz.prog 126 #[.string a,.string b] w fun e w'=>e=.returned (.int .i64 (cmpB a b))∧w'=w:=by
 go_enter Tryz.func126,Tryz.ntmps126
 go_wp2_with (go_at_call 142;refine (cmpStr_any _ _ _).mono ?_;rintro e wq ⟨rfl,rfl⟩)
 go_ret
 exact ⟨rfl,rfl⟩
theorem compareKids_any (g1 o1 g2 o2:Nat) (a b:ByteArray) (w:World) (h1:w.cell? ⟨g1,o1,none⟩=some (.string a)) (h2:w.cell? ⟨g2,o2,none⟩=some (.string b)):
  Calls Tryz.prog 95 #[.pointer (some ⟨g1,o1,none⟩),.pointer (some ⟨g2,o2,none⟩)] w fun e w'=>e=.returned (.int .i64 (cmpB a b))∧Drew w w':=by
 have CC:=fun W=>sCompare_any a b W
 go_enter Tryz.func95,Tryz.ntmps95
 go_wp2_with fail
 go_quiet ((go_at_call 126;exact Calls.quiet_of_same (CC _)))
 go_wp2
 go_ret
 exact ⟨rfl,_,rfl⟩
theorem below_of_cmp:∀ a b:By,(Lib.compareBytes a b=-1↔belowL a b=true)∧(Lib.compareBytes a b=0↔a=b)∧(Lib.compareBytes a b=1↔belowL b a=true)
 | [],[]=>by simp [Lib.compareBytes,belowL]
 | [],_::_=>by simp [Lib.compareBytes,belowL]
 | _::_,[]=>by simp [Lib.compareBytes,belowL]
 | x::a,y::b=>by
  have ih:=below_of_cmp a b
  unfold Lib.compareBytes belowL
  by_cases e:x=y
  ·subst e
   have hlt:¬ x<x:=UInt8.lt_irrefl x
   simp only [hlt,if_false,if_true,List.cons.injEq,true_and]
   exact ih
  ·have e':¬ y=x:=fun q=>e q.symm
   simp only [e,e',if_false,List.cons.injEq,false_and,iff_false]
   by_cases hlt:x<y
   ·have h2:x.toNat<y.toNat:=UInt8.lt_iff_toNat_lt.1 hlt
    simp [hlt,h2]
    omega
   ·have h2:y<x:=UInt8.lt_of_le_of_ne (UInt8.not_lt.1 hlt) e'
    have h3:y.toNat<x.toNat:=UInt8.lt_iff_toNat_lt.1 h2
    simp [hlt,h2,h3]
    omega
open Go.Shelf
attribute [local go_sem] Oper.semAt_some
def kdC (x:Kid):List Value:=[.string x.nm,.pointer (some ⟨x.p,0,none⟩)]
def kcs:List Kid→List Value
 | []=>[]
 | x::L=>kdC x++kcs L
theorem kcs_snoc:∀ (L:List Kid) (x:Kid),kcs (L++[x])=kcs L++kdC x
 | [],x=>by simp [kcs]
 | y::L,x=>by rw [List.cons_append,kcs,kcs,kcs_snoc L x,List.append_assoc]
def KI (w:World) (B:Nat) (L:List Kid) (W:World):Prop:=∃ u,G w W∧W.heap[B]?=some (.cells #[u] 184 (0,0))∧W.ownsRow (B+1) 183 2 u L.length (kcs L)
theorem KI.own {w:World} {B B5 S:Nat} {w0:World} (hB:w.heap.size=B) (h5:B≤B5):OwnFrom B5 (fun (pre:List (KidIn w0 S)) W=>KI w B (kids pre) W):=by
 intro s W W' row ⟨u,h1,h2,h4⟩ hg hr
 have hc:∀ (b:Nat) (o:Obj),W.heap[b]?=some o→o.isCells=true→W'.heap[b]?=W.heap[b]?:=fun b o hb ho=>hg.block b (Array.getElem?_eq_some_iff.1 hb).1 fun e=>by
  obtain ⟨_,o',ho',hc'⟩:=hr b e.symm
  rw [hb] at ho'
  cases ho'
  rw [ho] at hc'
  cases hc'
 refine ⟨u,?_,(hc _ _ h2 rfl).trans h2,?_⟩
 ·exact Below.trans (B:=w.heap.size) h1 ⟨hg.os,hg.tape,hg.output,hg.size,fun b hb=>hg.block b (by have:=h1.size;omega) fun e=>by have:=(hr b e.symm).1;omega⟩
 ·obtain ⟨hl,h | ⟨g,cap,cur,hv,hb,hh,hr'⟩⟩:=h4
  ·exact ⟨hl,.inl h⟩
  ·exact ⟨hl,.inr ⟨g,cap,cur,hv,hb,(hc _ _ hh rfl).trans hh,hr'⟩⟩
theorem info96:(Tryz.prog.info? 183).map (fun i=>(i.zero,i.size,i.bytes))=some (some (.agg #[.string ⟨#[]⟩,.pointer none]),2,24):=by kernel_rfl
theorem kidsOf_any (p:Nat) (v:Vd) (m:Md) (k:K) (w:World) (hT:AtT w p v m k) (hsz:k.flat.size≤100000):
  Calls Tryz.prog 94 #[.pointer (some ⟨p,0,none⟩)] w fun e w'=>∃ u,e=.returned u∧w'.ownsRow w.heap.size 183 2 u k.items.length (kcs k.items)∧G w w':=by
 have HT:=hid hT
 obtain ⟨B,hB⟩:∃ B,w.heap.size=B:=⟨_,rfl⟩
 clear hT
 refine (callsIn_wide (n:=3)).1 ?_
 refine callsIn_of_wp_marks Tryz.func94 rfl trivial (Go.wpIn_mono (Q:=RetM Tryz.f94 _) ?_ RetM.post) rfl
 simp only [Tryz.ntmps94,List.size_toArray,List.length_cons,List.length_nil,Nat.reduceAdd,Nat.reduceSub,Array.replicate_succ,Array.replicate_zero,List.push_toArray,List.append_toArray,List.nil_append,List.cons_append]
 gi_wp2_with (first
  | (gi_at_call 55;refine (callsIn_wide.2 (childrenF_any p _)).mono ?_;rintro e w' ⟨rfl,rfl⟩)
  | (refine ⟨trivial,?_⟩;gi_at_call 55;refine (callsIn_wide.2 (childrenF_any p _)).mono ?_;rintro e w' ⟨rfl,rfl⟩))
 obtain ⟨W5,hW5⟩:∃ W5,(w.alloc (.cells #[.slice none 0 0] 184)).alloc (.cells #[.pointer (some ⟨p,0,none⟩)] 34)=W5:=⟨_,rfl⟩
 have g0:G w (w.alloc (.cells #[.slice none 0 0] 184)):=G.alloc w _
 have g1:G (w.alloc (.cells #[.slice none 0 0] 184)) W5:=by rw [← hW5];exact G.alloc _ _
 have hG5:G w W5:=g0.trans g1
 have hs5:W5.heap.size=B+2:=by rw [← hW5];simp [hB]
 have hb5:W5.heap[B]?=some (.cells #[.slice none 0 0] 184 (0,0)):=by
  have h0:(w.alloc (.cells #[.slice none 0 0] 184)).heap[B]?=some (.cells #[.slice none 0 0] 184 (0,0)):=by rw [← hB];exact heap_alloc_new _ _
  exact (Below.block g1 B (by simp [hB])).trans h0
 have hc5:W5.cell? ⟨B+1,0,none⟩=some (.pointer (some ⟨p,0,none⟩)):=by
  rw [← hW5]
  have:=lies_cell (lies_new (w.alloc (.cells #[.slice none 0 0] 184)) #[.pointer (some ⟨p,0,none⟩)] 34) 0 _ rfl
  simpa [hB] using this
 have hKI:KI w B [] W5:=⟨.slice none 0 0,hG5,hb5,World.ownsRow_nil _ _ _ _⟩
 obtain ⟨i0,hi,hz0,hz1,hz2⟩:=info_parts info96
 rw [hW5]
 clear hW5 g0 g1
 refine wpIn_rangeFunc_ownF rfl (by omega) (gf:=89) (lb:=#[.pointer (some ⟨B+1,0,none⟩)]) rfl trivial (enters_of Tryz.func89 (by kernel_rfl) rfl)
  (children_stops 2 w k.flat.size (B+1) p v m k W5 (by omega) hc5 HT.out (Nat.le_refl _) hG5)
  (fun h k=>h.trans k) (belowK_b (by omega)) (Below.refl _ _) (fun _=>rfl)
  (fun pre W=>KI w B (kids pre) W) (fun _ _ _=>False) (KI.own hB (by omega)) (fun _ _ _ _ _ hs _ _=>hs) hKI
  (fun x=>{ tmps:=#[.pointer (some ⟨p,0,none⟩),undef,.slice none 0 0,.pointer (some ⟨B,0,none⟩),.string x.1.nm,.pointer (some ⟨x.1.p,0,none⟩),.pointer (some ⟨p,0,none⟩),.bool false,.pointer (some ⟨p,0,none⟩),.func (.func 89) #[] #[.pointer (some ⟨B+1,0,none⟩)],.string x.1.nm,.pointer (some ⟨x.1.p,0,none⟩),undef,undef,undef,undef,undef,undef,undef],defers:=[] }) ?assign ?body ?done ?stop
 case assign=>
  intro l x W K hK
  gi_wp2
  exact hK
 case stop=>
  rintro D c pre W _ _ h _
  exact h.elim
 case body=>
  rintro l pre x W ⟨u,h1,h2,h3⟩ hlen
  obtain ⟨n0,hn0⟩:∃ n0,(kids pre).length=n0:=⟨_,rfl⟩
  have hn1:n0≤100000:=by
   have:pre.length=n0:=by rw [← hn0];simp
   rw [K.items_len] at hlen
   have:=k.flat.len_le_size
   omega
  rw [hn0] at h3
  obtain ⟨ao,uc,hu⟩:=owns_form h3
  subst hu
  obtain ⟨D,hD⟩:∃ D,W.heap.size=D:=⟨_,rfl⟩
  have hBW:B<W.heap.size:=(Array.getElem?_eq_some_iff.1 h2).1
  have cu:W.cell? ⟨B,0,none⟩=some (.slice ao n0 uc):=cell_of_row _ _ 0 _ _ _ h2
  obtain ⟨Wa,hWa⟩:∃ Wa,W.alloc (.cells #[.string x.1.nm,.pointer (some ⟨x.1.p,0,none⟩)] 183)=Wa:=⟨_,rfl⟩
  have ga:G W Wa:=by rw [← hWa];exact G.alloc _ _
  have oa:Wa.ownsRow (B+1) 183 2 (.slice ao n0 uc) n0 (kcs (kids pre)):=by rw [← hWa];exact World.ownsRow.alloc h3 _
  obtain ⟨v',W2,hr2,o2,gr2,_,_⟩:=run_append_own_at (P:=Tryz.prog) Wa (B+1) 184 184 183 i0 _ 2 24 Tryz.underlying184 hi hz0 hz1 hz2 rfl (by decide) _ n0 _ oa ⟨D,0,none⟩ 1 1 (kdC x.1) rfl (fun j u hj=>by
   rw [← hWa,← hD]
   have:=lies_cell (lies_new W #[.string x.1.nm,.pointer (some ⟨x.1.p,0,none⟩)] 183) j u (by simpa [kdC] using hj)
   simpa [Addr.add_mid] using this) (fun u hu=>by simp [kdC] at hu;rcases hu with rfl | rfl<;>rfl) (by unfold maxLen;omega) (by omega) (by have:=ga.size;omega)
  obtain ⟨a2,c2,e2⟩:=owns_form o2
  subst e2
  have hBn:(Value.slice ao n0 uc).ownBlock≠some B:=fun e=>by have:=(World.ownsRow.lt h3 B e).1;omega
  have b2:W2.heap[B]?=some (.cells #[.slice ao n0 uc] 184 (0,0)):=(gr2.block B (by have:=ga.size;omega) (fun e=>hBn e.symm)).trans ((Below.block ga B hBW).trans h2)
  have cz:W2.cell? ⟨B,0,none⟩=some (.slice ao n0 uc):=cell_of_row _ _ 0 _ _ _ b2
  have fz:W2.frozen? ⟨B,0,none⟩=false:=by simp [World.frozen?,b2]
  have HR:=hid hr2
  have HALL:=hid (And.intro h1 (And.intro h2 (And.intro h3 (And.intro ga (And.intro o2 (And.intro gr2 b2))))))
  clear h1 h2 h3 ga oa hr2 o2 gr2 b2 hKI hc5 hb5
  gi_wp2_with ((with_reducible refine wpListIn_execW (.slice a2 (n0+1) c2) W2 ?_ ?_ ?_ ?_ ?_);rfl;exact (by unfold execOp;simp only [resolve,invoke,builtin,Sem.run_bind,Sem.run_pure,Result.andThen_ok,List.map_toArray,List.map_cons,List.map_nil];exact congrArg (fun r=>Result.andThen r _) HR.out);(intro c h;cases h);exact fun _ _=>trivial)
  obtain ⟨h1,h2,h3,ga,o2,gr2,b2⟩:=HALL.out
  obtain ⟨Wz,hWz⟩:∃ Wz,W2.setCell ⟨B,0,none⟩ (.slice a2 (n0+1) c2)=Wz:=⟨_,rfl⟩
  rw [hWz]
  have sz:Wz.heap.size=W2.heap.size:=by rw [← hWz];simp
  have hlt:=World.ownsRow.lt h3
  have s1:=ga.size
  have s2:=gr2.size
  have hold:∀ b,b<W.heap.size→b≠B→(Value.slice ao n0 uc).ownBlock≠some b→Wz.heap[b]?=W.heap[b]?:=fun b hb hn hu=>by
   rw [← hWz,Below.heap_setCell _ _ _ _ hn]
   exact (gr2.block b (by omega) (fun e=>hu e.symm)).trans (Below.block ga b hb)
  have s0:=h1.size
  have hbel:Below w.heap.size W Wz:=⟨by rw [← hWz];exact gr2.os.trans ga.os,by rw [← hWz];exact gr2.tape.trans ga.tape,by rw [← hWz];exact gr2.output.trans ga.output,by omega,fun b hb=>hold b (by omega) (by omega) (fun e=>by have:=(hlt b e).1;omega)⟩
  refine ⟨⟨by omega,fun b o hb ho=>?_⟩,hbel,.slice a2 (n0+1) c2,Below.trans (B:=w.heap.size) h1 hbel,?_,?_⟩
  ·rw [hold b (Array.getElem?_eq_some_iff.1 hb).1 (fun e=>?_) (fun e=>?_)]
   ·exact hb
   ·subst e;rw [h2] at hb;cases hb;cases ho
   ·obtain ⟨_,q | ⟨g',cap',cur,hv,_,hh,_⟩⟩:=h3
    ·rw [q.1] at e;cases e
    ·rw [hv] at e
     cases e
     rw [hh] at hb
     cases hb
     cases ho
  ·rw [← hWz];simp only [World.setCell,Array.getElem?_modify,if_true,b2];rfl
  ·rw [show kids (pre++[x])=kids pre++[x.1] by simp,List.length_append,hn0,kcs_snoc]
   obtain ⟨q1,q | ⟨g',cap',cur,hv,hb',hh,hr'⟩⟩:=o2
   ·exact ⟨q1,.inl q⟩
   ·refine ⟨q1,.inr ⟨g',cap',cur,hv,hb',?_,hr'⟩⟩
    rw [← hWz,Below.heap_setCell _ _ _ _ (by show g'≠B;omega)]
    exact hh
 case done=>
  rintro D ys W hD hys ⟨u,h1,h2,h3⟩ hK
  have hys1:kids ys=k.items:=hys
  rw [hys1] at h3
  have cu:W.cell? ⟨B,0,none⟩=some u:=cell_of_row _ _ 0 _ _ _ h2
  obtain ⟨ao,uc,hu⟩:=owns_form h3
  subst hu
  have HF:=hid (And.intro h1 (And.intro h2 (And.intro h3 hK)))
  clear h1 h2 h3 hK hKI hc5 hb5
  gi_wp2
  obtain ⟨h1,h2,h3,hK⟩:=HF.out
  refine ⟨by simp,.inl ⟨_,_,rfl,run_takeDeferred hK,?_⟩⟩
  refine ⟨_,results_tmp (fn:=Tryz.f94) (t:=2) rfl _ _ _,_,rfl,?_,?_⟩
  ·obtain ⟨q1,q | ⟨g',cap',cur,hv,hb',hh,hr'⟩⟩:=h3
   ·exact ⟨q1,.inl q⟩
   ·refine ⟨q1,.inr ⟨g',cap',cur,hv,by omega,?_,hr'⟩⟩
    rw [World.putObj_heap_other (fun e=>by rw [e,hK] at hh;cases hh)]
    exact hh
  ·refine Below.trans (B:=w.heap.size) h1 ⟨rfl,rfl,rfl,by simp,fun b hb=>World.putObj_heap_other (fun e=>?_)⟩
   omega
end Go.Proofs.YthfcanpkhjgomaaGreat
