import Derived.Test.YtdeanahpiigonaaGreatDoorHJ0
set_option maxRecDepth 100000
set_option maxHeartbeats 8000000
namespace Go.Proofs.YtdeanahpiigonaaGreatDoor
open Go.RowKit Hm
attribute [local go_sem] Oper.semAt_some
theorem kF (n:Nat) (h:n≤1048576):IntKind.i64.wrap (n:Int)=(n:Int):=by simp [IntKind.wrap,IntKind.signed,IntKind.bits];omega
theorem fq (a b:Nat) (h:b≤a) (ha:a≤1048576):IntKind.i64.wrap ((a:Int)-b)=((a-b:Nat):Int):=by
 rw [show (a:Int)-b=((a-b:Nat):Int) by omega]
 exact kF _ (by omega)
def zI (S:List Nat→List Nat) (m:Nat) (W0:World):Prop:=∀ W u t,G W0 W→Su.Has W u t→Su.Bytes t→t.length≤100000→Calls Tryz.prog 29 #[.pointer (some ⟨m,0,none⟩),u] W fun e W'=>e=.returned (.agg (hA (S t)))∧G W W'
def af (S:List Nat→List Nat):Prop:=∀ t,(S t).length=32∧Su.Bytes (S t)
theorem yV {a b:List Nat} (ha:Su.Bytes a) (hb:Su.Bytes b):Su.Bytes (jw a b):=fun x hx=>by
 unfold jw at hx
 rcases List.mem_cons.1 hx with rfl | hx
 ·decide
 ·rcases List.mem_append.1 hx with hx | hx
  ·exact ha x hx
  ·exact hb x hx
theorem aR {S:List Nat→List Nat} (hS:af S) {x:List Nat} (hx:x.length=32∧Su.Bytes x):∀ (r:List (List Nat)) (c p:Nat),(yQ S x c p r).length=32∧Su.Bytes (yQ S x c p r)
 | [],_,_=>hx
 | t::r,c,p=>by
  rw [yQ]
  split
  ·exact hS _
  ·exact hS _
theorem oy (S:List Nat→List Nat) (hS:af S) (m:Nat) (W0:World) (hC:zI S m W0):∀ (l:Nat) (sib:List (List Nat)),sib.length=l→∀ (count place:Nat) (x:List Nat) (sv:Value) (w:World),G W0 w→HsL 32 w sv (sib.map hA)→(∀ y∈sib,y.length=32∧Su.Bytes y)→l=hgt count place→1≤count→count≤1048576→place<count→x.length=32∧Su.Bytes x→
  Calls Tryz.prog 96 #[.agg (hA x),.int .i64 (count:Int),.int .i64 (place:Int),sv,.func (.func 29) #[.pointer (some ⟨m,0,none⟩)] #[]] w fun e w'=>e=.returned (.agg (hA (yQ S x count place sib.reverse)))∧G w w':=by
 intro l
 induction l with
 | zero=>
  intro sib hl count place x sv w hw hsv hsb hh hc1 hc2 hpl hx
  have hs0:sib=[]:=List.length_eq_zero_iff.1 hl
  subst hs0
  have hcount:count=1:=by
   by_cases h2:2≤count
   ·by_cases hp:place<jl count
    ·rw [bl h2 hp] at hh;omega
    ·rw [bm h2 hp] at hh;omega
   ·omega
  subst hcount
  have hr:yQ S x 1 place ([]:List (List Nat)).reverse=x:=rfl
  rw [hr]
  obtain ⟨Xa,hXa⟩:∃ Xa,hA x=Xa:=⟨_,rfl⟩
  have HX:Hid (Xa.size=32∧Xa.all (·.oneCell')=true):=by rw [← hXa];exact ⟨jG hx.1,jn _⟩
  rw [hXa]
  clear hXa hr hh hsv hsb
  go_enter Tryz.func96,Tryz.ntmps96
  go_wp2_with (first
   | ((with_reducible refine jt 5 22 (.tmp 0) Xa ?_ ?_ ?_ ?_ ?_);rfl;rfl;kernel_rfl;rfl;intro w1 b1 H1)
   | ((with_reducible refine qC 10 22 (hA j7) ?_ ?_ ?_ ?_ ?_);rfl;rfl;kernel_rfl;exact jv;intro w2 b2 H2)
   | ((with_reducible refine jE 15 22 (.tmp 5) b1 0 Xa _ ?_ ?_ ?_ ?_ ?_ Tryz.underlying22 ?_ ?_ ?_);rfl;rfl;kernel_rfl;rfl;exact (Lies.of_heap ((H2.o.2.1.block b1 (by have:=H1.o.2.2.2;omega)).trans H1.o.2.2.1));rfl;exact (by rw [jK,HX.o.1]))
   | ((with_reducible refine qj 22 (.tmp 10) (.tmp 15) b2 Xa (hA j7) ?_ ?_ ?_ ?_ ?_ ?_ ?_ ?_ ?_ ?_);rfl;rfl;kernel_rfl;rfl;rfl;exact H2.o.2.2.1;exact (by rw [jK,HX.o.1]);exact ((jG jC).trans HX.o.1.symm);exact HX.o.2;intro w3 H3))
  refine bodyPost_ret (results_cell_row (P:=Tryz.prog) (p:=10) (ty:=22) rfl _ _ b2 22 Xa (0,0) _ rfl H3.o.2.1 Tryz.underlying22 rfl (by rw [jK,HX.o.1])) rfl ⟨rfl,?_⟩
  exact (((Kp.of (S:=fun _=>False) (G.trans H1.o.2.1 H2.o.2.1)).mono (S':=fun b=>w.heap.size≤b) fun _ _ e=>e.elim).trans H3.o.1 fun b hb e=>by have:=H1.o;have:=H2.o;omega).below (Nat.le_refl _) fun b e=>e
 | succ l ih=>
  intro sib hl count place x sv w hw hsv hsb hh hc1 hc2 hpl hx
  have h2:2≤count:=by
   by_cases h2:2≤count
   ·exact h2
   ·rw [zz h2] at hh;omega
  obtain ⟨init,y,rfl⟩:∃ init y,sib=init++[y]:=⟨sib.dropLast,sib.getLast (by intro e;rw [e] at hl;simp at hl),(List.dropLast_concat_getLast _).symm⟩
  have hil:init.length=l:=by simpa using hl
  obtain ⟨g,o,cap,hsvf,hcapp,hat⟩:∃ g o cap,sv=.slice (some ⟨g,o,none⟩) (l+1) cap∧l+1≤cap∧∀ i z,((init++[y]).map hA)[i]?=some z→Lies w g (o+i*32) z:=by
   rcases hsv with ⟨_,h⟩ | ⟨g,o,cap,h,hcc,hat⟩
   ·simp at h
   ·simp only [List.length_map] at h hcc
    rw [hl] at h hcc
    exact ⟨g,o,cap,h,hcc,hat⟩
  subst hsvf
  have hy:=hsb y (by simp)
  have hib:∀ z∈init,z.length=32∧Su.Bytes z:=fun z hz=>hsb z (by simp [hz])
  have hLy:Lies w g (o+l*32) (hA y):=hat l (hA y) (by simp [hil])
  have hpre:∀ W,G w W→HsL 32 W (.slice (some ⟨g,o,none⟩) l cap) (init.map hA):=fun W hW=>.inr ⟨g,o,cap,by simp [hil],by simp [hil];omega,fun i z hz=>(hat i z (by rw [List.map_append,List.getElem?_append_left (by have:=(List.getElem?_eq_some_iff.1 hz).1;simpa using this)];exact hz)).below hW⟩
  have hrev:(init++[y]).reverse=y::init.reverse:=by simp
  rw [hrev,yQ]
  have hl20:l≤20:=by have:=xz 20 count place (by simpa using hc2);omega
  have hl2:=zQ h2
  have hge:=lq h2
  have CHalf:=fun W=>cT count h2 (by omega) W
  obtain ⟨k,hk⟩:∃ k,jl count=k:=⟨_,rfl⟩
  rw [hk] at hl2 hge CHalf ⊢
  obtain ⟨Xa,hXa⟩:∃ Xa,hA x=Xa:=⟨_,rfl⟩
  have HX:Hid (Xa.size=32∧Xa.all (·.oneCell')=true∧hA x=Xa):=by rw [← hXa];exact ⟨jG hx.1,jn _,rfl⟩
  have hlI:((l:Int)+1)-1=(l:Int):=by omega
  have hz32:(hA j7).size=32:=jG jC
  by_cases hlt:place<k
  ·rw [if_pos hlt]
   have hhk:l=hgt k place:=by rw [← hk] at hlt ⊢;rw [bl h2 hlt] at hh;omega
   have CR:Hid (∀ W,G w W→Calls Tryz.prog 96 #[.agg Xa,.int .i64 (k:Int),.int .i64 (place:Int),.slice (some ⟨g,o,none⟩) l cap,.func (.func 29) #[.pointer (some ⟨m,0,none⟩)] #[]] W fun e w'=>e=.returned (.agg (hA (yQ S x k place init.reverse)))∧G W w'):=fun W hW=>by rw [← hXa];exact ih init hil k place x _ W (G.trans hw hW) (hpre W hW) hib hhk (by omega) (by omega) hlt hx
   have hR:=aR hS hx init.reverse k place
   generalize yQ S x k place init.reverse=z at *
   have CI:Hid (∀ W,Calls Tryz.prog 115 #[.agg (hA z),.agg (hA y)] W fun e w'=>∃ u,e=.returned u∧Su.Owns w' W.heap.size u (jw z y)∧G W w'):=fun W=>dW z y W hR.1 hy.1
   have CSm:Hid (∀ W u,G w W→Su.Has W u (jw z y)→Calls Tryz.prog 29 #[.pointer (some ⟨m,0,none⟩),u] W fun e W'=>e=.returned (.agg (hA (S (jw z y))))∧G W W'):=fun W u hW hu=>hC W u _ (G.trans hw hW) hu (yV hR.2 hy.2) (by simp [jw,hR.1,hy.1])
   obtain ⟨T,hT⟩:∃ T,jw z y=T:=⟨_,rfl⟩
   rw [hT] at CI CSm ⊢
   obtain ⟨Za,hZa⟩:∃ Za,hA (S T)=Za:=⟨_,rfl⟩
   have HZ:Hid (Za.size=32∧Za.all (·.oneCell')=true∧hA (S T)=Za):=by rw [← hZa];exact ⟨jG (hS T).1,jn _,rfl⟩
   obtain ⟨Ya,hYa⟩:∃ Ya,hA y=Ya:=⟨_,rfl⟩
   have HY:Hid (Ya.size=32∧Lies w g (o+l*32) Ya):=by rw [← hYa];exact ⟨jG hy.1,hLy⟩
   rw [hYa] at CI
   rw [hZa] at CSm ⊢
   rw [hXa]
   have hltI:(place:Int)<k:=by omega
   have hcn:((count:Int)==1)=false:=by simp;omega
   clear hXa hZa hYa hT hLy hpre hat hsv hsb hib ih hrev hk hh hhk
   go_enter Tryz.func96,Tryz.ntmps96
   go_upto_region 5 with (first
    | ((with_reducible refine jt 5 22 (.tmp 0) Xa ?_ ?_ ?_ ?_ ?_);rfl;rfl;kernel_rfl;rfl;intro w1 b1 H1)
    | ((with_reducible refine qC 10 22 (hA j7) ?_ ?_ ?_ ?_ ?_);rfl;rfl;kernel_rfl;exact jv;intro w2 b2 H2)
    | (go_at_call 114;refine (CHalf w2).mono ?_;rintro e w3 ⟨rfl,e3⟩;rw [e3];clear e3 w3))
   have HB:Hid (G w w2∧w2.heap[b1]?=some (.cells Xa 22 (0,0))∧w2.heap[b2]?=some (.cells (hA j7) 22 (0,0))∧w.heap.size≤b1∧w.heap.size≤b2):=(by obtain ⟨p1,p2,p3,p4⟩:=H1.o;obtain ⟨q1,q2,q3,q4⟩:=H2.o;exact ⟨G.trans p2 q2,(q2.block b1 (by omega)).trans p3,q3,by omega,by omega⟩)
   clear H1 H2
   refine regj5 m g o l cap b1 b2 Xa Ya Za (k:Int) (place:Int) (fun _ W=>G w2 W) (fun r' W=>G w2 W∧r' 1=.agg (hA z)) (fun r' W=>G w2 W∧Su.Has W (r' 2) T) (fun r' W=>G w2 W∧r' 3=.agg Za) (fun _ W=>Kp (fun b=>b=b2) w2 W∧W.heap[b2]?=some (.cells Za 22 (0,0))) (fun W=>G w2 W) _ w2 rfl rfl rfl rfl rfl rfl rfl rfl HX.o.1 HY.o.1 ⟨HZ.o.1,HZ.o.2.1⟩ (by omega) (by omega) (fun _ _ q=>q) (fun _ _ q=>q.1) (fun _ _ q=>q.1) (fun _ _ q=>q.1) ?c1 ?c2 ?c3 ?c4 (fun W q=>Lies.of_heap ((q.block b1 (ga HB.o.2.1).1).trans HB.o.2.1)) (fun W q=>HY.o.2.below (G.trans HB.o.1 q)) (fun _=>G.drew _) ?c5
   case c1=>
    intro r' W q
    refine (CR.o W (G.trans HB.o.1 q)).mono ?_
    rintro e W' ⟨rfl,q2⟩
    exact ⟨_,rfl,G.trans q q2,by rw [jA]⟩
   case c2=>
    rintro r' W ⟨q,e1⟩
    rw [e1]
    refine (CI.o W).mono ?_
    rintro e W' ⟨u,rfl,q1,q2⟩
    exact ⟨_,rfl,G.trans q q2,by rw [jA];exact q1.has⟩
   case c3=>
    rintro r' W ⟨q,e1⟩
    refine (CSm.o W _ (G.trans HB.o.1 q) e1).mono ?_
    rintro e W' ⟨rfl,q2⟩
    exact ⟨_,rfl,G.trans q q2,by rw [jA]⟩
   case c4=>
    rintro r' W ⟨q,e1⟩
    have hv:=(q.block b2 (ga HB.o.2.2.1).1).trans HB.o.2.2.1
    exact ⟨_,hv,hz32,e1,(Kp.of q).trans ⟨rfl,rfl,rfl,by simp,fun b _ hn=>setRow_other _ b2 b _ hn⟩ fun _ _ e=>e,setRow_heap _ _ _ _ _ _ hv⟩
   case c5=>
    rintro r' W ⟨q1,q2⟩
    rw [foldj5]
    generalize r' 1=u1
    generalize r' 2=u2
    generalize r' 3=u3
    have HF:=hid (⟨q1,q2⟩:_∧_)
    clear q1 q2
    go_simp
    go_wp2_with fail
    refine bodyPost_ret (results_cell_row (P:=Tryz.prog) (p:=10) (ty:=22) rfl _ _ b2 22 Za (0,0) _ rfl HF.o.2 Tryz.underlying22 rfl (by rw [jK,HZ.o.1])) rfl ⟨rfl,?_⟩
    exact (((Kp.of (S:=fun b=>w.heap.size≤b) HB.o.1).trans HF.o.1 fun b hb e=>by have:=HB.o.2.2.2.2;omega)).below (Nat.le_refl _) fun b e=>e
  ·rw [if_neg hlt]
   have hhk:l=hgt (count-k) (place-k):=by rw [← hk] at hlt ⊢;rw [bm h2 hlt] at hh;omega
   have CR:Hid (∀ W,G w W→Calls Tryz.prog 96 #[.agg Xa,.int .i64 ((count-k:Nat):Int),.int .i64 ((place-k:Nat):Int),.slice (some ⟨g,o,none⟩) l cap,.func (.func 29) #[.pointer (some ⟨m,0,none⟩)] #[]] W fun e w'=>e=.returned (.agg (hA (yQ S x (count-k) (place-k) init.reverse)))∧G W w'):=fun W hW=>by rw [← hXa];exact ih init hil (count-k) (place-k) x _ W (G.trans hw hW) (hpre W hW) hib hhk (by omega) (by omega) (by omega) hx
   have hR:=aR hS hx init.reverse (count-k) (place-k)
   generalize yQ S x (count-k) (place-k) init.reverse=z at *
   have CI:Hid (∀ W,Calls Tryz.prog 115 #[.agg (hA y),.agg (hA z)] W fun e w'=>∃ u,e=.returned u∧Su.Owns w' W.heap.size u (jw y z)∧G W w'):=fun W=>dW y z W hy.1 hR.1
   have CSm:Hid (∀ W u,G w W→Su.Has W u (jw y z)→Calls Tryz.prog 29 #[.pointer (some ⟨m,0,none⟩),u] W fun e W'=>e=.returned (.agg (hA (S (jw y z))))∧G W W'):=fun W u hW hu=>hC W u _ (G.trans hw hW) hu (yV hy.2 hR.2) (by simp [jw,hR.1,hy.1])
   obtain ⟨T,hT⟩:∃ T,jw y z=T:=⟨_,rfl⟩
   rw [hT] at CI CSm ⊢
   obtain ⟨Za,hZa⟩:∃ Za,hA (S T)=Za:=⟨_,rfl⟩
   have HZ:Hid (Za.size=32∧Za.all (·.oneCell')=true∧hA (S T)=Za):=by rw [← hZa];exact ⟨jG (hS T).1,jn _,rfl⟩
   obtain ⟨Ya,hYa⟩:∃ Ya,hA y=Ya:=⟨_,rfl⟩
   have HY:Hid (Ya.size=32∧Lies w g (o+l*32) Ya):=by rw [← hYa];exact ⟨jG hy.1,hLy⟩
   rw [hYa] at CI
   rw [hZa] at CSm ⊢
   rw [hXa]
   have hltI:¬ (place:Int)<k:=by omega
   have hcn:((count:Int)==1)=false:=by simp;omega
   clear hXa hZa hYa hT hLy hpre hat hsv hsb hib ih hrev hk hh hhk
   go_enter Tryz.func96,Tryz.ntmps96
   go_upto_region 6 with (first
    | ((with_reducible refine jt 5 22 (.tmp 0) Xa ?_ ?_ ?_ ?_ ?_);rfl;rfl;kernel_rfl;rfl;intro w1 b1 H1)
    | ((with_reducible refine qC 10 22 (hA j7) ?_ ?_ ?_ ?_ ?_);rfl;rfl;kernel_rfl;exact jv;intro w2 b2 H2)
    | (go_at_call 114;refine (CHalf w2).mono ?_;rintro e w3 ⟨rfl,e3⟩;rw [e3];clear e3 w3))
   have HB:Hid (G w w2∧w2.heap[b1]?=some (.cells Xa 22 (0,0))∧w2.heap[b2]?=some (.cells (hA j7) 22 (0,0))∧w.heap.size≤b1∧w.heap.size≤b2):=(by obtain ⟨p1,p2,p3,p4⟩:=H1.o;obtain ⟨q1,q2,q3,q4⟩:=H2.o;exact ⟨G.trans p2 q2,(q2.block b1 (by omega)).trans p3,q3,by omega,by omega⟩)
   clear H1 H2
   refine regj6 m g o l cap b1 b2 Xa Ya Za (k:Int) (place:Int) (count:Int) ((count-k:Nat):Int) ((place-k:Nat):Int) (fun _ W=>G w2 W) (fun r' W=>G w2 W∧r' 1=.agg (hA z)) (fun r' W=>G w2 W∧Su.Has W (r' 2) T) (fun r' W=>G w2 W∧r' 3=.agg Za) (fun _ W=>Kp (fun b=>b=b2) w2 W∧W.heap[b2]?=some (.cells Za 22 (0,0))) (fun W=>G w2 W) _ w2 rfl rfl rfl rfl rfl rfl rfl rfl rfl HX.o.1 HY.o.1 ⟨HZ.o.1,HZ.o.2.1⟩ (by omega) (by omega) (fq count k (by omega) (by omega)) (fq place k (by omega) (by omega)) (fun _ _ q=>q) (fun _ _ q=>q.1) (fun _ _ q=>q.1) (fun _ _ q=>q.1) ?d1 ?d2 ?d3 ?d4 (fun W q=>Lies.of_heap ((q.block b1 (ga HB.o.2.1).1).trans HB.o.2.1)) (fun W q=>HY.o.2.below (G.trans HB.o.1 q)) (fun _=>G.drew _) ?d5
   case d1=>
    intro r' W q
    refine (CR.o W (G.trans HB.o.1 q)).mono ?_
    rintro e W' ⟨rfl,q2⟩
    exact ⟨_,rfl,G.trans q q2,by rw [jA]⟩
   case d2=>
    rintro r' W ⟨q,e1⟩
    rw [e1]
    refine (CI.o W).mono ?_
    rintro e W' ⟨u,rfl,q1,q2⟩
    exact ⟨_,rfl,G.trans q q2,by rw [jA];exact q1.has⟩
   case d3=>
    rintro r' W ⟨q,e1⟩
    refine (CSm.o W _ (G.trans HB.o.1 q) e1).mono ?_
    rintro e W' ⟨rfl,q2⟩
    exact ⟨_,rfl,G.trans q q2,by rw [jA]⟩
   case d4=>
    rintro r' W ⟨q,e1⟩
    have hv:=(q.block b2 (ga HB.o.2.2.1).1).trans HB.o.2.2.1
    exact ⟨_,hv,hz32,e1,(Kp.of q).trans ⟨rfl,rfl,rfl,by simp,fun b _ hn=>setRow_other _ b2 b _ hn⟩ fun _ _ e=>e,setRow_heap _ _ _ _ _ _ hv⟩
   case d5=>
    rintro r' W ⟨q1,q2⟩
    rw [foldj6]
    generalize r' 1=u1
    generalize r' 2=u2
    generalize r' 3=u3
    have HF:=hid (⟨q1,q2⟩:_∧_)
    clear q1 q2
    go_simp
    go_wp2_with fail
    refine bodyPost_ret (results_cell_row (P:=Tryz.prog) (p:=10) (ty:=22) rfl _ _ b2 22 Za (0,0) _ rfl HF.o.2 Tryz.underlying22 rfl (by rw [jK,HZ.o.1])) rfl ⟨rfl,?_⟩
    exact (((Kp.of (S:=fun b=>w.heap.size≤b) HB.o.1).trans HF.o.1 fun b hb e=>by have:=HB.o.2.2.2.2;omega)).below (Nat.le_refl _) fun b e=>e
noncomputable abbrev ye:Array Oper:=kS Tryz.f71 1
theorem lj:ye.size=14:=by kernel_rfl
theorem a24:say ye 0=some (some 9,.move (.tmp 3),none):=by kernel_rfl
theorem a25:say ye 1=some (some 10,.move (.tmp 1),none):=by kernel_rfl
theorem a26:say ye 2=some (some 11,.load 22 (.tmp 6),none):=by kernel_rfl
theorem a27:say ye 3=some (some 12,.call { callee:=.value (.func 97),args:=#[.tmp 10,.tmp 11],argTypes:=#[9,22] },none):=by kernel_rfl
theorem a28:say ye 4=some (some 13,.call { callee:=.value (.tmp 9),args:=#[.tmp 12],argTypes:=#[25] },none):=by kernel_rfl
theorem a29:say ye 5=some (some 14,.fieldAddr 123 (.tmp 4) 0,none):=by kernel_rfl
theorem a2A:say ye 6=some (some 15,.load 3 (.tmp 14),none):=by kernel_rfl
theorem a2B:say ye 7=some (some 16,.fieldAddr 123 (.tmp 4) 1,none):=by kernel_rfl
theorem a2C:say ye 8=some (some 17,.load 3 (.tmp 16),none):=by kernel_rfl
theorem a2D:say ye 9=some (some 18,.fieldAddr 123 (.tmp 4) 2,none):=by kernel_rfl
theorem tQ:say ye 10=some (some 19,.load 70 (.tmp 18),none):=by kernel_rfl
theorem tR:say ye 11=some (some 20,.move (.tmp 3),none):=by kernel_rfl
theorem tS:say ye 12=some (some 21,.call { callee:=.value (.func 96),args:=#[.tmp 13,.tmp 15,.tmp 17,.tmp 19,.tmp 20],argTypes:=#[22,3,3,70,34] },none):=by kernel_rfl
theorem a2E:say ye 13=some (none,.store 22 (.tmp 8) (.tmp 21),none):=by kernel_rfl
def Vk1 (m b4 _b6 _b8 sn sk:Nat) (sa:Option Addr) (nm:ByteArray) (Ha _Za:Array Value) (cn pl:Int) (r:Nat→Value):Nat→Value
 | 0=>.func (.func 29) #[.pointer (some ⟨m,0,none⟩)] #[]
 | 1=>.string nm
 | 2=>.agg Ha
 | 3=>(r 1)
 | 4=>(r 2)
 | 5=>.pointer (some ⟨b4,0,none⟩)
 | 6=>.int .i64 cn
 | 7=>.pointer (some ⟨b4,1,none⟩)
 | 8=>.int .i64 pl
 | 9=>.pointer (some ⟨b4,2,none⟩)
 | 10=>.slice sa sn sk
 | 11=>.func (.func 29) #[.pointer (some ⟨m,0,none⟩)] #[]
 | 12=>(r 3)
 | 13=>undef
 | _=>undef
theorem regk1 (m b4 b6 b8 sn sk:Nat) (sa:Option Addr) (nm:ByteArray) (Ha Za:Array Value) (cn pl:Int) (F0 F1 F2 F3 F4:(Nat→Value)→World→Prop) (B:World→Prop)  (t0:Array Value) (wr:World) {Q:Exit→Act→World→Prop} (ht:t0.size=22) (h3:t0.getD 3 undef=.func (.func 29) #[.pointer (some ⟨m,0,none⟩)] #[]) (h1:t0.getD 1 undef=.string nm) (h6:t0.getD 6 undef=.pointer (some ⟨b6,0,none⟩)) (h4:t0.getD 4 undef=.pointer (some ⟨b4,0,none⟩)) (h8:t0.getD 8 undef=.pointer (some ⟨b8,0,none⟩))
  (hX:Ha.size=32) (hZ:Za.size=32∧Za.all (·.oneCell')=true)
  (hb0:∀ r w,F0 r w→B w) (hb1:∀ r w,F1 r w→B w) (hb2:∀ r w,F2 r w→B w) (hb3:∀ r w,F3 r w→B w)
  (hc1:∀ r w,F0 r w→Calls Tryz.prog 97 #[.string nm,.agg Ha] w fun e w'=>∃ u,e=.returned u∧F1 (ups r 1 u) w')
  (hc2:∀ r w,F1 r w→Calls Tryz.prog 29 #[.pointer (some ⟨m,0,none⟩),(r 1)] w fun e w'=>∃ u,e=.returned u∧F2 (ups r 2 u) w')
  (hc3:∀ r w,F2 r w→Calls Tryz.prog 96 #[(r 2),.int .i64 cn,.int .i64 pl,.slice sa sn sk,.func (.func 29) #[.pointer (some ⟨m,0,none⟩)] #[]] w fun e w'=>∃ u,e=.returned u∧F3 (ups r 3 u) w')
  (hw4:∀ r w,F3 r w→∃ old,w.heap[b8]?=some (.cells old 22 (0,0))∧old.size=32∧r 3=.agg Za∧F4 r (w.setRow b8 Za))
  (hl2:∀ w,B w→Lies w b6 0 Ha)
  (hl6:∀ w,B w→w.cell? ⟨b4,0,none⟩=some (.int .i64 cn))
  (hl8:∀ w,B w→w.cell? ⟨b4,1,none⟩=some (.int .i64 pl))
  (hl10:∀ w,B w→w.cell? ⟨b4,2,none⟩=some (.slice sa sn sk))
  (hst0:∀ r,F0 r wr.drew)
  (hQ:∀ r w,F4 r w→Q .normal ⟨fold ye (Vk1 m b4 b6 b8 sn sk sa nm Ha Za cn pl r) t0 14,[]⟩ w):(Code.region 1 ye true).wp Tryz.prog Q ⟨t0,[]⟩ wr:=by
 have hB:dstB ye t0.size=true:=by rw [ht];kernel_rfl
 have hBB:∀ r done w,MC F0 [(12,F3),(4,F2),(3,F1)] r done w→B w:=fun r done w h=>MC.base hb0 (by simp only [List.mem_cons,List.not_mem_nil,or_false];rintro x (rfl | rfl | rfl)<;>assumption) h
 refine jL (by kernel_rfl) (IE ye (Vk1 m b4 b6 b8 sn sk sa nm Ha Za cn pl) t0 (MC F0 [(13,F4),(12,F3),(4,F2),(3,F1)] )) (by kernel_rfl) ⟨(fun _=>undef),t0,rfl,⟨rfl,fun _ _=>rfl,fun _ _ _ _ _ h=>by cases h⟩,MC.start (hst0 _)⟩ ?_ ?_
 rotate_left 1
 ·rintro done a w ⟨r,t,rfl,hS,hM⟩ hall
  rw [hS.end hB hall,lj]
  exact hQ r w (MC.get (hall 13 (by rw [lj];decide)) [] (by simp) hM)
 ·rintro jz op done a w ho ⟨r,t,rfl,hS,hM⟩ hnd hdep hcl
  have e3:=hS.ol h3
  have e1:=hS.ol h1
  have e6:=hS.ol h6
  have e4:=hS.ol h4
  have e8:=hS.ol h8
  have hlt:jz<14:=by rw [← lj];exact (ga ho).1
  match jz,hlt,ho,hnd,hdep with
  | 0,_,ho,hnd,hdep=>
   refine jM a24 r hB ho hS (hM.step (by rfl)) fun hop=>?_
   unfold execOp;simp [hop,e3,Vk1,go_sem]
  | 1,_,ho,hnd,hdep=>
   refine jM a25 r hB ho hS (hM.step (by rfl)) fun hop=>?_
   unfold execOp;simp [hop,e1,Vk1,go_sem]
  | 2,_,ho,hnd,hdep=>
   have ny13:done 13=false:=j8 (by kernel_rfl) hcl hnd
   refine jM a26 r hB ho hS (hM.step (by rfl)) fun hop=>?_
   exact jQ 22 _ hop b6 0 (by show t.getD 6 undef=_;rw [gd];exact e6) Ha _ (hl2 w (hBB _ _ _ (MC.cut [(13,F4)] (by simp [ny13]) hM))) Tryz.underlying22 rfl (by rw [jK,hX])
  | 3,_,ho,hnd,hdep=>
   obtain ⟨hd,hop,hgd⟩:=jB a27 ho
   have x10:=hS.gt a25 ho hdep
   simp only [Vk1] at x10
   have x11:=hS.gt a26 ho hdep
   simp only [Vk1] at x11
   have ny4:done 4=false:=j8 (by kernel_rfl) hcl hnd
   have ny12:done 12=false:=j8 (by kernel_rfl) hcl ny4
   have ny13:done 13=false:=j8 (by kernel_rfl) hcl hnd
   have hF:=MC.get0 [(13,F4),(12,F3),(4,F2),(3,F1)] (by simp [hnd,ny4,ny12,ny13]) hM
   refine jb r 97 #[.string nm,.agg Ha] hB ho (j0 hgd) hd hS ?_ ?_
   ·skip
    unfold execOp
    simp only [hop]
    simp [x10,x11,go_sem]
   ·skip
    refine (hc1 r w hF).mono ?_
    rintro e w' ⟨u,rfl,hF'⟩
    refine ⟨ups r 1 u,?_,fun k hk=>?_,MC.put hF' [(13,F4),(12,F3),(4,F2)] (by simp [ny4,ny12,ny13])⟩
    ·simp only [Vk1,jA]
    ·skip
     have q3:k≠3:=fun e=>by rw [e,hnd] at hk;cases hk
     unfold Vk1
     split<;>first | rfl | exact absurd rfl q3
  | 4,_,ho,hnd,hdep=>
   obtain ⟨hd,hop,hgd⟩:=jB a28 ho
   have x9:=hS.gt a24 ho hdep
   simp only [Vk1] at x9
   have x12:=hS.gt a27 ho hdep
   simp only [Vk1] at x12
   have ny12:done 12=false:=j8 (by kernel_rfl) hcl hnd
   have ny13:done 13=false:=j8 (by kernel_rfl) hcl hnd
   have a3:done 3=true:=jy (j:=3) (by kernel_rfl) ho hdep
   have hF:=MC.get a3 [(13,F4),(12,F3),(4,F2)] (by simp [hnd,ny12,ny13]) hM
   refine jb r 29 #[.pointer (some ⟨m,0,none⟩),(r 1)] hB ho (j0 hgd) hd hS ?_ ?_
   ·skip
    unfold execOp
    simp only [hop]
    simp [x9,x12,go_sem]
   ·skip
    refine (hc2 r w hF).mono ?_
    rintro e w' ⟨u,rfl,hF'⟩
    refine ⟨ups r 2 u,?_,fun k hk=>?_,MC.put hF' [(13,F4),(12,F3)] (by simp [ny12,ny13])⟩
    ·simp only [Vk1,jA]
    ·skip
     have q4:k≠4:=fun e=>by rw [e,hnd] at hk;cases hk
     unfold Vk1
     split<;>first | rfl | exact absurd rfl q4
  | 5,_,ho,hnd,hdep=>
   refine jM a29 r hB ho hS (hM.step (by rfl)) fun hop=>?_
   unfold execOp;simp [hop,e4,Vk1,go_sem]
  | 6,_,ho,hnd,hdep=>
   have x14:=hS.gt a29 ho hdep
   have ny13:done 13=false:=j8 (by kernel_rfl) hcl hnd
   have cz:=hl6 w (hBB _ _ _ (MC.cut [(13,F4)] (by simp [ny13]) hM))
   refine jM a2A r hB ho hS (hM.step (by rfl)) fun hop=>?_
   unfold execOp;simp [hop,x14,Vk1,cz,go_sem]
  | 7,_,ho,hnd,hdep=>
   refine jM a2B r hB ho hS (hM.step (by rfl)) fun hop=>?_
   unfold execOp;simp [hop,e4,Vk1,go_sem]
  | 8,_,ho,hnd,hdep=>
   have x16:=hS.gt a2B ho hdep
   have ny13:done 13=false:=j8 (by kernel_rfl) hcl hnd
   have cz:=hl8 w (hBB _ _ _ (MC.cut [(13,F4)] (by simp [ny13]) hM))
   refine jM a2C r hB ho hS (hM.step (by rfl)) fun hop=>?_
   unfold execOp;simp [hop,x16,Vk1,cz,go_sem]
  | 9,_,ho,hnd,hdep=>
   refine jM a2D r hB ho hS (hM.step (by rfl)) fun hop=>?_
   unfold execOp;simp [hop,e4,Vk1,go_sem]
  | 10,_,ho,hnd,hdep=>
   have x18:=hS.gt a2D ho hdep
   have ny13:done 13=false:=j8 (by kernel_rfl) hcl hnd
   have cz:=hl10 w (hBB _ _ _ (MC.cut [(13,F4)] (by simp [ny13]) hM))
   refine jM tQ r hB ho hS (hM.step (by rfl)) fun hop=>?_
   unfold execOp;simp [hop,x18,Vk1,cz,go_sem]
  | 11,_,ho,hnd,hdep=>
   refine jM tR r hB ho hS (hM.step (by rfl)) fun hop=>?_
   unfold execOp;simp [hop,e3,Vk1,go_sem]
  | 12,_,ho,hnd,hdep=>
   obtain ⟨hd,hop,hgd⟩:=jB tS ho
   have x13:=hS.gt a28 ho hdep
   simp only [Vk1] at x13
   have x15:=hS.gt a2A ho hdep
   simp only [Vk1] at x15
   have x17:=hS.gt a2C ho hdep
   simp only [Vk1] at x17
   have x19:=hS.gt tQ ho hdep
   simp only [Vk1] at x19
   have x20:=hS.gt tR ho hdep
   simp only [Vk1] at x20
   have ny13:done 13=false:=j8 (by kernel_rfl) hcl hnd
   have a4:done 4=true:=jy (j:=4) (by kernel_rfl) ho hdep
   have hF:=MC.get a4 [(13,F4),(12,F3)] (by simp [hnd,ny13]) hM
   refine jb r 96 #[(r 2),.int .i64 cn,.int .i64 pl,.slice sa sn sk,.func (.func 29) #[.pointer (some ⟨m,0,none⟩)] #[]] hB ho (j0 hgd) hd hS ?_ ?_
   ·skip
    unfold execOp
    simp only [hop]
    simp [x13,x15,x17,x19,x20,go_sem]
   ·skip
    refine (hc3 r w hF).mono ?_
    rintro e w' ⟨u,rfl,hF'⟩
    refine ⟨ups r 3 u,?_,fun k hk=>?_,MC.put hF' [(13,F4)] (by simp [ny13])⟩
    ·simp only [Vk1,jA]
    ·skip
     have q12:k≠12:=fun e=>by rw [e,hnd] at hk;cases hk
     unfold Vk1
     split<;>first | rfl | exact absurd rfl q12
  | 13,_,ho,hnd,hdep=>
   obtain ⟨hd,hop,hgd⟩:=jB a2E ho
   have x21:=hS.gt tS ho hdep
   simp only [Vk1] at x21
   have a12:done 12=true:=jy (j:=12) (by kernel_rfl) ho hdep
   have hF:=MC.get a12 [(13,F4)] (by simp [hnd]) hM
   obtain ⟨old9,ho9,hs9,e9,hF9⟩:=hw4 r w hF
   refine qh (w':=w.setRow b8 Za) r ho (j0 hgd) hd hS (MC.put hF9 [] (by simp)) ?_
   exact qN 22 _ _ hop b8 Za old9 (by show t.getD 8 undef=_;rw [gd];exact e8) (Eq.trans (by show t.getD 21 undef=_;rw [gd];exact x21) e9) w ho9 (by rw [jK,hZ.1]) (by rw [hs9,hZ.1]) hZ.2
theorem foldk1 (m b4 b6 b8 sn sk:Nat) (sa:Option Addr) (nm:ByteArray) (Ha Za:Array Value) (cn pl:Int) (r:Nat→Value) (t0:Array Value):fold ye (Vk1 m b4 b6 b8 sn sk sa nm Ha Za cn pl r) t0 14=(((((((((((((t0.setIfInBounds 9 (.func (.func 29) #[.pointer (some ⟨m,0,none⟩)] #[])).setIfInBounds 10 (.string nm)).setIfInBounds 11 (.agg Ha)).setIfInBounds 12 ((r 1))).setIfInBounds 13 ((r 2))).setIfInBounds 14 (.pointer (some ⟨b4,0,none⟩))).setIfInBounds 15 (.int .i64 cn)).setIfInBounds 16 (.pointer (some ⟨b4,1,none⟩))).setIfInBounds 17 (.int .i64 pl)).setIfInBounds 18 (.pointer (some ⟨b4,2,none⟩))).setIfInBounds 19 (.slice sa sn sk)).setIfInBounds 20 (.func (.func 29) #[.pointer (some ⟨m,0,none⟩)] #[])).setIfInBounds 21 ((r 3))):=by kernel_rfl
def SpOk (p:Sp):Prop:=p.place<p.count∧p.count≤1048576∧p.sib.length=hgt p.count p.place∧∀ y∈p.sib,y.length=32∧Su.Bytes y
theorem yu {nm:ByteArray} {h:List Nat} (hh:Su.Bytes h):Su.Bytes (qg nm h):=fun x hx=>by
 unfold qg at hx
 rcases List.mem_cons.1 hx with rfl | hx
 ·decide
 ·rcases List.mem_append.1 hx with hx | hx
  ·exact yE _ x hx
  ·rcases List.mem_append.1 hx with hx | hx
   ·exact i5 _ x hx
   ·exact hh x hx
theorem wj (S:List Nat→List Nat) (hS:af S) (m:Nat) (W0:World) (hC:zI S m W0) (w:World) (hw:G W0 w) (sc:Array Value) (p:Sp) (lo:Nat) (hp:SpAt w lo sc p) (hok:SpOk p) (nm:ByteArray) (hnm:nm.size≤255) (h:List Nat) (hh:h.length=32∧Su.Bytes h):
  Calls Tryz.prog 71 #[.agg sc,.string nm,.agg (hA h),.func (.func 29) #[.pointer (some ⟨m,0,none⟩)] #[]] w fun e w'=>e=.returned (.agg (hA (topH S nm h p)))∧G w w':=by
 obtain ⟨sa,sn,sk,rfl,how,_⟩:=hp
 have hz32:(hA j7).size=32:=jG jC
 obtain ⟨Ha,hHa⟩:∃ Ha,hA h=Ha:=⟨_,rfl⟩
 have HH:Hid (Ha.size=32∧Ha.all (·.oneCell')=true):=by rw [← hHa];exact ⟨jG hh.1,jn _⟩
 have CL:Hid (∀ W,Calls Tryz.prog 97 #[.string nm,.agg Ha] W fun e w'=>∃ u,e=.returned u∧Su.Owns w' W.heap.size u (qg nm h)∧G W w'):=fun W=>by rw [← hHa];exact pf nm h W hh.1 (by omega)
 have CS:Hid (∀ W u,G w W→Su.Has W u (qg nm h)→Calls Tryz.prog 29 #[.pointer (some ⟨m,0,none⟩),u] W fun e W'=>e=.returned (.agg (hA (S (qg nm h))))∧G W W'):=fun W u hW hu=>hC W u _ (G.trans hw hW) hu (yu hh.2) (by have:=ju (n:=nm.size) (by omega);simp [qg,hh.1,ze];omega)
 have CR:Hid (∀ W,G w W→Calls Tryz.prog 96 #[.agg (hA (S (qg nm h))),.int .i64 (p.count:Int),.int .i64 (p.place:Int),.slice sa sn sk,.func (.func 29) #[.pointer (some ⟨m,0,none⟩)] #[]] W fun e w'=>e=.returned (.agg (hA (yQ S (S (qg nm h)) p.count p.place p.sib.reverse)))∧G W w'):=fun W hW=>oy S hS m W0 hC p.sib.length p.sib rfl p.count p.place _ _ W (G.trans hw hW) (how.has.up hW) hok.2.2.2 hok.2.2.1 (by have:=hok.1;omega) hok.2.1 hok.1 (hS _)
 have ht:topH S nm h p=yQ S (S (qg nm h)) p.count p.place p.sib.reverse:=rfl
 rw [ht]
 have hZ:=aR hS (hS (qg nm h)) p.sib.reverse p.count p.place
 generalize yQ S (S (qg nm h)) p.count p.place p.sib.reverse=z at *
 obtain ⟨Za,hZa⟩:∃ Za,hA z=Za:=⟨_,rfl⟩
 have HZ:Hid (Za.size=32∧Za.all (·.oneCell')=true):=by rw [← hZa];exact ⟨jG hZ.1,jn _⟩
 rw [hZa] at CR
 rw [hHa,hZa]
 clear hHa hZa how ht
 go_enter Tryz.func71,Tryz.ntmps71
 go_upto_region 1 with (first
  | ((with_reducible refine jt 4 123 (.tmp 0) (#[.int .i64 (p.count:Int),.int .i64 (p.place:Int),.slice sa sn sk]:Array Value) ?_ ?_ ?_ ?_ ?_);rfl;rfl;kernel_rfl;rfl;intro w1 b1 H1)
  | ((with_reducible refine jt 6 22 (.tmp 2) Ha ?_ ?_ ?_ ?_ ?_);rfl;rfl;kernel_rfl;rfl;intro w2 b2 H2)
  | ((with_reducible refine qC 8 22 (hA j7) ?_ ?_ ?_ ?_ ?_);rfl;rfl;kernel_rfl;exact jv;intro w3 b3 H3))
 have HB:Hid (G w w3∧w3.heap[b1]?=some (.cells #[.int .i64 (p.count:Int),.int .i64 (p.place:Int),.slice sa sn sk] 123 (0,0))∧w3.heap[b2]?=some (.cells Ha 22 (0,0))∧w3.heap[b3]?=some (.cells (hA j7) 22 (0,0))∧w.heap.size≤b3):=(by obtain ⟨p1,p2,p3,p4⟩:=H1.o;obtain ⟨q1,q2,q3,q4⟩:=H2.o;obtain ⟨t1,t2,t3,t4⟩:=H3.o;exact ⟨G.trans (G.trans p2 q2) t2,(t2.block b1 (by omega)).trans ((q2.block b1 (by omega)).trans p3),(t2.block b2 (by omega)).trans q3,t3,by omega⟩)
 clear H1 H2 H3
 refine regk1 m b1 b2 b3 sn sk sa nm Ha Za (p.count:Int) (p.place:Int) (fun _ W=>G w3 W) (fun r' W=>G w3 W∧Su.Has W (r' 1) (qg nm h)) (fun r' W=>G w3 W∧r' 2=.agg (hA (S (qg nm h)))) (fun r' W=>G w3 W∧r' 3=.agg Za) (fun _ W=>Kp (fun b=>b=b3) w3 W∧W.heap[b3]?=some (.cells Za 22 (0,0))) (fun W=>G w3 W) _ w3 rfl rfl rfl rfl rfl rfl HH.o.1 ⟨HZ.o.1,HZ.o.2⟩ (fun _ _ q=>q) (fun _ _ q=>q.1) (fun _ _ q=>q.1) (fun _ _ q=>q.1) ?c1 ?c2 ?c3 ?c4 (fun W q=>Lies.of_heap ((q.block b2 (ga HB.o.2.2.1).1).trans HB.o.2.2.1)) ?l0 ?l1 ?l2 (fun _=>G.drew _) ?c5
 case l0=>exact fun W q=>by rw [j9 ((q.block b1 (ga HB.o.2.1).1).trans HB.o.2.1)];rfl
 case l1=>exact fun W q=>by rw [j9 ((q.block b1 (ga HB.o.2.1).1).trans HB.o.2.1)];rfl
 case l2=>exact fun W q=>by rw [j9 ((q.block b1 (ga HB.o.2.1).1).trans HB.o.2.1)];rfl
 case c1=>
  intro r' W q
  refine (CL.o W).mono ?_
  rintro e W' ⟨u,rfl,q1,q2⟩
  exact ⟨_,rfl,G.trans q q2,by rw [jA];exact q1.has⟩
 case c2=>
  rintro r' W ⟨q,e1⟩
  refine (CS.o W _ (G.trans HB.o.1 q) e1).mono ?_
  rintro e W' ⟨rfl,q2⟩
  exact ⟨_,rfl,G.trans q q2,by rw [jA]⟩
 case c3=>
  rintro r' W ⟨q,e1⟩
  rw [e1]
  refine (CR.o W (G.trans HB.o.1 q)).mono ?_
  rintro e W' ⟨rfl,q2⟩
  exact ⟨_,rfl,G.trans q q2,by rw [jA]⟩
 case c4=>
  rintro r' W ⟨q,e1⟩
  have hv:=(q.block b3 (ga HB.o.2.2.2.1).1).trans HB.o.2.2.2.1
  exact ⟨_,hv,hz32,e1,(Kp.of q).trans ⟨rfl,rfl,rfl,by simp,fun b _ hn=>setRow_other _ b3 b _ hn⟩ fun _ _ e=>e,setRow_heap _ _ _ _ _ _ hv⟩
 case c5=>
  rintro r' W ⟨q1,q2⟩
  rw [foldk1]
  generalize r' 1=u1
  generalize r' 2=u2
  generalize r' 3=u3
  have HF:=hid (⟨q1,q2⟩:_∧_)
  clear q1 q2
  go_simp
  go_wp2_with fail
  refine bodyPost_ret (results_cell_row (P:=Tryz.prog) (p:=8) (ty:=22) rfl _ _ b3 22 Za (0,0) _ rfl HF.o.2 Tryz.underlying22 rfl (by rw [jK,HZ.o.1])) rfl ⟨rfl,?_⟩
  exact (((Kp.of (S:=fun b=>w.heap.size≤b) HB.o.1).trans HF.o.1 fun b hb e=>by have:=HB.o.2.2.2.2;omega)).below (Nat.le_refl _) fun b e=>e
end Go.Proofs.YtdeanahpiigonaaGreatDoor
