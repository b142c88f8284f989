import Derived.Test.YthfcanpkhjgomaaGreatAtA
set_option maxRecDepth 100000
set_option maxHeartbeats 1000000
namespace Go.Proofs.YthfcanpkhjgomaaGreat
open Go.RowKit
theorem Var24.lies {w:World} {g:Nat} {c:Array Value} (h:Var24 w g c):Lies w g 0 c:=fun j u hj=>by
 have h':w.heap[g]?=some (.cells c 24 (0,0)):=h
 simp only [World.cell?,h',Nat.zero_add]
 exact hj
theorem Var24.setMode {w:World} {g:Nat} {v:Vd} (x:Int) (h:Var24 w g (vx v).toArray):Var24 (w.setCell ⟨g,1,none⟩ (.int .i64 x)) g (vx { v with mode:=x }).toArray:=by
 have h':w.heap[g]?=some (.cells (vx v).toArray 24 (0,0)):=h
 unfold Var24 World.setCell
 simp only []
 rw [Array.getElem?_modify]
 simp only [h',if_true,Option.map_some]
 simp [vx]
theorem sameValue_any (o:Bool) (v v':Vd) (w:World):Calls Tryz.prog 60 #[.agg (vx v).toArray,.agg (vx v').toArray,.bool o] w fun e w'=>e=.returned (.bool (sameV o v v'))∧G w w':=by
 obtain ⟨r,hr⟩:∃ r,sameV o v v'=r:=⟨_,rfl⟩
 have HR:=hid hr
 rw [hr]
 have h0:Var24 ((w.alloc (.cells (vx v).toArray 24)).alloc (.cells (vx v').toArray 24)) w.heap.size (vx v).toArray:=(Below.heap_alloc _ _ _ (by simp)).trans (World.alloc_heap_new w _)
 have h1:Var24 ((w.alloc (.cells (vx v).toArray 24)).alloc (.cells (vx v').toArray 24)) (w.heap.size+1) (vx v').toArray:=by
  have:=World.alloc_heap_new (w.alloc (.cells (vx v).toArray 24)) (.cells (vx v').toArray 24)
  rw [World.size_alloc] at this
  exact this
 have hG:G w ((w.alloc (.cells (vx v).toArray 24)).alloc (.cells (vx v').toArray 24)):=(G.alloc _ _).trans (G.alloc _ _)
 have c1:=lies_cell h0.lies 1 (.int .i64 v.mode) rfl
 have d1:=lies_cell h1.lies 1 (.int .i64 v'.mode) rfl
 have hf:((w.alloc (.cells (vx v).toArray 24)).alloc (.cells (vx v').toArray 24)).frozen? ⟨w.heap.size,1,none⟩=false:=by
  have h':((w.alloc (.cells (vx v).toArray 24)).alloc (.cells (vx v').toArray 24)).heap[w.heap.size]?=some (.cells (vx v).toArray 24 (0,0)):=h0
  simp [World.frozen?,h']
 have HV:=hid (⟨h0,h1,hG⟩:_∧_∧_)
 obtain ⟨X,hX⟩:∃ X,(vx v).toArray=X:=⟨_,rfl⟩
 obtain ⟨Y,hY⟩:∃ Y,(vx v').toArray=Y:=⟨_,rfl⟩
 have HX:=hid (⟨hX,hY⟩:_∧_)
 have HS:Hid (X.size=35∧Y.size=35):=⟨by rw [← hX];exact vx_size _,by rw [← hY];exact vx_size _⟩
 rw [hX,hY] at c1 d1 hf HV ⊢
 clear hr h0 h1 hG hX hY
 go_enter Tryz.func60,Tryz.ntmps60
 go_upto_region 1 with fail
 try simp only [World.size_alloc]
 generalize (w.alloc (.cells X 24)).alloc (.cells Y 24)=w1 at *
 generalize hB:w.heap.size=B at *
 have HB:=hid hB
 clear hB
 by_cases ho:o=true∧v'.mode=8
 ·obtain ⟨rfl,hm⟩:=ho
  rw [hm] at d1
  have hV2:=HV.out.1
  rw [← HX.out.1] at hV2
  have HV2:=hid (hV2.setMode 8)
  have HV3:Hid (Var24 (w1.setCell ⟨B,1,none⟩ (.int .i64 8)) (B+1) Y):=(Below.heap_setCell _ _ _ _ (by show B+1≠B;omega)).trans HV.out.2.1
  have HE:Hid (decide ({ v with mode:=8 }=v')=r):=by
   have:=HR.out
   unfold sameV at this
   rw [if_pos ⟨rfl,hm⟩] at this
   exact this
  clear hV2
  go_wp2_with (first
   | ((with_reducible refine wpList_exec (.agg (vx { v with mode:=8 }).toArray) ?_ ?_ ?_);exact exec_load24 _ rfl B 0 rfl _ (vx_size _) HV2.out.lies;kernel_rfl)
   | ((with_reducible refine wpList_exec (.agg Y) ?_ ?_ ?_);exact exec_load24 _ rfl (B+1) 0 rfl _ HS.out.2 HV3.out.lies;kernel_rfl)
   | ((with_reducible refine wpList_exec (.bool r) ?_ ?_ ?_);exact exec_eq24' _ _ rfl _ Y rfl rfl { v with mode:=8 } v' rfl HX.out.2.symm r HE.out _;kernel_rfl))
  go_ret
  refine ⟨rfl,?_⟩
  have hBw:=HB.out
  exact Below.setCell (p:=⟨B,1,none⟩) HV.out.2.2 (by show w.heap.size≤B;omega) _
 ·have HE:Hid (decide (v=v')=r):=by
   have:=HR.out
   unfold sameV at this
   rw [if_neg ho] at this
   exact this
  cases o with
  | true=>
   have hm:v'.mode≠8:=fun h=>ho ⟨rfl,h⟩
   have hm2:(v'.mode==8)=false:=by simpa using hm
   clear ho hm
   go_wp2_with (first
    | ((with_reducible refine wpList_exec (.agg X) ?_ ?_ ?_);exact exec_load24 _ rfl B 0 rfl _ HS.out.1 HV.out.1.lies;kernel_rfl)
    | ((with_reducible refine wpList_exec (.agg Y) ?_ ?_ ?_);exact exec_load24 _ rfl (B+1) 0 rfl _ HS.out.2 HV.out.2.1.lies;kernel_rfl)
    | ((with_reducible refine wpList_exec (.bool r) ?_ ?_ ?_);exact exec_eq24' _ _ rfl X Y rfl rfl v v' HX.out.1.symm HX.out.2.symm r HE.out _;kernel_rfl))
   go_ret
   exact ⟨rfl,HV.out.2.2⟩
  | false=>
   clear ho
   go_wp2_with (first
    | ((with_reducible refine wpList_exec (.agg X) ?_ ?_ ?_);exact exec_load24 _ rfl B 0 rfl _ HS.out.1 HV.out.1.lies;kernel_rfl)
    | ((with_reducible refine wpList_exec (.agg Y) ?_ ?_ ?_);exact exec_load24 _ rfl (B+1) 0 rfl _ HS.out.2 HV.out.2.1.lies;kernel_rfl)
    | ((with_reducible refine wpList_exec (.bool r) ?_ ?_ ?_);exact exec_eq24' _ _ rfl X Y rfl rfl v v' HX.out.1.symm HX.out.2.symm r HE.out _;kernel_rfl))
   go_ret
   exact ⟨rfl,HV.out.2.2⟩
end Go.Proofs.YthfcanpkhjgomaaGreat
