import Derived.Test.YtdeanahpiigonaaGreatDoorHV
set_option maxRecDepth 100000
set_option maxHeartbeats 8000000
namespace Go.Proofs.YtdeanahpiigonaaGreatDoor
open Go.RowKit Hm
def MA (A L last:Nat) (z:(Nat→Value)→Array Value) (ty lo:Nat) (pv:Nat→Value) (F0:(Nat→Value)→World→Prop) (ps:List (Nat × ((Nat→Value)→World→Prop))) (r:Nat→Value) (done:Nat→Bool) (w:World):Prop:=
 MC F0 ps r done w∧(done A=true→done last=false→∃ b,r L=pv b∧w.heap[b]?=some (.cells (z r) ty (0,0))∧lo≤b)
theorem MA.step {A L last:Nat} {z:(Nat→Value)→Array Value} {ty lo:Nat} {pv:Nat→Value} {F0:(Nat→Value)→World→Prop} {ps:List (Nat × ((Nat→Value)→World→Prop))} {r:Nat→Value} {done:Nat→Bool} {w:World} {j:Nat} (h:MA A L last z ty lo pv F0 ps r done w) (hj:(A::last::ps.map (·.1)).contains j=false):MA A L last z ty lo pv F0 ps r (upd done j) w:=by
 simp only [List.contains_cons,Bool.or_eq_false_iff,beq_eq_false_iff_ne] at hj
 refine ⟨h.1.step hj.2.2,fun h1 h2=>?_⟩
 rw [xy done (Ne.symm hj.1)] at h1
 rw [xy done (Ne.symm hj.2.1)] at h2
 exact h.2 h1 h2
theorem MA.start {A L last:Nat} {z:(Nat→Value)→Array Value} {ty lo:Nat} {pv:Nat→Value} {F0:(Nat→Value)→World→Prop} {ps:List (Nat × ((Nat→Value)→World→Prop))} {r:Nat→Value} {w:World} (h:F0 r w):MA A L last z ty lo pv F0 ps r (fun _=>false) w:=⟨MC.start h,fun h=>by cases h⟩
theorem MA.call {A L last:Nat} {z:(Nat→Value)→Array Value} {ty lo:Nat} {pv:Nat→Value} {F0:(Nat→Value)→World→Prop} {ps:List (Nat × ((Nat→Value)→World→Prop))} {r:Nat→Value} {done:Nat→Bool} {w w':World} {j L':Nat} {u:Value} (h:MA A L last z ty lo pv F0 ps r done w) (hC:MC F0 ps (ups r L' u) (upd done j) w') (hg:G w w') (hL:L≠L') (hA:A≠j) (hl:last≠j) (hz:done A=true→z (ups r L' u)=z r):MA A L last z ty lo pv F0 ps (ups r L' u) (upd done j) w':=by
 refine ⟨hC,fun h1 h2=>?_⟩
 rw [xy done hA] at h1
 rw [xy done hl] at h2
 obtain ⟨b,e,hb,hlo⟩:=h.2 h1 h2
 exact ⟨b,by rw [qr _ _ hL];exact e,by rw [hz h1];exact (hg.block b (ga hb).1).trans hb,hlo⟩
theorem MC.map {F0:(Nat→Value)→World→Prop} {r r':Nat→Value} {done:Nat→Bool} {w w':World} (h0:F0 r w→F0 r' w'):∀ {ps:List (Nat × ((Nat→Value)→World→Prop))},(∀ x∈ps,done x.1=true→x.2 r w→x.2 r' w')→MC F0 ps r done w→MC F0 ps r' done w'
 | [],_,h=>h0 h
 | (p,F)::t,hs,h=>by
  rw [MC] at h ⊢
  split
  ·rename_i hd
   rw [if_pos hd] at h
   exact hs (p,F) (by simp) hd h
  ·rename_i hd
   rw [if_neg hd] at h
   exact MC.map h0 (fun x hx=>hs x (by simp [hx])) h
theorem MA.new {A L last:Nat} {z:(Nat→Value)→Array Value} {ty lo:Nat} {pv:Nat→Value} {F0:(Nat→Value)→World→Prop} {ps:List (Nat × ((Nat→Value)→World→Prop))} {r:Nat→Value} {done:Nat→Bool} {w:World} (h:MA A L last z ty lo pv F0 ps r done w) (hA:(ps.map (·.1)).contains A=false) (hlo:lo≤w.heap.size) (hz:z (ups r L (pv w.heap.size))=z r) (h0:F0 r w→F0 (ups r L (pv w.heap.size)) (w.alloc (.cells (z r) ty))) (hs:∀ x∈ps,done x.1=true→x.2 r w→x.2 (ups r L (pv w.heap.size)) (w.alloc (.cells (z r) ty))):MA A L last z ty lo pv F0 ps (ups r L (pv w.heap.size)) (upd done A) (w.alloc (.cells (z r) ty)):=
 ⟨(MC.map h0 hs h.1).step hA,fun _ _=>⟨w.heap.size,jA _ _ _,by rw [hz];exact World.alloc_heap_new w _,hlo⟩⟩
theorem MA.fin {A L last:Nat} {z:(Nat→Value)→Array Value} {ty lo:Nat} {pv:Nat→Value} {F0:(Nat→Value)→World→Prop} {ps:List (Nat × ((Nat→Value)→World→Prop))} {r:Nat→Value} {done:Nat→Bool} {w':World} (hC:MC F0 ps r (upd done last) w'):MA A L last z ty lo pv F0 ps r (upd done last) w':=⟨hC,fun _ h=>by rw [fp] at h;cases h⟩
attribute [local go_sem] Oper.semAt_some
theorem zC:(Tryz.prog.info? 27).map (·.size)=some 1:=by kernel_rfl
noncomputable abbrev ky:Array Oper:=kS Tryz.f21 13
theorem ed:ky.size=10:=by kernel_rfl
theorem uC:say ky 0=some (some 44,.load 27 (.tmp 5),none):=by kernel_rfl
theorem uD:say ky 1=some (some 45,.move (.tmp 13),none):=by kernel_rfl
theorem uE:say ky 2=some (some 46,.move (.tmp 13),none):=by kernel_rfl
theorem uF:say ky 3=some (some 47,.call { callee:=.builtin .len,args:=#[.tmp 46],argTypes:=#[31] },none):=by kernel_rfl
theorem uG:say ky 4=some (some 48,.binOp .sub 3 (.tmp 47) (.const (.int .i64 1)) 3,none):=by kernel_rfl
theorem uH:say ky 5=some (some 49,.indexAddr 31 (.tmp 45) (.tmp 48),none):=by kernel_rfl
theorem uI:say ky 6=some (some 50,.load 25 (.tmp 49),none):=by kernel_rfl
theorem uJ:say ky 7=some (some 51,.call { callee:=.value (.func 7),args:=#[.tmp 44,.tmp 50],argTypes:=#[27,25] },none):=by kernel_rfl
theorem uK:say ky 8=some (some 15,.alloc 22,none):=by kernel_rfl
theorem a2O:say ky 9=some (none,.store 22 (.tmp 15) (.tmp 51),none):=by kernel_rfl
def Vu13 (_b5 g k c:Nat) (uv:Value) (bt:Int) (_Za:Array Value) (r:Nat→Value):Nat→Value
 | 0=>.agg #[.int .i64 bt]
 | 1=>.slice (some ⟨g,0,none⟩) (k+1) c
 | 2=>.slice (some ⟨g,0,none⟩) (k+1) c
 | 3=>.int .i64 ((k+1:Nat):Int)
 | 4=>.int .i64 (k:Int)
 | 5=>.pointer (some ⟨g,k,none⟩)
 | 6=>uv
 | 7=>(r 1)
 | 8=>(r 9)
 | 9=>undef
 | _=>undef
theorem regu13 (b5 g k c:Nat) (uv:Value) (bt:Int) (Za:Array Value) (lo:Nat) (F0 F1 F2:(Nat→Value)→World→Prop) (B:World→Prop)  (t0:Array Value) (wr:World) {Q:Exit→Act→World→Prop} (ht:t0.size=79) (h5:t0.getD 5 undef=.pointer (some ⟨b5,0,none⟩)) (h13:t0.getD 13 undef=.slice (some ⟨g,0,none⟩) (k+1) c)
  (_:∃ a n k,uv=.slice a n k) (hkw:IntKind.i64.wrap (k:Int)=k) (hix:¬ (k:Int)+1≤k) (hz32:(hA j7).size=32) (hZ:Za.size=32∧Za.all (·.oneCell')=true)
  (hb0:∀ r w,F0 r w→B w) (hb1:∀ r w,F1 r w→B w)
  (hk0:∀ r w,F0 r w→F0 (ups r 9 (.pointer (some ⟨w.heap.size,0,none⟩))) (w.alloc (.cells (hA j7) 22)))
  (hk1:∀ r w,F1 r w→F1 (ups r 9 (.pointer (some ⟨w.heap.size,0,none⟩))) (w.alloc (.cells (hA j7) 22)))
  (hlo:∀ w,B w→lo≤w.heap.size)
  (hc1:∀ r w,F0 r w→Calls Tryz.prog 7 #[.agg #[.int .i64 bt],uv] w fun e w'=>∃ u,e=.returned u∧F1 (ups r 1 u) w'∧G w w')
  (hw2:∀ r w b,F1 r w→r 9=.pointer (some ⟨b,0,none⟩)→w.heap[b]?=some (.cells (hA j7) 22 (0,0))→lo≤b→r 1=.agg Za∧F2 r (w.setRow b Za))
  (hl0:∀ w,B w→Lies w b5 0 #[.int .i64 bt])
  (hl6:∀ w,B w→w.cell? ⟨g,k,none⟩=some (uv))
  (hst0:∀ r,F0 r wr.drew)
  (hQ:∀ r w,F2 r w→Q .normal ⟨fold ky (Vu13 b5 g k c uv bt Za r) t0 10,[]⟩ w):(Code.region 13 ky true).wp Tryz.prog Q ⟨t0,[]⟩ wr:=by
 have hB:dstB ky t0.size=true:=by rw [ht];kernel_rfl
 have hBB:∀ r done w,MC F0 [(7,F1)] r done w→B w:=fun r done w h=>MC.base hb0 (by simp only [List.mem_cons,List.not_mem_nil,or_false];rintro x rfl;assumption) h
 refine jL (by kernel_rfl) (IE ky (Vu13 b5 g k c uv bt Za) t0 (MA 8 9 9 (fun _=>hA j7) 22 lo (fun b=>.pointer (some ⟨b,0,none⟩)) F0 [(9,F2),(7,F1)] )) (by kernel_rfl) ⟨(fun _=>undef),t0,rfl,⟨rfl,fun _ _=>rfl,fun _ _ _ _ _ h=>by cases h⟩,MA.start (hst0 _)⟩ ?_ ?_
 rotate_left 1
 ·rintro done a w ⟨r,t,rfl,hS,hM⟩ hall
  rw [hS.end hB hall,ed]
  exact hQ r w (MC.get (hall 9 (by rw [ed];decide)) [] (by simp) hM.1)
 ·rintro jz op done a w ho ⟨r,t,rfl,hS,hM⟩ hnd hdep hcl
  have e5:=hS.ol h5
  have e13:=hS.ol h13
  have hlt:jz<10:=by rw [← ed];exact (ga ho).1
  match jz,hlt,ho,hnd,hdep with
  | 0,_,ho,hnd,hdep=>
   have ny9:done 9=false:=j8 (by kernel_rfl) hcl hnd
   refine jM uC r hB ho hS (hM.step (by rfl)) fun hop=>?_
   exact jQ 27 _ hop b5 0 (by show t.getD 5 undef=_;rw [gd];exact e5) #[.int .i64 bt] _ (hl0 w (hBB _ _ _ (MC.cut [(9,F2)] (by simp [ny9]) hM.1))) Tryz.underlying27 rfl zC
  | 1,_,ho,hnd,hdep=>
   refine jM uD r hB ho hS (hM.step (by rfl)) fun hop=>?_
   unfold execOp;simp [hop,e13,Vu13,go_sem]
  | 2,_,ho,hnd,hdep=>
   refine jM uE r hB ho hS (hM.step (by rfl)) fun hop=>?_
   unfold execOp;simp [hop,e13,Vu13,go_sem]
  | 3,_,ho,hnd,hdep=>
   have x46:=hS.gt uE ho hdep
   refine jM uF r hB ho hS (hM.step (by rfl)) fun hop=>?_
   unfold execOp;simp [hop,x46,Vu13,go_sem]
  | 4,_,ho,hnd,hdep=>
   have x47:=hS.gt uF ho hdep
   refine jM uG r hB ho hS (hM.step (by rfl)) fun hop=>?_
   unfold execOp;simp [hop,x47,Vu13,hkw,go_sem]
  | 5,_,ho,hnd,hdep=>
   have x45:=hS.gt uD ho hdep
   have x48:=hS.gt uG ho hdep
   refine jM uH r hB ho hS (hM.step (by rfl)) fun hop=>?_
   unfold execOp;simp [hop,x45,x48,Vu13,hix,go_sem]
  | 6,_,ho,hnd,hdep=>
   have x49:=hS.gt uH ho hdep
   have ny9:done 9=false:=j8 (by kernel_rfl) hcl hnd
   have cz:=hl6 w (hBB _ _ _ (MC.cut [(9,F2)] (by simp [ny9]) hM.1))
   refine jM uI r hB ho hS (hM.step (by rfl)) fun hop=>?_
   unfold execOp;simp [hop,x49,Vu13,cz,go_sem]
  | 7,_,ho,hnd,hdep=>
   obtain ⟨hd,hop,hgd⟩:=jB uJ ho
   have x44:=hS.gt uC ho hdep
   simp only [Vu13] at x44
   have x50:=hS.gt uI ho hdep
   simp only [Vu13] at x50
   have ny9:done 9=false:=j8 (by kernel_rfl) hcl hnd
   have hF:=MC.get0 [(9,F2),(7,F1)] (by simp [hnd,ny9]) hM.1
   refine jb r 7 #[.agg #[.int .i64 bt],uv] hB ho (j0 hgd) hd hS ?_ ?_
   ·skip
    unfold execOp
    simp only [hop]
    simp [x44,x50,go_sem]
   ·skip
    refine (hc1 r w hF).mono ?_
    rintro e w' ⟨u,rfl,hF',hG'⟩
    refine ⟨ups r 1 u,?_,fun k hk=>?_,MA.call hM (MC.put hF' [(9,F2)] (by simp [ny9])) hG' (by decide) (by decide) (by decide) (fun _=>rfl)⟩
    ·simp only [Vu13,jA]
    ·skip
     have q7:k≠7:=fun e=>by rw [e,hnd] at hk;cases hk
     unfold Vu13
     split<;>first | rfl | exact absurd rfl q7
  | 8,_,ho,hnd,hdep=>
   obtain ⟨hd,hop,hgd⟩:=jB uK ho
   have ny9:done 9=false:=j8 (by kernel_rfl) hcl hnd
   refine qM r (ups r 9 (.pointer (some ⟨w.heap.size,0,none⟩))) (w.alloc (.cells (hA j7) 22)) hB ho (j0 hgd) hd hS (fun k hk=>?_) (MA.new hM (by rfl) (hlo w (hBB _ _ _ (MC.cut [(9,F2)] (by simp [ny9]) hM.1))) rfl (hk0 r w) (by
     intro x hx
     simp only [List.mem_cons,List.not_mem_nil,or_false] at hx
     rcases hx with rfl | rfl
     ·exact fun hd _=>by rw [ny9] at hd;cases hd
     ·exact fun _=>hk1 r w
     )) ?_
   ·skip
    have q8:k≠8:=fun e=>by rw [e,hnd] at hk;cases hk
    unfold Vu13
    split<;>first | rfl | exact absurd rfl q8
   ·show _=Result.ok (Next.value (Vu13 b5 g k c uv bt Za (ups r 9 (.pointer (some ⟨w.heap.size,0,none⟩))) 8)) _
    simp only [Vu13,jA]
    exact yH 22 (hA j7) hop jv w _ rfl
  | 9,_,ho,hnd,hdep=>
   obtain ⟨hd,hop,hgd⟩:=jB a2O ho
   have x15:=hS.gt uK ho hdep
   simp only [Vu13] at x15
   have x51:=hS.gt uJ ho hdep
   simp only [Vu13] at x51
   have a7:done 7=true:=jy (j:=7) (by kernel_rfl) ho hdep
   have a8:done 8=true:=jy (j:=8) (by kernel_rfl) ho hdep
   have hF:=MC.get a7 [(9,F2)] (by simp [hnd]) hM.1
   obtain ⟨b9,e8,ho9,hlo9⟩:=hM.2 a8 hnd
   obtain ⟨e9,hF9⟩:=hw2 r w b9 hF e8 ho9 hlo9
   refine qh (w':=w.setRow b9 Za) r ho (j0 hgd) hd hS (MA.fin (MC.put hF9 [] (by simp))) ?_
   exact qN 22 _ _ hop b9 Za (hA j7) (Eq.trans (by show t.getD 15 undef=_;rw [gd];exact x15) e8) (Eq.trans (by show t.getD 51 undef=_;rw [gd];exact x51) e9) w ho9 (by rw [jK,hZ.1]) (by rw [hz32,hZ.1]) hZ.2
theorem foldu13 (b5 g k c:Nat) (uv:Value) (bt:Int) (Za:Array Value) (r:Nat→Value) (t0:Array Value):fold ky (Vu13 b5 g k c uv bt Za r) t0 10=(((((((((t0.setIfInBounds 44 (.agg #[.int .i64 bt])).setIfInBounds 45 (.slice (some ⟨g,0,none⟩) (k+1) c)).setIfInBounds 46 (.slice (some ⟨g,0,none⟩) (k+1) c)).setIfInBounds 47 (.int .i64 ((k+1:Nat):Int))).setIfInBounds 48 (.int .i64 (k:Int))).setIfInBounds 49 (.pointer (some ⟨g,k,none⟩))).setIfInBounds 50 (uv)).setIfInBounds 51 ((r 1))).setIfInBounds 15 ((r 9))):=by kernel_rfl
noncomputable abbrev kz:Array Oper:=kS Tryz.f21 15
theorem ee:kz.size=10:=by kernel_rfl
theorem uL:say kz 0=some (some 60,.move (.tmp 13),none):=by kernel_rfl
theorem uM:say kz 1=some (some 61,.load 22 (.tmp 15),none):=by kernel_rfl
theorem uN:say kz 2=some (some 62,.move (.tmp 4),none):=by kernel_rfl
theorem uO:say kz 3=some (some 63,.move (.tmp 14),none):=by kernel_rfl
theorem uP:say kz 4=some (some 64,.indexAddr 70 (.tmp 62) (.tmp 63),none):=by kernel_rfl
theorem uQ:say kz 5=some (some 65,.load 22 (.tmp 64),none):=by kernel_rfl
theorem uR:say kz 6=some (some 66,.call { callee:=.value (.func 55),args:=#[.tmp 61,.tmp 65],argTypes:=#[22,22] },none):=by kernel_rfl
theorem uS:say kz 7=some (some 67,.buildSlice 31 1 #[(0,.tmp 66)],none):=by kernel_rfl
theorem uT:say kz 8=some (some 68,.call { callee:=.builtin .append,args:=#[.tmp 60,.tmp 67],argTypes:=#[31,31] },none):=by kernel_rfl
theorem uU:say kz 9=some (some 13,.assign (.tmp 68),none):=by kernel_rfl
def Vu15 (_b15 h o ln cp i:Nat) (tv:Value) (Xa Ya:Array Value) (r:Nat→Value):Nat→Value
 | 0=>tv
 | 1=>.agg Xa
 | 2=>.slice (some ⟨h,o,none⟩) ln cp
 | 3=>.int .i64 (i:Int)
 | 4=>.pointer (some ⟨h,o+i*32,none⟩)
 | 5=>.agg Ya
 | 6=>(r 1)
 | 7=>(r 2)
 | 8=>(r 3)
 | 9=>(r 3)
 | _=>undef
theorem regu15 (b15 h o ln cp i:Nat) (tv:Value) (Xa Ya:Array Value) (F0 F1 F2 F3:(Nat→Value)→World→Prop) (B:World→Prop)  (t0:Array Value) (wr:World) {Q:Exit→Act→World→Prop} (ht:t0.size=79) (h13:t0.getD 13 undef=tv) (h15:t0.getD 15 undef=.pointer (some ⟨b15,0,none⟩)) (h4:t0.getD 4 undef=.slice (some ⟨h,o,none⟩) ln cp) (h14:t0.getD 14 undef=.int .i64 (i:Int))
  (hX:Xa.size=32) (hY:Ya.size=32) (hix:¬ ln≤i)
  (hb0:∀ r w,F0 r w→B w)
  (hc1:∀ r w,F0 r w→Calls Tryz.prog 55 #[.agg Xa,.agg Ya] w fun e w'=>∃ u,e=.returned u∧F1 (ups r 1 u) w')
  (hs2:∀ r w,F1 r w→(r 1).cells.size=1∧F2 (ups r 2 (.slice (some ⟨w.heap.size,0,none⟩) 1 1)) (w.alloc (.cells (r 1).cells 25)))
  (ha3:∀ r w,F2 r w→∃ u w',(Builtin.append_ #[31,31] 31 #[tv,r 2]).run Tryz.prog w=.ok u w'∧F3 (ups r 3 u) w')
  (hl1:∀ w,B w→Lies w b15 0 Xa)
  (hl5:∀ w,B w→Lies w h (o+i*32) Ya)
  (hst0:∀ r,F0 r wr.drew)
  (hQ:∀ r w,F3 r w→Q .normal ⟨fold kz (Vu15 b15 h o ln cp i tv Xa Ya r) t0 10,[]⟩ w):(Code.region 15 kz true).wp Tryz.prog Q ⟨t0,[]⟩ wr:=by
 have hB:dstB kz t0.size=true:=by rw [ht];kernel_rfl
 have hBB:∀ r done w,MC F0 [] r done w→B w:=fun r done w h=>MC.base hb0 (by intro x h;cases h) h
 refine jL (by kernel_rfl) (IE kz (Vu15 b15 h o ln cp i tv Xa Ya) t0 (MC F0 [(8,F3),(7,F2),(6,F1)] )) (by kernel_rfl) ⟨(fun _=>undef),t0,rfl,⟨rfl,fun _ _=>rfl,fun _ _ _ _ _ h=>by cases h⟩,MC.start (hst0 _)⟩ ?_ ?_
 rotate_left 1
 ·rintro done a w ⟨r,t,rfl,hS,hM⟩ hall
  rw [hS.end hB hall,ee]
  exact hQ r w (MC.get (hall 8 (by rw [ee];decide)) [] (by simp) hM)
 ·rintro jz op done a w ho ⟨r,t,rfl,hS,hM⟩ hnd hdep hcl
  have e15:=hS.ol h15
  have e4:=hS.ol h4
  have e14:=hS.ol h14
  have hlt:jz<10:=by rw [← ee];exact (ga ho).1
  match jz,hlt,ho,hnd,hdep with
  | 0,_,ho,hnd,hdep=>
   have yt9:done 9=false:=j8 (by kernel_rfl) hcl hnd
   have e13:t[13]?.getD undef=_:=(hS.yet hB (sd uU) yt9).trans h13
   refine jM uL r hB ho hS (hM.step (by rfl)) fun hop=>?_
   unfold execOp;simp [hop,e13,Vu15,go_sem]
  | 1,_,ho,hnd,hdep=>
   have ny6:done 6=false:=j8 (by kernel_rfl) hcl hnd
   have ny7:done 7=false:=j8 (by kernel_rfl) hcl ny6
   have ny8:done 8=false:=j8 (by kernel_rfl) hcl ny6
   refine jM uM r hB ho hS (hM.step (by rfl)) fun hop=>?_
   exact jQ 22 _ hop b15 0 (by show t.getD 15 undef=_;rw [gd];exact e15) Xa _ (hl1 w (hBB _ _ _ (MC.cut [(8,F3),(7,F2),(6,F1)] (by simp [ny6,ny7,ny8]) hM))) Tryz.underlying22 rfl (by rw [jK,hX])
  | 2,_,ho,hnd,hdep=>
   refine jM uN r hB ho hS (hM.step (by rfl)) fun hop=>?_
   unfold execOp;simp [hop,e4,Vu15,go_sem]
  | 3,_,ho,hnd,hdep=>
   refine jM uO r hB ho hS (hM.step (by rfl)) fun hop=>?_
   unfold execOp;simp [hop,e14,Vu15,go_sem]
  | 4,_,ho,hnd,hdep=>
   have x62:=hS.gt uN ho hdep
   have x63:=hS.gt uO ho hdep
   refine jM uP r hB ho hS (hM.step (by rfl)) fun hop=>?_
   unfold execOp;simp [hop,x62,x63,Vu15,hix,go_sem]
  | 5,_,ho,hnd,hdep=>
   have x64:=hS.gt uP ho hdep
   simp only [Vu15] at x64
   have ny6:done 6=false:=j8 (by kernel_rfl) hcl hnd
   have ny7:done 7=false:=j8 (by kernel_rfl) hcl ny6
   have ny8:done 8=false:=j8 (by kernel_rfl) hcl ny6
   refine jM uQ r hB ho hS (hM.step (by rfl)) fun hop=>?_
   exact jQ 22 _ hop h (o+i*32) (by show t.getD 64 undef=_;rw [gd];exact x64) Ya _ (hl5 w (hBB _ _ _ (MC.cut [(8,F3),(7,F2),(6,F1)] (by simp [ny6,ny7,ny8]) hM))) Tryz.underlying22 rfl (by rw [jK,hY])
  | 6,_,ho,hnd,hdep=>
   obtain ⟨hd,hop,hgd⟩:=jB uR ho
   have x61:=hS.gt uM ho hdep
   simp only [Vu15] at x61
   have x65:=hS.gt uQ ho hdep
   simp only [Vu15] at x65
   have ny7:done 7=false:=j8 (by kernel_rfl) hcl hnd
   have ny8:done 8=false:=j8 (by kernel_rfl) hcl hnd
   have hF:=MC.get0 [(8,F3),(7,F2),(6,F1)] (by simp [hnd,ny7,ny8]) hM
   refine jb r 55 #[.agg Xa,.agg Ya] hB ho (j0 hgd) hd hS ?_ ?_
   ·skip
    unfold execOp
    simp only [hop]
    simp [x61,x65,go_sem]
   ·skip
    refine (hc1 r w hF).mono ?_
    rintro e w' ⟨u,rfl,hF'⟩
    refine ⟨ups r 1 u,?_,fun k hk=>?_,MC.put hF' [(8,F3),(7,F2)] (by simp [ny7,ny8])⟩
    ·simp only [Vu15,jA]
    ·skip
     have q6:k≠6:=fun e=>by rw [e,hnd] at hk;cases hk
     unfold Vu15
     split<;>first | rfl | exact absurd rfl q6
  | 7,_,ho,hnd,hdep=>
   obtain ⟨hd,hop,hgd⟩:=jB uS ho
   have x66:=hS.gt uR ho hdep
   simp only [Vu15] at x66
   have ny8:done 8=false:=j8 (by kernel_rfl) hcl hnd
   have a6:done 6=true:=jy (j:=6) (by kernel_rfl) ho hdep
   have hF:=MC.get a6 [(8,F3),(7,F2)] (by simp [hnd,ny8]) hM
   refine qM r (ups r 2 (.slice (some ⟨w.heap.size,0,none⟩) 1 1)) (w.alloc (.cells (r 1).cells 25)) hB ho (j0 hgd) hd hS (fun k hk=>?_) (MC.put (hs2 r w hF).2 [(8,F3)] (by simp [ny8])) ?_
   ·skip
    have q7:k≠7:=fun e=>by rw [e,hnd] at hk;cases hk
    unfold Vu15
    split<;>first | rfl | exact absurd rfl q7
   ·show _=Result.ok (Next.value (Vu15 b15 h o ln cp i tv Xa Ya (ups r 2 (.slice (some ⟨w.heap.size,0,none⟩) 1 1)) 7)) _
    simp only [Vu15,jA]
    exact jf ek31 _ hop ((r 1)) (r 1).cells (by show t.getD 66 undef=_;rw [gd];exact x66) rfl (hs2 r w hF).1 w _ rfl
  | 8,_,ho,hnd,hdep=>
   obtain ⟨hd,hop,hgd⟩:=jB uT ho
   have x60:=hS.gt uL ho hdep
   simp only [Vu15] at x60
   have x67:=hS.gt uS ho hdep
   simp only [Vu15] at x67
   have ny9:done 9=false:=j8 (by kernel_rfl) hcl hnd
   have a7:done 7=true:=jy (j:=7) (by kernel_rfl) ho hdep
   have hF:=MC.get a7 [(8,F3)] (by simp [hnd]) hM
   obtain ⟨u9,w9,hr9,hF9⟩:=ha3 r w hF
   have ht9:op.type=31:=by have:=congrArg (·.map (·.type)) ho;simpa using this.symm.trans (show _=some 31 from by kernel_rfl)
   refine qM r (ups r 3 u9) w9 hB ho (j0 hgd) hd hS (fun k hk=>?_) (MC.put hF9 [] (by simp)) ?_
   ·skip
    have q8:k≠8:=fun e=>by rw [e,hnd] at hk;cases hk
    have q9:k≠9:=fun e=>by rw [e,ny9] at hk;cases hk
    unfold Vu15
    split<;>first | rfl | exact absurd rfl q8 | exact absurd rfl q9
   ·show _=Result.ok (Next.value (Vu15 b15 h o ln cp i tv Xa Ya (ups r 3 u9) 8)) _
    simp only [Vu15,jA]
    exact qc (a:=⟨t,[]⟩) (v:=tv) (src:=r 2) (v':=u9) hop (by show t.getD 60 undef=_;rw [gd];exact x60) (by show t.getD 67 undef=_;rw [gd];exact x67) (by rw [ht9];exact hr9)
  | 9,_,ho,hnd,hdep=>
   have x68:=hS.gt uT ho hdep
   refine jM uU r hB ho hS (hM.step (by rfl)) fun hop=>?_
   unfold execOp;simp [hop,x68,Vu15,go_sem]
theorem foldu15 (b15 h o ln cp i:Nat) (tv:Value) (Xa Ya:Array Value) (r:Nat→Value) (t0:Array Value):fold kz (Vu15 b15 h o ln cp i tv Xa Ya r) t0 10=((((((((((t0.setIfInBounds 60 (tv)).setIfInBounds 61 (.agg Xa)).setIfInBounds 62 (.slice (some ⟨h,o,none⟩) ln cp)).setIfInBounds 63 (.int .i64 (i:Int))).setIfInBounds 64 (.pointer (some ⟨h,o+i*32,none⟩))).setIfInBounds 65 (.agg Ya)).setIfInBounds 66 ((r 1))).setIfInBounds 67 ((r 2))).setIfInBounds 68 ((r 3))).setIfInBounds 13 ((r 3))):=by kernel_rfl
noncomputable abbrev y7:Array Oper:=kS Tryz.f21 16
theorem eh:y7.size=10:=by kernel_rfl
theorem uV:say y7 0=some (some 69,.move (.tmp 13),none):=by kernel_rfl
theorem uW:say y7 1=some (some 70,.move (.tmp 4),none):=by kernel_rfl
theorem uX:say y7 2=some (some 71,.move (.tmp 14),none):=by kernel_rfl
theorem uY:say y7 3=some (some 72,.indexAddr 70 (.tmp 70) (.tmp 71),none):=by kernel_rfl
theorem uZ:say y7 4=some (some 73,.load 22 (.tmp 72),none):=by kernel_rfl
theorem ud:say y7 5=some (some 74,.load 22 (.tmp 15),none):=by kernel_rfl
theorem ue:say y7 6=some (some 75,.call { callee:=.value (.func 55),args:=#[.tmp 73,.tmp 74],argTypes:=#[22,22] },none):=by kernel_rfl
theorem uf:say y7 7=some (some 76,.buildSlice 31 1 #[(0,.tmp 75)],none):=by kernel_rfl
theorem ug:say y7 8=some (some 77,.call { callee:=.builtin .append,args:=#[.tmp 69,.tmp 76],argTypes:=#[31,31] },none):=by kernel_rfl
theorem uh:say y7 9=some (some 13,.assign (.tmp 77),none):=by kernel_rfl
def Vu16 (_b15 h o ln cp i:Nat) (tv:Value) (Xa Ya:Array Value) (r:Nat→Value):Nat→Value
 | 0=>tv
 | 1=>.slice (some ⟨h,o,none⟩) ln cp
 | 2=>.int .i64 (i:Int)
 | 3=>.pointer (some ⟨h,o+i*32,none⟩)
 | 4=>.agg Ya
 | 5=>.agg Xa
 | 6=>(r 1)
 | 7=>(r 2)
 | 8=>(r 3)
 | 9=>(r 3)
 | _=>undef
theorem regu16 (b15 h o ln cp i:Nat) (tv:Value) (Xa Ya:Array Value) (F0 F1 F2 F3:(Nat→Value)→World→Prop) (B:World→Prop)  (t0:Array Value) (wr:World) {Q:Exit→Act→World→Prop} (ht:t0.size=79) (h13:t0.getD 13 undef=tv) (h15:t0.getD 15 undef=.pointer (some ⟨b15,0,none⟩)) (h4:t0.getD 4 undef=.slice (some ⟨h,o,none⟩) ln cp) (h14:t0.getD 14 undef=.int .i64 (i:Int))
  (hX:Xa.size=32) (hY:Ya.size=32) (hix:¬ ln≤i)
  (hb0:∀ r w,F0 r w→B w)
  (hc1:∀ r w,F0 r w→Calls Tryz.prog 55 #[.agg Ya,.agg Xa] w fun e w'=>∃ u,e=.returned u∧F1 (ups r 1 u) w')
  (hs2:∀ r w,F1 r w→(r 1).cells.size=1∧F2 (ups r 2 (.slice (some ⟨w.heap.size,0,none⟩) 1 1)) (w.alloc (.cells (r 1).cells 25)))
  (ha3:∀ r w,F2 r w→∃ u w',(Builtin.append_ #[31,31] 31 #[tv,r 2]).run Tryz.prog w=.ok u w'∧F3 (ups r 3 u) w')
  (hl5:∀ w,B w→Lies w b15 0 Xa)
  (hl4:∀ w,B w→Lies w h (o+i*32) Ya)
  (hst0:∀ r,F0 r wr.drew)
  (hQ:∀ r w,F3 r w→Q .normal ⟨fold y7 (Vu16 b15 h o ln cp i tv Xa Ya r) t0 10,[]⟩ w):(Code.region 16 y7 true).wp Tryz.prog Q ⟨t0,[]⟩ wr:=by
 have hB:dstB y7 t0.size=true:=by rw [ht];kernel_rfl
 have hBB:∀ r done w,MC F0 [] r done w→B w:=fun r done w h=>MC.base hb0 (by intro x h;cases h) h
 refine jL (by kernel_rfl) (IE y7 (Vu16 b15 h o ln cp i tv Xa Ya) t0 (MC F0 [(8,F3),(7,F2),(6,F1)] )) (by kernel_rfl) ⟨(fun _=>undef),t0,rfl,⟨rfl,fun _ _=>rfl,fun _ _ _ _ _ h=>by cases h⟩,MC.start (hst0 _)⟩ ?_ ?_
 rotate_left 1
 ·rintro done a w ⟨r,t,rfl,hS,hM⟩ hall
  rw [hS.end hB hall,eh]
  exact hQ r w (MC.get (hall 8 (by rw [eh];decide)) [] (by simp) hM)
 ·rintro jz op done a w ho ⟨r,t,rfl,hS,hM⟩ hnd hdep hcl
  have e15:=hS.ol h15
  have e4:=hS.ol h4
  have e14:=hS.ol h14
  have hlt:jz<10:=by rw [← eh];exact (ga ho).1
  match jz,hlt,ho,hnd,hdep with
  | 0,_,ho,hnd,hdep=>
   have yt9:done 9=false:=j8 (by kernel_rfl) hcl hnd
   have e13:t[13]?.getD undef=_:=(hS.yet hB (sd uh) yt9).trans h13
   refine jM uV r hB ho hS (hM.step (by rfl)) fun hop=>?_
   unfold execOp;simp [hop,e13,Vu16,go_sem]
  | 1,_,ho,hnd,hdep=>
   refine jM uW r hB ho hS (hM.step (by rfl)) fun hop=>?_
   unfold execOp;simp [hop,e4,Vu16,go_sem]
  | 2,_,ho,hnd,hdep=>
   refine jM uX r hB ho hS (hM.step (by rfl)) fun hop=>?_
   unfold execOp;simp [hop,e14,Vu16,go_sem]
  | 3,_,ho,hnd,hdep=>
   have x70:=hS.gt uW ho hdep
   have x71:=hS.gt uX ho hdep
   refine jM uY r hB ho hS (hM.step (by rfl)) fun hop=>?_
   unfold execOp;simp [hop,x70,x71,Vu16,hix,go_sem]
  | 4,_,ho,hnd,hdep=>
   have x72:=hS.gt uY ho hdep
   simp only [Vu16] at x72
   have ny6:done 6=false:=j8 (by kernel_rfl) hcl hnd
   have ny7:done 7=false:=j8 (by kernel_rfl) hcl ny6
   have ny8:done 8=false:=j8 (by kernel_rfl) hcl ny6
   refine jM uZ r hB ho hS (hM.step (by rfl)) fun hop=>?_
   exact jQ 22 _ hop h (o+i*32) (by show t.getD 72 undef=_;rw [gd];exact x72) Ya _ (hl4 w (hBB _ _ _ (MC.cut [(8,F3),(7,F2),(6,F1)] (by simp [ny6,ny7,ny8]) hM))) Tryz.underlying22 rfl (by rw [jK,hY])
  | 5,_,ho,hnd,hdep=>
   have ny6:done 6=false:=j8 (by kernel_rfl) hcl hnd
   have ny7:done 7=false:=j8 (by kernel_rfl) hcl ny6
   have ny8:done 8=false:=j8 (by kernel_rfl) hcl ny6
   refine jM ud r hB ho hS (hM.step (by rfl)) fun hop=>?_
   exact jQ 22 _ hop b15 0 (by show t.getD 15 undef=_;rw [gd];exact e15) Xa _ (hl5 w (hBB _ _ _ (MC.cut [(8,F3),(7,F2),(6,F1)] (by simp [ny6,ny7,ny8]) hM))) Tryz.underlying22 rfl (by rw [jK,hX])
  | 6,_,ho,hnd,hdep=>
   obtain ⟨hd,hop,hgd⟩:=jB ue ho
   have x73:=hS.gt uZ ho hdep
   simp only [Vu16] at x73
   have x74:=hS.gt ud ho hdep
   simp only [Vu16] at x74
   have ny7:done 7=false:=j8 (by kernel_rfl) hcl hnd
   have ny8:done 8=false:=j8 (by kernel_rfl) hcl hnd
   have hF:=MC.get0 [(8,F3),(7,F2),(6,F1)] (by simp [hnd,ny7,ny8]) hM
   refine jb r 55 #[.agg Ya,.agg Xa] hB ho (j0 hgd) hd hS ?_ ?_
   ·skip
    unfold execOp
    simp only [hop]
    simp [x73,x74,go_sem]
   ·skip
    refine (hc1 r w hF).mono ?_
    rintro e w' ⟨u,rfl,hF'⟩
    refine ⟨ups r 1 u,?_,fun k hk=>?_,MC.put hF' [(8,F3),(7,F2)] (by simp [ny7,ny8])⟩
    ·simp only [Vu16,jA]
    ·skip
     have q6:k≠6:=fun e=>by rw [e,hnd] at hk;cases hk
     unfold Vu16
     split<;>first | rfl | exact absurd rfl q6
  | 7,_,ho,hnd,hdep=>
   obtain ⟨hd,hop,hgd⟩:=jB uf ho
   have x75:=hS.gt ue ho hdep
   simp only [Vu16] at x75
   have ny8:done 8=false:=j8 (by kernel_rfl) hcl hnd
   have a6:done 6=true:=jy (j:=6) (by kernel_rfl) ho hdep
   have hF:=MC.get a6 [(8,F3),(7,F2)] (by simp [hnd,ny8]) hM
   refine qM r (ups r 2 (.slice (some ⟨w.heap.size,0,none⟩) 1 1)) (w.alloc (.cells (r 1).cells 25)) hB ho (j0 hgd) hd hS (fun k hk=>?_) (MC.put (hs2 r w hF).2 [(8,F3)] (by simp [ny8])) ?_
   ·skip
    have q7:k≠7:=fun e=>by rw [e,hnd] at hk;cases hk
    unfold Vu16
    split<;>first | rfl | exact absurd rfl q7
   ·show _=Result.ok (Next.value (Vu16 b15 h o ln cp i tv Xa Ya (ups r 2 (.slice (some ⟨w.heap.size,0,none⟩) 1 1)) 7)) _
    simp only [Vu16,jA]
    exact jf ek31 _ hop ((r 1)) (r 1).cells (by show t.getD 75 undef=_;rw [gd];exact x75) rfl (hs2 r w hF).1 w _ rfl
  | 8,_,ho,hnd,hdep=>
   obtain ⟨hd,hop,hgd⟩:=jB ug ho
   have x69:=hS.gt uV ho hdep
   simp only [Vu16] at x69
   have x76:=hS.gt uf ho hdep
   simp only [Vu16] at x76
   have ny9:done 9=false:=j8 (by kernel_rfl) hcl hnd
   have a7:done 7=true:=jy (j:=7) (by kernel_rfl) ho hdep
   have hF:=MC.get a7 [(8,F3)] (by simp [hnd]) hM
   obtain ⟨u9,w9,hr9,hF9⟩:=ha3 r w hF
   have ht9:op.type=31:=by have:=congrArg (·.map (·.type)) ho;simpa using this.symm.trans (show _=some 31 from by kernel_rfl)
   refine qM r (ups r 3 u9) w9 hB ho (j0 hgd) hd hS (fun k hk=>?_) (MC.put hF9 [] (by simp)) ?_
   ·skip
    have q8:k≠8:=fun e=>by rw [e,hnd] at hk;cases hk
    have q9:k≠9:=fun e=>by rw [e,ny9] at hk;cases hk
    unfold Vu16
    split<;>first | rfl | exact absurd rfl q8 | exact absurd rfl q9
   ·show _=Result.ok (Next.value (Vu16 b15 h o ln cp i tv Xa Ya (ups r 3 u9) 8)) _
    simp only [Vu16,jA]
    exact qc (a:=⟨t,[]⟩) (v:=tv) (src:=r 2) (v':=u9) hop (by show t.getD 69 undef=_;rw [gd];exact x69) (by show t.getD 76 undef=_;rw [gd];exact x76) (by rw [ht9];exact hr9)
  | 9,_,ho,hnd,hdep=>
   have x77:=hS.gt ug ho hdep
   refine jM uh r hB ho hS (hM.step (by rfl)) fun hop=>?_
   unfold execOp;simp [hop,x77,Vu16,go_sem]
theorem foldu16 (b15 h o ln cp i:Nat) (tv:Value) (Xa Ya:Array Value) (r:Nat→Value) (t0:Array Value):fold y7 (Vu16 b15 h o ln cp i tv Xa Ya r) t0 10=((((((((((t0.setIfInBounds 69 (tv)).setIfInBounds 70 (.slice (some ⟨h,o,none⟩) ln cp)).setIfInBounds 71 (.int .i64 (i:Int))).setIfInBounds 72 (.pointer (some ⟨h,o+i*32,none⟩))).setIfInBounds 73 (.agg Ya)).setIfInBounds 74 (.agg Xa)).setIfInBounds 75 ((r 1))).setIfInBounds 76 ((r 2))).setIfInBounds 77 ((r 3))).setIfInBounds 13 ((r 3))):=by kernel_rfl
theorem ek97:Ek 97 4 1:=⟨Tryz.underlying97,by decide,by decide,.bool false,1,by rfl,by decide,by kernel_rfl⟩
def updn (S:List Nat→List Nat) (t:List Nat):List (Bool × List Nat)→List Nat
 | []=>t
 | (b,x)::r=>if b=true then jw (S (updn S t r)) x else jw x (S (updn S t r))
def kj (count place:Nat):List Bool:=
 if _h:2≤count then decide (place<jl count)::(if place<jl count then kj (jl count) place else kj (count-jl count) (place-jl count)) else []
termination_by count
decreasing_by all_goals (have:=zQ _h;omega)
theorem aq {count:Nat} (h:¬ 2≤count) (place:Nat):kj count place=[]:=by rw [kj,dif_neg h]
theorem gB {count place:Nat} (h:2≤count) (hp:place<jl count):kj count place=true::kj (jl count) place:=by rw [kj,dif_pos h,if_pos hp];simp [hp]
theorem gC {count place:Nat} (h:2≤count) (hp:¬ place<jl count):kj count place=false::kj (count-jl count) (place-jl count):=by rw [kj,dif_pos h,if_neg hp];simp [hp]
theorem xl (S:List Nat→List Nat) (t:List Nat):∀ (n count place:Nat),count≤n→(kj count place).length=hgt count place∧∀ r:List (List Nat),r.length=hgt count place→S (updn S t ((kj count place).zip r))=yQ S (S t) count place r
 | 0,count,place,h=>by
  rw [aq (by omega),zz (by omega)]
  refine ⟨rfl,fun r hr=>?_⟩
  rw [List.length_eq_zero_iff.1 hr]
  rfl
 | n+1,count,place,h=>by
  by_cases h2:2≤count
  ·have hl:=zQ h2
   by_cases hp:place<jl count
   ·obtain ⟨i1,i2⟩:=xl S t n (jl count) place (by omega)
    rw [gB h2 hp,bl h2 hp]
    refine ⟨by simp [i1],fun r hr=>?_⟩
    match r,hr with
    | x::r,hr=>
     have:=i2 r (by simpa using hr)
     rw [yQ,if_pos hp,← this,List.zip_cons_cons,updn,if_pos rfl]
   ·obtain ⟨i1,i2⟩:=xl S t n (count-jl count) (place-jl count) (by omega)
    rw [gC h2 hp,bm h2 hp]
    refine ⟨by simp [i1],fun r hr=>?_⟩
    match r,hr with
    | x::r,hr=>
     have:=i2 r (by simpa using hr)
     rw [yQ,if_neg hp,← this,List.zip_cons_cons,updn,if_neg (by simp)]
  ·rw [aq h2,zz h2]
   refine ⟨rfl,fun r hr=>?_⟩
   rw [List.length_eq_zero_iff.1 hr]
   rfl
theorem mL (S:List Nat→List Nat) (t:List Nat) (left:List Bool) (sib:List (List Nat)) (n k:Nat) (hl:left.length=n) (hs:sib.length=n) (hk:k<n):
  updn S t ((left.zip sib.reverse).drop (n-(k+1)))=if left.getD (n-1-k) false=true then jw (S (updn S t ((left.zip sib.reverse).drop (n-k)))) (sib.getD k []) else jw (sib.getD k []) (S (updn S t ((left.zip sib.reverse).drop (n-k)))):=by
 have hz:n-(k+1)<(left.zip sib.reverse).length:=by simp [List.length_zip,hl,hs];omega
 rw [List.drop_eq_getElem_cons hz,show n-(k+1)+1=n-k by omega]
 have e:(left.zip sib.reverse)[n-(k+1)]=(left.getD (n-1-k) false,sib.getD k []):=by
  rw [List.getElem_zip,List.getElem_reverse]
  have e1:n-1-k=n-(k+1):=by omega
  have e2:sib.length-1-(n-(k+1))=k:=by omega
  simp only [e2,e1]
  rw [List.getD_eq_getElem?_getD,gl (by omega),List.getD_eq_getElem?_getD,gl (by omega)]
  rfl
 rw [e,updn]
theorem mM {S:List Nat→List Nat} (hS:af S) {t:List Nat} (ht:Su.Bytes t∧t.length≤100000):∀ r:List (Bool × List Nat),(∀ x∈r,x.2.length=32∧Su.Bytes x.2)→Su.Bytes (updn S t r)∧(updn S t r).length≤100000
 | [],_=>ht
 | (b,x)::r,h=>by
  have hx:=h (b,x) (by simp)
  have hy:=hS (updn S t r)
  rw [updn]
  split
  ·exact ⟨yV hy.2 hx.2,by simp [jw,hy.1,hx.1]⟩
  ·exact ⟨yV hx.2 hy.2,by simp [jw,hy.1,hx.1]⟩
theorem ui {left:List Bool} {sib:List (List Nat)} (hsb:∀ y∈sib,y.length=32∧Su.Bytes y) (d:Nat):∀ x∈(left.zip sib.reverse).drop d,x.2.length=32∧Su.Bytes x.2:=fun x hx=>by
 have:=List.mem_of_mem_drop hx
 obtain ⟨b,y⟩:=x
 exact hsb y (by simpa using (List.of_mem_zip this).2)
structure UpI (W:World) (b5:Nat) (bt:Int) (v:Value) (L:List Bool) (w:World):Prop where
 v1:w.heap[b5]?=some (.cells #[.int .i64 bt] 27 (0,0))
 ow:OwL 4 1 w W.heap.size v (L.map fun b=>#[.bool b])
 g:G W w
theorem UpI.app {W:World} {b5:Nat} {bt:Int} {v:Value} {L:List Bool} {w:World} (h:UpI W b5 bt v L w) (b:Bool) (hL:L.length≤1000) (B:Nat) (hB:w.heap.size=B):
  ∃ v' w',(Builtin.append_ #[97,97] 97 #[v,.slice (some ⟨B,0,none⟩) 1 1]).run Tryz.prog (w.alloc (.cells #[.bool b] 4))=.ok v' w'∧UpI W b5 bt v' (L++[b]) w':=by
 obtain ⟨v',w',a1,a2,a3,a4⟩:=zy ek97 97 #[.bool b] rfl (by simp [Value.oneCell']) h.ow h.g.size (by simp;omega) B hB
 refine ⟨v',w',a1,(a3.block b5 (ga h.v1).1 fun e=>?_).trans h.v1,by rw [List.map_append];exact a2,((Kp.of (S:=fun b=>W.heap.size≤b) h.g).trans (Kp.grown a3) fun b _ e=>(h.ow.lt b e).1).below (Nat.le_refl _) fun b e=>e⟩
 obtain ⟨cs,q⟩:=OwL.ty h.ow e.symm
 rw [h.v1] at q
 cases q
theorem UpI.form {W:World} {b5:Nat} {bt:Int} {v:Value} {L:List Bool} {w:World} (h:UpI W b5 bt v L w):∃ a c,v=.slice a L.length c:=by
 obtain ⟨a,c,e⟩:=h.ow.form
 exact ⟨a,c,by simpa using e⟩
theorem UpI.at {W:World} {b5:Nat} {bt:Int} {v:Value} {L:List Bool} {w:World} (h:UpI W b5 bt v L w) (hL:0<L.length):∃ g c,v=.slice (some ⟨g,0,none⟩) L.length c∧∀ j,j<L.length→w.cell? ⟨g,j,none⟩=some (.bool (L.getD j false)):=by
 obtain ⟨_,⟨_,e⟩ | ⟨g',cp,cur,rfl,_⟩⟩:=h.ow.own
 ·rw [List.length_map] at e;omega
 ·rcases h.ow.has with ⟨e,_⟩ | ⟨g,o,cap,e,hc,hl⟩
  ·cases e
  ·injection e with e1 e2
   injection e1 with e1
   injection e1 with e1 e3
   subst e1 e3
   refine ⟨g',cp,by simp,fun j hj=>?_⟩
   have:=hl j #[.bool (L.getD j false)] (by rw [List.getElem?_map,gl hj,List.getD_eq_getElem?_getD,gl hj];rfl) 0 _ rfl
   simpa using this
structure UqI (W:World) (b5:Nat) (bt:Int) (lv:Value) (L:List Bool) (v:Value) (T:List Nat) (N:Nat) (w:World):Prop where
 u:UpI W b5 bt lv L w
 tx:Tx w W.heap.size v T N
theorem UqI.up {W:World} {b5:Nat} {bt:Int} {lv:Value} {L:List Bool} {v:Value} {T:List Nat} {N:Nat} {w w':World} (h:UqI W b5 bt lv L v T N w) (hg:G w w'):UqI W b5 bt lv L v T N w':=
 ⟨⟨(hg.block b5 (ga h.u.v1).1).trans h.u.v1,h.u.ow.up hg,h.u.g.trans hg⟩,h.tx.keep (K2.of_g hg)⟩
theorem UqI.app {W:World} {b5:Nat} {bt:Int} {lv:Value} {L:List Bool} {v:Value} {T:List Nat} {N:Nat} {w:World} (h:UqI W b5 bt lv L v T N w) {u:Value} {T2:List Nat} (hu:Su.Owns w 0 u T2) (ty:TypeId) (hN:N≤1000) (B:Nat) (hB:w.heap.size=B):
  ∃ v' w',(Builtin.append_ #[31,31] ty #[v,.slice (some ⟨B,0,none⟩) 1 1]).run Tryz.prog (w.alloc (.cells #[u] 25))=.ok v' w'∧UqI W b5 bt lv L v' T2 (N+1) w':=by
 obtain ⟨v',w',a1,a2,a3,a4⟩:=h.tx.e.app1 ty hu h.u.g.size (by omega) B hB
 refine ⟨v',w',a1,⟨(a3 b5 _ _ h.u.v1 (by decide)).trans h.u.v1,h.u.ow.block fun b hb=>?_,((Kp.of (S:=fun b=>W.heap.size≤b) h.u.g).trans a4 fun b _ e=>e).below (Nat.le_refl _) fun b e=>e⟩,a2⟩
 obtain ⟨cs,q⟩:=OwL.ty h.u.ow hb
 exact a3 b cs 4 q (by decide)
theorem a2P {w:World} {sv:Value} {sib:List (List Nat)} (h:HsL 32 w sv (sib.map hA)) (hn:0<sib.length):∃ g o c,sv=.slice (some ⟨g,o,none⟩) sib.length c∧∀ i,i<sib.length→Lies w g (o+i*32) (hA (sib.getD i [])):=by
 rcases h with ⟨_,h⟩ | ⟨g,o,c,e,_,hl⟩
 ·simp at h;subst h;simp at hn
 ·exact ⟨g,o,c,by simpa using e,fun i hi=>hl i _ (by rw [List.getElem?_map,gl hi,List.getD_eq_getElem?_getD,gl hi];rfl)⟩
end Go.Proofs.YtdeanahpiigonaaGreatDoor
