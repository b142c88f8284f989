import Derived.Test.YtdeanahpiigonaaGreatDoorHY1
set_option maxRecDepth 100000
set_option maxHeartbeats 8000000
namespace Go.Proofs.YtdeanahpiigonaaGreatDoor
open Go.RowKit Hm
attribute [local go_sem] Oper.semAt_some
noncomputable abbrev kC:Array Oper:=kS Tryz.f28 10
theorem eA:kC.size=14:=by kernel_rfl
theorem rV:say kC 0=some (some 46,.move (.tmp 1),none):=by kernel_rfl
theorem rW:say kC 1=some (some 47,.move (.tmp 0),none):=by kernel_rfl
theorem rX:say kC 2=some (some 48,.nilCheck (.tmp 47),none):=by kernel_rfl
theorem rY:say kC 3=some (some 49,.fieldAddr 117 (.tmp 48) 2,none):=by kernel_rfl
theorem rZ:say kC 4=some (some 50,.load 24 (.tmp 49),none):=by kernel_rfl
theorem ra:say kC 5=some (some 51,.move (.tmp 0),none):=by kernel_rfl
theorem rb:say kC 6=some (some 52,.nilCheck (.tmp 51),none):=by kernel_rfl
theorem rc:say kC 7=some (some 53,.fieldAddr 117 (.tmp 52) 3,none):=by kernel_rfl
theorem rg:say kC 8=some (some 54,.load 3 (.tmp 53),none):=by kernel_rfl
theorem ri:say kC 9=some (some 55,.load 22 (.tmp 6),none):=by kernel_rfl
theorem ig:say kC 10=some (some 56,.call { callee:=.value (.func 72),args:=#[.tmp 50,.tmp 54,.tmp 55],argTypes:=#[24,3,22] },none):=by kernel_rfl
theorem ii:say kC 11=some (some 57,.call { callee:=.value (.tmp 46),args:=#[.tmp 56],argTypes:=#[25] },none):=by kernel_rfl
theorem ij:say kC 12=some (some 10,.alloc 22,none):=by kernel_rfl
theorem wL:say kC 13=some (none,.store 22 (.tmp 10) (.tmp 57),none):=by kernel_rfl
def Vc10 (m C _b6:Nat) (Va Ta _Za:Array Value) (cn:Int) (r:Nat→Value):Nat→Value
 | 0=>.func (.func 29) #[.pointer (some ⟨m,0,none⟩)] #[]
 | 1=>.pointer (some ⟨C,0,none⟩)
 | 2=>.pointer (some ⟨C,0,none⟩)
 | 3=>.pointer (some ⟨C,2,none⟩)
 | 4=>.agg Va
 | 5=>.pointer (some ⟨C,0,none⟩)
 | 6=>.pointer (some ⟨C,0,none⟩)
 | 7=>.pointer (some ⟨C,37,none⟩)
 | 8=>.int .i64 cn
 | 9=>.agg Ta
 | 10=>(r 1)
 | 11=>(r 2)
 | 12=>(r 9)
 | 13=>undef
 | _=>undef
theorem regc10 (m C b6:Nat) (Va Ta Za:Array Value) (cn:Int) (lo:Nat) (F0 F1 F2 F3:(Nat→Value)→World→Prop) (B:World→Prop)  (t0:Array Value) (wr:World) {Q:Exit→Act→World→Prop} (ht:t0.size=98) (h1:t0.getD 1 undef=.func (.func 29) #[.pointer (some ⟨m,0,none⟩)] #[]) (h0:t0.getD 0 undef=.pointer (some ⟨C,0,none⟩)) (h6:t0.getD 6 undef=.pointer (some ⟨b6,0,none⟩))
  (hV:Va.size=35) (hT:Ta.size=32) (hz32:(hA j7).size=32) (hZ:Za.size=32∧Za.all (·.oneCell')=true)
  (hb0:∀ r w,F0 r w→B w) (hb1:∀ r w,F1 r w→B w) (hb2:∀ r w,F2 r w→B w)
  (hk0:∀ r w,F0 r w→F0 (ups r 9 (.pointer (some ⟨w.heap.size,0,none⟩))) (w.alloc (.cells (hA j7) 22)))
  (hk1:∀ r w,F1 r w→F1 (ups r 9 (.pointer (some ⟨w.heap.size,0,none⟩))) (w.alloc (.cells (hA j7) 22)))
  (hk2:∀ r w,F2 r w→F2 (ups r 9 (.pointer (some ⟨w.heap.size,0,none⟩))) (w.alloc (.cells (hA j7) 22)))
  (hlo:∀ w,B w→lo≤w.heap.size)
  (hc1:∀ r w,F0 r w→Calls Tryz.prog 72 #[.agg Va,.int .i64 cn,.agg Ta] w fun e w'=>∃ u,e=.returned u∧F1 (ups r 1 u) w'∧G w w')
  (hc2:∀ r w,F1 r w→Calls Tryz.prog 29 #[.pointer (some ⟨m,0,none⟩),(r 1)] w fun e w'=>∃ u,e=.returned u∧F2 (ups r 2 u) w'∧G w w')
  (hw3:∀ r w b,F2 r w→r 9=.pointer (some ⟨b,0,none⟩)→w.heap[b]?=some (.cells (hA j7) 22 (0,0))→lo≤b→r 2=.agg Za∧F3 r (w.setRow b Za))
  (hl4:∀ w,B w→Lies w C 2 Va)
  (hl8:∀ w,B w→w.cell? ⟨C,37,none⟩=some (.int .i64 cn))
  (hl9:∀ w,B w→Lies w b6 0 Ta)
  (hst0:∀ r,F0 r wr.drew)
  (hQ:∀ r w,F3 r w→Q .normal ⟨fold kC (Vc10 m C b6 Va Ta Za cn r) t0 14,[]⟩ w):(Code.region 10 kC true).wp Tryz.prog Q ⟨t0,[]⟩ wr:=by
 have hB:dstB kC t0.size=true:=by rw [ht];kernel_rfl
 have hBB:∀ r done w,MC F0 [(11,F2),(10,F1)] r done w→B w:=fun r done w h=>MC.base hb0 (by simp only [List.mem_cons,List.not_mem_nil,or_false];rintro x (rfl | rfl)<;>assumption) h
 refine jL (by kernel_rfl) (IE kC (Vc10 m C b6 Va Ta Za cn) t0 (MA 12 9 13 (fun _=>hA j7) 22 lo (fun b=>.pointer (some ⟨b,0,none⟩)) F0 [(13,F3),(11,F2),(10,F1)] )) (by kernel_rfl) ⟨(fun _=>undef),t0,rfl,⟨rfl,fun _ _=>rfl,fun _ _ _ _ _ h=>by cases h⟩,MA.start (hst0 _)⟩ ?_ ?_
 rotate_left 1
 ·rintro done a w ⟨r,t,rfl,hS,hM⟩ hall
  rw [hS.end hB hall,eA]
  exact hQ r w (MC.get (hall 13 (by rw [eA];decide)) [] (by simp) hM.1)
 ·rintro jz op done a w ho ⟨r,t,rfl,hS,hM⟩ hnd hdep hcl
  have e1:=hS.ol h1
  have e0:=hS.ol h0
  have e6:=hS.ol h6
  have hlt:jz<14:=by rw [← eA];exact (ga ho).1
  match jz,hlt,ho,hnd,hdep with
  | 0,_,ho,hnd,hdep=>
   refine jM rV r hB ho hS (hM.step (by rfl)) fun hop=>?_
   unfold execOp;simp [hop,e1,Vc10,go_sem]
  | 1,_,ho,hnd,hdep=>
   refine jM rW r hB ho hS (hM.step (by rfl)) fun hop=>?_
   unfold execOp;simp [hop,e0,Vc10,go_sem]
  | 2,_,ho,hnd,hdep=>
   have x47:=hS.gt rW ho hdep
   refine jM rX r hB ho hS (hM.step (by rfl)) fun hop=>?_
   unfold execOp;simp [hop,x47,Vc10,go_sem]
  | 3,_,ho,hnd,hdep=>
   have x48:=hS.gt rX ho hdep
   refine jM rY r hB ho hS (hM.step (by rfl)) fun hop=>?_
   unfold execOp;simp [hop,x48,Vc10,go_sem]
  | 4,_,ho,hnd,hdep=>
   have x49:=hS.gt rY ho hdep
   simp only [Vc10] at x49
   have ny13:done 13=false:=j8 (by kernel_rfl) hcl hnd
   refine jM rZ r hB ho hS (hM.step (by rfl)) fun hop=>?_
   exact jQ 24 _ hop C 2 (by show t.getD 49 undef=_;rw [gd];exact x49) Va _ (hl4 w (hBB _ _ _ (MC.cut [(13,F3)] (by simp [ny13]) hM.1))) jR rfl (by rw [qU,hV])
  | 5,_,ho,hnd,hdep=>
   refine jM ra r hB ho hS (hM.step (by rfl)) fun hop=>?_
   unfold execOp;simp [hop,e0,Vc10,go_sem]
  | 6,_,ho,hnd,hdep=>
   have x51:=hS.gt ra ho hdep
   refine jM rb r hB ho hS (hM.step (by rfl)) fun hop=>?_
   unfold execOp;simp [hop,x51,Vc10,go_sem]
  | 7,_,ho,hnd,hdep=>
   have x52:=hS.gt rb ho hdep
   refine jM rc r hB ho hS (hM.step (by rfl)) fun hop=>?_
   unfold execOp;simp [hop,x52,Vc10,go_sem]
  | 8,_,ho,hnd,hdep=>
   have x53:=hS.gt rc ho hdep
   have ny13:done 13=false:=j8 (by kernel_rfl) hcl hnd
   have cz:=hl8 w (hBB _ _ _ (MC.cut [(13,F3)] (by simp [ny13]) hM.1))
   refine jM rg r hB ho hS (hM.step (by rfl)) fun hop=>?_
   unfold execOp;simp [hop,x53,Vc10,cz,go_sem]
  | 9,_,ho,hnd,hdep=>
   have ny13:done 13=false:=j8 (by kernel_rfl) hcl hnd
   refine jM ri r hB ho hS (hM.step (by rfl)) fun hop=>?_
   exact jQ 22 _ hop b6 0 (by show t.getD 6 undef=_;rw [gd];exact e6) Ta _ (hl9 w (hBB _ _ _ (MC.cut [(13,F3)] (by simp [ny13]) hM.1))) Tryz.underlying22 rfl (by rw [jK,hT])
  | 10,_,ho,hnd,hdep=>
   obtain ⟨hd,hop,hgd⟩:=jB ig ho
   have x50:=hS.gt rZ ho hdep
   simp only [Vc10] at x50
   have x54:=hS.gt rg ho hdep
   simp only [Vc10] at x54
   have x55:=hS.gt ri ho hdep
   simp only [Vc10] at x55
   have ny11:done 11=false:=j8 (by kernel_rfl) hcl hnd
   have ny13:done 13=false:=j8 (by kernel_rfl) hcl hnd
   have hF:=MC.get0 [(13,F3),(11,F2),(10,F1)] (by simp [hnd,ny11,ny13]) hM.1
   refine jb r 72 #[.agg Va,.int .i64 cn,.agg Ta] hB ho (j0 hgd) hd hS ?_ ?_
   ·skip
    unfold execOp
    simp only [hop]
    simp [x50,x54,x55,go_sem]
   ·skip
    refine (hc1 r w hF).mono ?_
    rintro e w' ⟨u,rfl,hF',hG'⟩
    refine ⟨ups r 1 u,?_,fun k hk=>?_,MA.call hM (MC.put hF' [(13,F3),(11,F2)] (by simp [ny11,ny13])) hG' (by decide) (by decide) (by decide) (fun _=>rfl)⟩
    ·simp only [Vc10,jA]
    ·skip
     have q10:k≠10:=fun e=>by rw [e,hnd] at hk;cases hk
     unfold Vc10
     split<;>first | rfl | exact absurd rfl q10
  | 11,_,ho,hnd,hdep=>
   obtain ⟨hd,hop,hgd⟩:=jB ii ho
   have x46:=hS.gt rV ho hdep
   simp only [Vc10] at x46
   have x56:=hS.gt ig ho hdep
   simp only [Vc10] at x56
   have ny13:done 13=false:=j8 (by kernel_rfl) hcl hnd
   have a10:done 10=true:=jy (j:=10) (by kernel_rfl) ho hdep
   have hF:=MC.get a10 [(13,F3),(11,F2)] (by simp [hnd,ny13]) hM.1
   refine jb r 29 #[.pointer (some ⟨m,0,none⟩),(r 1)] hB ho (j0 hgd) hd hS ?_ ?_
   ·skip
    unfold execOp
    simp only [hop]
    simp [x46,x56,go_sem]
   ·skip
    refine (hc2 r w hF).mono ?_
    rintro e w' ⟨u,rfl,hF',hG'⟩
    refine ⟨ups r 2 u,?_,fun k hk=>?_,MA.call hM (MC.put hF' [(13,F3)] (by simp [ny13])) hG' (by decide) (by decide) (by decide) (fun _=>rfl)⟩
    ·simp only [Vc10,jA]
    ·skip
     have q11:k≠11:=fun e=>by rw [e,hnd] at hk;cases hk
     unfold Vc10
     split<;>first | rfl | exact absurd rfl q11
  | 12,_,ho,hnd,hdep=>
   obtain ⟨hd,hop,hgd⟩:=jB ij ho
   have ny13:done 13=false:=j8 (by kernel_rfl) hcl hnd
   refine qM r (ups r 9 (.pointer (some ⟨w.heap.size,0,none⟩))) (w.alloc (.cells (hA j7) 22)) hB ho (j0 hgd) hd hS (fun k hk=>?_) (MA.new hM (by rfl) (hlo w (hBB _ _ _ (MC.cut [(13,F3)] (by simp [ny13]) hM.1))) rfl (hk0 r w) (by
     intro x hx
     simp only [List.mem_cons,List.not_mem_nil,or_false] at hx
     rcases hx with rfl | rfl | rfl
     ·exact fun hd _=>by rw [ny13] at hd;cases hd
     ·exact fun _=>hk2 r w
     ·exact fun _=>hk1 r w
     )) ?_
   ·skip
    have q12:k≠12:=fun e=>by rw [e,hnd] at hk;cases hk
    unfold Vc10
    split<;>first | rfl | exact absurd rfl q12
   ·show _=Result.ok (Next.value (Vc10 m C b6 Va Ta Za cn (ups r 9 (.pointer (some ⟨w.heap.size,0,none⟩))) 12)) _
    simp only [Vc10,jA]
    exact yH 22 (hA j7) hop jv w _ rfl
  | 13,_,ho,hnd,hdep=>
   obtain ⟨hd,hop,hgd⟩:=jB wL ho
   have x10:=hS.gt ij ho hdep
   simp only [Vc10] at x10
   have x57:=hS.gt ii ho hdep
   simp only [Vc10] at x57
   have a11:done 11=true:=jy (j:=11) (by kernel_rfl) ho hdep
   have a12:done 12=true:=jy (j:=12) (by kernel_rfl) ho hdep
   have hF:=MC.get a11 [(13,F3)] (by simp [hnd]) hM.1
   obtain ⟨b9,e8,ho9,hlo9⟩:=hM.2 a12 hnd
   obtain ⟨e9,hF9⟩:=hw3 r w b9 hF e8 ho9 hlo9
   refine qh (w':=w.setRow b9 Za) r ho (j0 hgd) hd hS (MA.fin (MC.put hF9 [] (by simp))) ?_
   exact qN 22 _ _ hop b9 Za (hA j7) (Eq.trans (by show t.getD 10 undef=_;rw [gd];exact x10) e8) (Eq.trans (by show t.getD 57 undef=_;rw [gd];exact x57) e9) w ho9 (by rw [jK,hZ.1]) (by rw [hz32,hZ.1]) hZ.2
theorem foldc10 (m C b6:Nat) (Va Ta Za:Array Value) (cn:Int) (r:Nat→Value) (t0:Array Value):fold kC (Vc10 m C b6 Va Ta Za cn r) t0 14=(((((((((((((t0.setIfInBounds 46 (.func (.func 29) #[.pointer (some ⟨m,0,none⟩)] #[])).setIfInBounds 47 (.pointer (some ⟨C,0,none⟩))).setIfInBounds 48 (.pointer (some ⟨C,0,none⟩))).setIfInBounds 49 (.pointer (some ⟨C,2,none⟩))).setIfInBounds 50 (.agg Va)).setIfInBounds 51 (.pointer (some ⟨C,0,none⟩))).setIfInBounds 52 (.pointer (some ⟨C,0,none⟩))).setIfInBounds 53 (.pointer (some ⟨C,37,none⟩))).setIfInBounds 54 (.int .i64 cn)).setIfInBounds 55 (.agg Ta)).setIfInBounds 56 ((r 1))).setIfInBounds 57 ((r 2))).setIfInBounds 10 ((r 9))):=by kernel_rfl
noncomputable abbrev kD:Array Oper:=kS Tryz.f28 15
theorem eB:kD.size=14:=by kernel_rfl
theorem rj:say kD 0=some (some 75,.fieldAddr 129 (.tmp 12) 1,none):=by kernel_rfl
theorem rk:say kD 1=some (some 76,.load 123 (.tmp 75),none):=by kernel_rfl
theorem rn:say kD 2=some (some 77,.move (.tmp 0),none):=by kernel_rfl
theorem ro:say kD 3=some (some 78,.nilCheck (.tmp 77),none):=by kernel_rfl
theorem rp:say kD 4=some (some 79,.fieldAddr 117 (.tmp 78) 0,none):=by kernel_rfl
theorem rq:say kD 5=some (some 80,.load 58 (.tmp 79),none):=by kernel_rfl
theorem ru:say kD 6=some (some 81,.move (.tmp 11),none):=by kernel_rfl
theorem rv:say kD 7=some (some 82,.indexAddr 58 (.tmp 80) (.tmp 81),none):=by kernel_rfl
theorem rx:say kD 8=some (some 83,.load 9 (.tmp 82),none):=by kernel_rfl
theorem ry:say kD 9=some (some 84,.load 22 (.tmp 10),none):=by kernel_rfl
theorem ik:say kD 10=some (some 85,.move (.tmp 1),none):=by kernel_rfl
theorem il:say kD 11=some (some 86,.call { callee:=.value (.func 71),args:=#[.tmp 76,.tmp 83,.tmp 84,.tmp 85],argTypes:=#[123,9,22,34] },none):=by kernel_rfl
theorem im:say kD 12=some (some 13,.alloc 22,none):=by kernel_rfl
theorem wM:say kD 13=some (none,.store 22 (.tmp 13) (.tmp 86),none):=by kernel_rfl
def Vc15 (m C _b10 b12 g N nc i:Nat) (nm:ByteArray) (Sc Ha _Za:Array Value) (r:Nat→Value):Nat→Value
 | 0=>.pointer (some ⟨b12,1,none⟩)
 | 1=>.agg Sc
 | 2=>.pointer (some ⟨C,0,none⟩)
 | 3=>.pointer (some ⟨C,0,none⟩)
 | 4=>.pointer (some ⟨C,0,none⟩)
 | 5=>.slice (some ⟨g,0,none⟩) N nc
 | 6=>.int .i64 (i:Int)
 | 7=>.pointer (some ⟨g,i,none⟩)
 | 8=>.string nm
 | 9=>.agg Ha
 | 10=>.func (.func 29) #[.pointer (some ⟨m,0,none⟩)] #[]
 | 11=>(r 1)
 | 12=>(r 9)
 | 13=>undef
 | _=>undef
theorem regc15 (m C b10 b12 g N nc i:Nat) (nm:ByteArray) (Sc Ha Za:Array Value) (lo:Nat) (F0 F1 F2:(Nat→Value)→World→Prop) (B:World→Prop)  (t0:Array Value) (wr:World) {Q:Exit→Act→World→Prop} (ht:t0.size=98) (h12:t0.getD 12 undef=.pointer (some ⟨b12,0,none⟩)) (h0:t0.getD 0 undef=.pointer (some ⟨C,0,none⟩)) (h11:t0.getD 11 undef=.int .i64 (i:Int)) (h10:t0.getD 10 undef=.pointer (some ⟨b10,0,none⟩)) (h1:t0.getD 1 undef=.func (.func 29) #[.pointer (some ⟨m,0,none⟩)] #[])
  (hS3:Sc.size=3) (hH:Ha.size=32) (hin:¬ N≤i) (hz32:(hA j7).size=32) (hZ:Za.size=32∧Za.all (·.oneCell')=true)
  (hb0:∀ r w,F0 r w→B w) (hb1:∀ r w,F1 r w→B w)
  (hk0:∀ r w,F0 r w→F0 (ups r 9 (.pointer (some ⟨w.heap.size,0,none⟩))) (w.alloc (.cells (hA j7) 22)))
  (hk1:∀ r w,F1 r w→F1 (ups r 9 (.pointer (some ⟨w.heap.size,0,none⟩))) (w.alloc (.cells (hA j7) 22)))
  (hlo:∀ w,B w→lo≤w.heap.size)
  (hc1:∀ r w,F0 r w→Calls Tryz.prog 71 #[.agg Sc,.string nm,.agg Ha,.func (.func 29) #[.pointer (some ⟨m,0,none⟩)] #[]] w fun e w'=>∃ u,e=.returned u∧F1 (ups r 1 u) w'∧G w w')
  (hw2:∀ r w b,F1 r w→r 9=.pointer (some ⟨b,0,none⟩)→w.heap[b]?=some (.cells (hA j7) 22 (0,0))→lo≤b→r 1=.agg Za∧F2 r (w.setRow b Za))
  (hl1:∀ w,B w→Lies w b12 1 Sc)
  (hl5:∀ w,B w→w.cell? ⟨C,0,none⟩=some (.slice (some ⟨g,0,none⟩) N nc))
  (hl8:∀ w,B w→w.cell? ⟨g,i,none⟩=some (.string nm))
  (hl9:∀ w,B w→Lies w b10 0 Ha)
  (hst0:∀ r,F0 r wr.drew)
  (hQ:∀ r w,F2 r w→Q .normal ⟨fold kD (Vc15 m C b10 b12 g N nc i nm Sc Ha Za r) t0 14,[]⟩ w):(Code.region 15 kD true).wp Tryz.prog Q ⟨t0,[]⟩ wr:=by
 have hB:dstB kD t0.size=true:=by rw [ht];kernel_rfl
 have hBB:∀ r done w,MC F0 [(11,F1)] r done w→B w:=fun r done w h=>MC.base hb0 (by simp only [List.mem_cons,List.not_mem_nil,or_false];rintro x rfl;assumption) h
 refine jL (by kernel_rfl) (IE kD (Vc15 m C b10 b12 g N nc i nm Sc Ha Za) t0 (MA 12 9 13 (fun _=>hA j7) 22 lo (fun b=>.pointer (some ⟨b,0,none⟩)) F0 [(13,F2),(11,F1)] )) (by kernel_rfl) ⟨(fun _=>undef),t0,rfl,⟨rfl,fun _ _=>rfl,fun _ _ _ _ _ h=>by cases h⟩,MA.start (hst0 _)⟩ ?_ ?_
 rotate_left 1
 ·rintro done a w ⟨r,t,rfl,hS,hM⟩ hall
  rw [hS.end hB hall,eB]
  exact hQ r w (MC.get (hall 13 (by rw [eB];decide)) [] (by simp) hM.1)
 ·rintro jz op done a w ho ⟨r,t,rfl,hS,hM⟩ hnd hdep hcl
  have e12:=hS.ol h12
  have e0:=hS.ol h0
  have e11:=hS.ol h11
  have e10:=hS.ol h10
  have e1:=hS.ol h1
  have hlt:jz<14:=by rw [← eB];exact (ga ho).1
  match jz,hlt,ho,hnd,hdep with
  | 0,_,ho,hnd,hdep=>
   refine jM rj r hB ho hS (hM.step (by rfl)) fun hop=>?_
   unfold execOp;simp [hop,e12,Vc15,go_sem]
  | 1,_,ho,hnd,hdep=>
   have x75:=hS.gt rj ho hdep
   simp only [Vc15] at x75
   have ny13:done 13=false:=j8 (by kernel_rfl) hcl hnd
   refine jM rk r hB ho hS (hM.step (by rfl)) fun hop=>?_
   exact jQ 123 _ hop b12 1 (by show t.getD 75 undef=_;rw [gd];exact x75) Sc _ (hl1 w (hBB _ _ _ (MC.cut [(13,F2)] (by simp [ny13]) hM.1))) Tryz.underlying123 rfl (by rw [zE,hS3])
  | 2,_,ho,hnd,hdep=>
   refine jM rn r hB ho hS (hM.step (by rfl)) fun hop=>?_
   unfold execOp;simp [hop,e0,Vc15,go_sem]
  | 3,_,ho,hnd,hdep=>
   have x77:=hS.gt rn ho hdep
   refine jM ro r hB ho hS (hM.step (by rfl)) fun hop=>?_
   unfold execOp;simp [hop,x77,Vc15,go_sem]
  | 4,_,ho,hnd,hdep=>
   have x78:=hS.gt ro ho hdep
   refine jM rp r hB ho hS (hM.step (by rfl)) fun hop=>?_
   unfold execOp;simp [hop,x78,Vc15,go_sem]
  | 5,_,ho,hnd,hdep=>
   have x79:=hS.gt rp ho hdep
   have ny13:done 13=false:=j8 (by kernel_rfl) hcl hnd
   have cz:=hl5 w (hBB _ _ _ (MC.cut [(13,F2)] (by simp [ny13]) hM.1))
   refine jM rq r hB ho hS (hM.step (by rfl)) fun hop=>?_
   unfold execOp;simp [hop,x79,Vc15,cz,go_sem]
  | 6,_,ho,hnd,hdep=>
   refine jM ru r hB ho hS (hM.step (by rfl)) fun hop=>?_
   unfold execOp;simp [hop,e11,Vc15,go_sem]
  | 7,_,ho,hnd,hdep=>
   have x80:=hS.gt rq ho hdep
   have x81:=hS.gt ru ho hdep
   refine jM rv r hB ho hS (hM.step (by rfl)) fun hop=>?_
   unfold execOp;simp [hop,x80,x81,Vc15,hin,go_sem]
  | 8,_,ho,hnd,hdep=>
   have x82:=hS.gt rv ho hdep
   have ny13:done 13=false:=j8 (by kernel_rfl) hcl hnd
   have cz:=hl8 w (hBB _ _ _ (MC.cut [(13,F2)] (by simp [ny13]) hM.1))
   refine jM rx r hB ho hS (hM.step (by rfl)) fun hop=>?_
   unfold execOp;simp [hop,x82,Vc15,cz,go_sem]
  | 9,_,ho,hnd,hdep=>
   have ny13:done 13=false:=j8 (by kernel_rfl) hcl hnd
   refine jM ry r hB ho hS (hM.step (by rfl)) fun hop=>?_
   exact jQ 22 _ hop b10 0 (by show t.getD 10 undef=_;rw [gd];exact e10) Ha _ (hl9 w (hBB _ _ _ (MC.cut [(13,F2)] (by simp [ny13]) hM.1))) Tryz.underlying22 rfl (by rw [jK,hH])
  | 10,_,ho,hnd,hdep=>
   refine jM ik r hB ho hS (hM.step (by rfl)) fun hop=>?_
   unfold execOp;simp [hop,e1,Vc15,go_sem]
  | 11,_,ho,hnd,hdep=>
   obtain ⟨hd,hop,hgd⟩:=jB il ho
   have x76:=hS.gt rk ho hdep
   simp only [Vc15] at x76
   have x83:=hS.gt rx ho hdep
   simp only [Vc15] at x83
   have x84:=hS.gt ry ho hdep
   simp only [Vc15] at x84
   have x85:=hS.gt ik ho hdep
   simp only [Vc15] at x85
   have ny13:done 13=false:=j8 (by kernel_rfl) hcl hnd
   have hF:=MC.get0 [(13,F2),(11,F1)] (by simp [hnd,ny13]) hM.1
   refine jb r 71 #[.agg Sc,.string nm,.agg Ha,.func (.func 29) #[.pointer (some ⟨m,0,none⟩)] #[]] hB ho (j0 hgd) hd hS ?_ ?_
   ·skip
    unfold execOp
    simp only [hop]
    simp [x76,x83,x84,x85,go_sem]
   ·skip
    refine (hc1 r w hF).mono ?_
    rintro e w' ⟨u,rfl,hF',hG'⟩
    refine ⟨ups r 1 u,?_,fun k hk=>?_,MA.call hM (MC.put hF' [(13,F2)] (by simp [ny13])) hG' (by decide) (by decide) (by decide) (fun _=>rfl)⟩
    ·simp only [Vc15,jA]
    ·skip
     have q11:k≠11:=fun e=>by rw [e,hnd] at hk;cases hk
     unfold Vc15
     split<;>first | rfl | exact absurd rfl q11
  | 12,_,ho,hnd,hdep=>
   obtain ⟨hd,hop,hgd⟩:=jB im ho
   have ny13:done 13=false:=j8 (by kernel_rfl) hcl hnd
   refine qM r (ups r 9 (.pointer (some ⟨w.heap.size,0,none⟩))) (w.alloc (.cells (hA j7) 22)) hB ho (j0 hgd) hd hS (fun k hk=>?_) (MA.new hM (by rfl) (hlo w (hBB _ _ _ (MC.cut [(13,F2)] (by simp [ny13]) hM.1))) rfl (hk0 r w) (by
     intro x hx
     simp only [List.mem_cons,List.not_mem_nil,or_false] at hx
     rcases hx with rfl | rfl
     ·exact fun hd _=>by rw [ny13] at hd;cases hd
     ·exact fun _=>hk1 r w
     )) ?_
   ·skip
    have q12:k≠12:=fun e=>by rw [e,hnd] at hk;cases hk
    unfold Vc15
    split<;>first | rfl | exact absurd rfl q12
   ·show _=Result.ok (Next.value (Vc15 m C b10 b12 g N nc i nm Sc Ha Za (ups r 9 (.pointer (some ⟨w.heap.size,0,none⟩))) 12)) _
    simp only [Vc15,jA]
    exact yH 22 (hA j7) hop jv w _ rfl
  | 13,_,ho,hnd,hdep=>
   obtain ⟨hd,hop,hgd⟩:=jB wM ho
   have x13:=hS.gt im ho hdep
   simp only [Vc15] at x13
   have x86:=hS.gt il ho hdep
   simp only [Vc15] at x86
   have a11:done 11=true:=jy (j:=11) (by kernel_rfl) ho hdep
   have a12:done 12=true:=jy (j:=12) (by kernel_rfl) ho hdep
   have hF:=MC.get a11 [(13,F2)] (by simp [hnd]) hM.1
   obtain ⟨b9,e8,ho9,hlo9⟩:=hM.2 a12 hnd
   obtain ⟨e9,hF9⟩:=hw2 r w b9 hF e8 ho9 hlo9
   refine qh (w':=w.setRow b9 Za) r ho (j0 hgd) hd hS (MA.fin (MC.put hF9 [] (by simp))) ?_
   exact qN 22 _ _ hop b9 Za (hA j7) (Eq.trans (by show t.getD 13 undef=_;rw [gd];exact x13) e8) (Eq.trans (by show t.getD 86 undef=_;rw [gd];exact x86) e9) w ho9 (by rw [jK,hZ.1]) (by rw [hz32,hZ.1]) hZ.2
theorem foldc15 (m C b10 b12 g N nc i:Nat) (nm:ByteArray) (Sc Ha Za:Array Value) (r:Nat→Value) (t0:Array Value):fold kD (Vc15 m C b10 b12 g N nc i nm Sc Ha Za r) t0 14=(((((((((((((t0.setIfInBounds 75 (.pointer (some ⟨b12,1,none⟩))).setIfInBounds 76 (.agg Sc)).setIfInBounds 77 (.pointer (some ⟨C,0,none⟩))).setIfInBounds 78 (.pointer (some ⟨C,0,none⟩))).setIfInBounds 79 (.pointer (some ⟨C,0,none⟩))).setIfInBounds 80 (.slice (some ⟨g,0,none⟩) N nc)).setIfInBounds 81 (.int .i64 (i:Int))).setIfInBounds 82 (.pointer (some ⟨g,i,none⟩))).setIfInBounds 83 (.string nm)).setIfInBounds 84 (.agg Ha)).setIfInBounds 85 (.func (.func 29) #[.pointer (some ⟨m,0,none⟩)] #[])).setIfInBounds 86 ((r 1))).setIfInBounds 13 ((r 9))):=by kernel_rfl
theorem zD {fn:Func} {p u:Tmp} (h:fn.results=#[.cell p 22,.tmp u]) (tmps:Array Value) (w:World) (g:Nat) (cs:Array Value)
  (hp:tmps.getD p undef=.pointer (some ⟨g,0,none⟩)) (hg:w.heap[g]?=some (.cells cs 22 (0,0))) (hs:cs.size=32):
  (results fn tmps).run Tryz.prog w=.ok (.tuple #[.agg cs,tmps.getD u undef]) w:=by
 have hp':tmps[p]?.getD undef=.pointer (some ⟨g,0,none⟩):=by simpa using hp
 simp [results,h,hp',asAddr,run_loadVar_row (P:=Tryz.prog) w g 22 22 cs (0,0) _ hg Tryz.underlying22 rfl (by rw [jK,hs])]
end Go.Proofs.YtdeanahpiigonaaGreatDoor
