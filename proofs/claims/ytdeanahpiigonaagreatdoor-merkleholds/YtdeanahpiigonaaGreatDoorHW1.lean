import Derived.Test.YtdeanahpiigonaaGreatDoorHZ2
set_option maxRecDepth 100000
set_option maxHeartbeats 8000000
namespace Go.Proofs.YtdeanahpiigonaaGreatDoor
open Go.RowKit Hm
attribute [local go_sem] Oper.semAt_some
def tup0:Value→Value
 | .tuple a=>a.getD 0 undef
 | _=>undef
def tup1:Value→Value
 | .tuple a=>a.getD 1 undef
 | _=>undef
def MB (A L:Nat) (z:(Nat→Value)→Array Value) (ty lo:Nat) (pv:Nat→Value) (F0:(Nat→Value)→World→Prop) (ps:List (Nat × ((Nat→Value)→World→Prop))) (r:Nat→Value) (done:Nat→Bool) (w:World):Prop:=
 MC F0 ps r done w∧(done A=true→∃ b,r L=pv b∧w.heap[b]?=some (.cells (z r) ty (0,0))∧lo≤b)
theorem MB.step {A L:Nat} {z:(Nat→Value)→Array Value} {ty lo:Nat} {pv:Nat→Value} {F0:(Nat→Value)→World→Prop} {ps:List (Nat × ((Nat→Value)→World→Prop))} {r:Nat→Value} {done:Nat→Bool} {w:World} {j:Nat} (h:MB A L z ty lo pv F0 ps r done w) (hj:(A::ps.map (·.1)).contains j=false):MB A L z ty lo pv F0 ps r (upd done j) w:=by
 simp only [List.contains_cons,Bool.or_eq_false_iff,beq_eq_false_iff_ne] at hj
 refine ⟨h.1.step hj.2,fun h1=>?_⟩
 rw [xy done (Ne.symm hj.1)] at h1
 exact h.2 h1
theorem MB.start {A L:Nat} {z:(Nat→Value)→Array Value} {ty lo:Nat} {pv:Nat→Value} {F0:(Nat→Value)→World→Prop} {ps:List (Nat × ((Nat→Value)→World→Prop))} {r:Nat→Value} {w:World} (h:F0 r w):MB A L z ty lo pv F0 ps r (fun _=>false) w:=⟨MC.start h,fun h=>by cases h⟩
theorem MB.call {A L:Nat} {z:(Nat→Value)→Array Value} {ty lo:Nat} {pv:Nat→Value} {F0:(Nat→Value)→World→Prop} {ps:List (Nat × ((Nat→Value)→World→Prop))} {r:Nat→Value} {done:Nat→Bool} {w w':World} {j L':Nat} {u:Value} (h:MB A L z ty lo pv F0 ps r done w) (hC:MC F0 ps (ups r L' u) (upd done j) w') (hg:G w w') (hL:L≠L') (hA:A≠j) (hz:done A=true→z (ups r L' u)=z r):MB A L z ty lo pv F0 ps (ups r L' u) (upd done j) w':=by
 refine ⟨hC,fun h1=>?_⟩
 rw [xy done hA] at h1
 obtain ⟨b,e,hb,hlo⟩:=h.2 h1
 exact ⟨b,by rw [qr _ _ hL];exact e,by rw [hz h1];exact (hg.block b (ga hb).1).trans hb,hlo⟩
theorem MB.new {A L:Nat} {z:(Nat→Value)→Array Value} {ty lo:Nat} {pv:Nat→Value} {F0:(Nat→Value)→World→Prop} {ps:List (Nat × ((Nat→Value)→World→Prop))} {r:Nat→Value} {done:Nat→Bool} {w:World} (h:MB A L z ty lo pv F0 ps r done w) (hA:(ps.map (·.1)).contains A=false) (hlo:lo≤w.heap.size) (hz:z (ups r L (pv w.heap.size))=z r) (h0:F0 r w→F0 (ups r L (pv w.heap.size)) (w.alloc (.cells (z r) ty))) (hs:∀ x∈ps,done x.1=true→x.2 r w→x.2 (ups r L (pv w.heap.size)) (w.alloc (.cells (z r) ty))):MB A L z ty lo pv F0 ps (ups r L (pv w.heap.size)) (upd done A) (w.alloc (.cells (z r) ty)):=
 ⟨(MC.map h0 hs h.1).step hA,fun _=>⟨w.heap.size,jA _ _ _,by rw [hz];exact World.alloc_heap_new w _,hlo⟩⟩
noncomputable abbrev ki:Array Oper:=kS Tryz.f20 23
theorem eW:ki.size=11:=by kernel_rfl
theorem th:say ki 0=some (some 121,.load 27 (.tmp 6),none):=by kernel_rfl
theorem ti:say ki 1=some (some 122,.move (.tmp 1),none):=by kernel_rfl
theorem tj:say ki 2=some (some 123,.move (.tmp 3),none):=by kernel_rfl
theorem tk:say ki 3=some (some 124,.move (.tmp 4),none):=by kernel_rfl
theorem tm:say ki 4=some (some 125,.indexAddr 58 (.tmp 123) (.tmp 124),none):=by kernel_rfl
theorem tn:say ki 5=some (some 126,.load 9 (.tmp 125),none):=by kernel_rfl
theorem mF:say ki 6=some (some 127,.call { callee:=.value (.func 53),args:=#[.tmp 121,.tmp 122,.tmp 126],argTypes:=#[27,62,9] },none):=by kernel_rfl
theorem tq:say ki 7=some (some 128,.extract (.tmp 127) 0,none):=by kernel_rfl
theorem tr:say ki 8=some (some 129,.extract (.tmp 127) 1,none):=by kernel_rfl
theorem a2L:say ki 9=some (some 12,.assign (.tmp 128),none):=by kernel_rfl
theorem wx:say ki 10=some (some 13,.assign (.tmp 129),none):=by kernel_rfl
def Ve23 (M _b1 g N nc k:Nat) (nm:ByteArray) (bt:Int) (r:Nat→Value):Nat→Value
 | 0=>.agg #[.int .i64 bt]
 | 1=>.pointer (some ⟨M,0,none⟩)
 | 2=>.slice (some ⟨g,0,none⟩) N nc
 | 3=>.int .i64 (k:Int)
 | 4=>.pointer (some ⟨g,k,none⟩)
 | 5=>.string nm
 | 6=>(r 1)
 | 7=>tup0 (r 1)
 | 8=>tup1 (r 1)
 | 9=>tup0 (r 1)
 | 10=>tup1 (r 1)
 | _=>undef
theorem rege23 (M b1 g N nc k:Nat) (nm:ByteArray) (bt:Int) (F0 F1:(Nat→Value)→World→Prop) (B:World→Prop)  (t0:Array Value) (wr:World) {Q:Exit→Act→World→Prop} (ht:t0.size=130) (h6:t0.getD 6 undef=.pointer (some ⟨b1,0,none⟩)) (h1:t0.getD 1 undef=.pointer (some ⟨M,0,none⟩)) (h3:t0.getD 3 undef=.slice (some ⟨g,0,none⟩) N nc) (h4:t0.getD 4 undef=.int .i64 (k:Int))
  (hix:¬ N≤k) (hT:∀ r w,F1 r w→∃ a b,r 1=.tuple #[a,b])
  (hb0:∀ r w,F0 r w→B w)
  (hc1:∀ r w,F0 r w→Calls Tryz.prog 53 #[.agg #[.int .i64 bt],.pointer (some ⟨M,0,none⟩),.string nm] w fun e w'=>∃ u,e=.returned u∧F1 (ups r 1 u) w')
  (hl0:∀ w,B w→Lies w b1 0 #[.int .i64 bt])
  (hl5:∀ w,B w→w.cell? ⟨g,k,none⟩=some (.string nm))
  (hst0:∀ r,F0 r wr.drew)
  (hQ:∀ r w,F1 r w→Q .normal ⟨fold ki (Ve23 M b1 g N nc k nm bt r) t0 11,[]⟩ w):(Code.region 23 ki true).wp Tryz.prog Q ⟨t0,[]⟩ wr:=by
 have hB:dstB ki t0.size=true:=by rw [ht];kernel_rfl
 have hBB:∀ r done w,MC F0 [] r done w→B w:=fun r done w h=>MC.base hb0 (by intro x h;cases h) h
 refine jL (by kernel_rfl) (IE ki (Ve23 M b1 g N nc k nm bt) t0 (MC F0 [(6,F1)] )) (by kernel_rfl) ⟨(fun _=>undef),t0,rfl,⟨rfl,fun _ _=>rfl,fun _ _ _ _ _ h=>by cases h⟩,MC.start (hst0 _)⟩ ?_ ?_
 rotate_left 1
 ·rintro done a w ⟨r,t,rfl,hS,hM⟩ hall
  rw [hS.end hB hall,eW]
  exact hQ r w (MC.get (hall 6 (by rw [eW];decide)) [] (by simp) hM)
 ·rintro jz op done a w ho ⟨r,t,rfl,hS,hM⟩ hnd hdep hcl
  have e6:=hS.ol h6
  have e1:=hS.ol h1
  have e3:=hS.ol h3
  have e4:=hS.ol h4
  have hlt:jz<11:=by rw [← eW];exact (ga ho).1
  match jz,hlt,ho,hnd,hdep with
  | 0,_,ho,hnd,hdep=>
   have ny6:done 6=false:=j8 (by kernel_rfl) hcl hnd
   refine jM th r hB ho hS (hM.step (by rfl)) fun hop=>?_
   exact jQ 27 _ hop b1 0 (by show t.getD 6 undef=_;rw [gd];exact e6) #[.int .i64 bt] _ (hl0 w (hBB _ _ _ (MC.cut [(6,F1)] (by simp [ny6]) hM))) Tryz.underlying27 rfl zC
  | 1,_,ho,hnd,hdep=>
   refine jM ti r hB ho hS (hM.step (by rfl)) fun hop=>?_
   unfold execOp;simp [hop,e1,Ve23,go_sem]
  | 2,_,ho,hnd,hdep=>
   refine jM tj r hB ho hS (hM.step (by rfl)) fun hop=>?_
   unfold execOp;simp [hop,e3,Ve23,go_sem]
  | 3,_,ho,hnd,hdep=>
   refine jM tk r hB ho hS (hM.step (by rfl)) fun hop=>?_
   unfold execOp;simp [hop,e4,Ve23,go_sem]
  | 4,_,ho,hnd,hdep=>
   have x123:=hS.gt tj ho hdep
   have x124:=hS.gt tk ho hdep
   refine jM tm r hB ho hS (hM.step (by rfl)) fun hop=>?_
   unfold execOp;simp [hop,x123,x124,Ve23,hix,go_sem]
  | 5,_,ho,hnd,hdep=>
   have x125:=hS.gt tm ho hdep
   have ny6:done 6=false:=j8 (by kernel_rfl) hcl hnd
   have cz:=hl5 w (hBB _ _ _ (MC.cut [(6,F1)] (by simp [ny6]) hM))
   refine jM tn r hB ho hS (hM.step (by rfl)) fun hop=>?_
   unfold execOp;simp [hop,x125,Ve23,cz,go_sem]
  | 6,_,ho,hnd,hdep=>
   obtain ⟨hd,hop,hgd⟩:=jB mF ho
   have x121:=hS.gt th ho hdep
   simp only [Ve23] at x121
   have x122:=hS.gt ti ho hdep
   simp only [Ve23] at x122
   have x126:=hS.gt tn ho hdep
   simp only [Ve23] at x126
   have ny7:done 7=false:=j8 (by kernel_rfl) hcl hnd
   have ny8:done 8=false:=j8 (by kernel_rfl) hcl hnd
   have ny9:done 9=false:=j8 (by kernel_rfl) hcl hnd
   have ny10:done 10=false:=j8 (by kernel_rfl) hcl hnd
   have hF:=MC.get0 [(6,F1)] (by simp [hnd]) hM
   refine jb r 53 #[.agg #[.int .i64 bt],.pointer (some ⟨M,0,none⟩),.string nm] hB ho (j0 hgd) hd hS ?_ ?_
   ·skip
    unfold execOp
    simp only [hop]
    simp [x121,x122,x126,go_sem]
   ·skip
    refine (hc1 r w hF).mono ?_
    rintro e w' ⟨u,rfl,hF'⟩
    refine ⟨ups r 1 u,?_,fun k hk=>?_,MC.put hF' [] (by simp)⟩
    ·simp only [Ve23,jA]
    ·skip
     have q6:k≠6:=fun e=>by rw [e,hnd] at hk;cases hk
     have q7:k≠7:=fun e=>by rw [e,ny7] at hk;cases hk
     have q8:k≠8:=fun e=>by rw [e,ny8] at hk;cases hk
     have q9:k≠9:=fun e=>by rw [e,ny9] at hk;cases hk
     have q10:k≠10:=fun e=>by rw [e,ny10] at hk;cases hk
     unfold Ve23
     split<;>first | rfl | exact absurd rfl q6 | exact absurd rfl q7 | exact absurd rfl q8 | exact absurd rfl q9 | exact absurd rfl q10
  | 7,_,ho,hnd,hdep=>
   obtain ⟨hd,hop,hgd⟩:=jB tq ho
   have x127:=hS.gt mF ho hdep
   have a6:done 6=true:=jy (j:=6) (by kernel_rfl) ho hdep
   have hF:=MC.get a6 [] (by simp) hM
   obtain ⟨q1,q2,hq⟩:=hT r w hF
   refine jJ r hB ho (j0 hgd) hd hS (hM.step (by rfl)) ?_
   unfold execOp;simp [hop,x127,Ve23,hq,tup0,go_sem]
  | 8,_,ho,hnd,hdep=>
   obtain ⟨hd,hop,hgd⟩:=jB tr ho
   have x127:=hS.gt mF ho hdep
   have a6:done 6=true:=jy (j:=6) (by kernel_rfl) ho hdep
   have hF:=MC.get a6 [] (by simp) hM
   obtain ⟨q1,q2,hq⟩:=hT r w hF
   refine jJ r hB ho (j0 hgd) hd hS (hM.step (by rfl)) ?_
   unfold execOp;simp [hop,x127,Ve23,hq,tup1,go_sem]
  | 9,_,ho,hnd,hdep=>
   have x128:=hS.gt tq ho hdep
   refine jM a2L r hB ho hS (hM.step (by rfl)) fun hop=>?_
   unfold execOp;simp [hop,x128,Ve23,go_sem]
  | 10,_,ho,hnd,hdep=>
   have x129:=hS.gt tr ho hdep
   refine jM wx r hB ho hS (hM.step (by rfl)) fun hop=>?_
   unfold execOp;simp [hop,x129,Ve23,go_sem]
theorem folde23 (M b1 g N nc k:Nat) (nm:ByteArray) (bt:Int) (r:Nat→Value) (t0:Array Value):fold ki (Ve23 M b1 g N nc k nm bt r) t0 11=(((((((((((t0.setIfInBounds 121 (.agg #[.int .i64 bt])).setIfInBounds 122 (.pointer (some ⟨M,0,none⟩))).setIfInBounds 123 (.slice (some ⟨g,0,none⟩) N nc)).setIfInBounds 124 (.int .i64 (k:Int))).setIfInBounds 125 (.pointer (some ⟨g,k,none⟩))).setIfInBounds 126 (.string nm)).setIfInBounds 127 ((r 1))).setIfInBounds 128 (tup0 (r 1))).setIfInBounds 129 (tup1 (r 1))).setIfInBounds 12 (tup0 (r 1))).setIfInBounds 13 (tup1 (r 1))):=by kernel_rfl
noncomputable abbrev yj:Array Oper:=kS Tryz.f20 21
theorem cQ:yj.size=7:=by kernel_rfl
theorem tt:say yj 0=some (some 102,.load 24 (.tmp 18),none):=by kernel_rfl
theorem tu:say yj 1=some (some 103,.call { callee:=.value (.func 51),args:=#[.tmp 102],argTypes:=#[24] },none):=by kernel_rfl
theorem tw:say yj 2=some (some 104,.buildSlice 31 1 #[(0,.tmp 103)],none):=by kernel_rfl
theorem tz:say yj 3=some (some 105,.load 24 (.tmp 18),none):=by kernel_rfl
theorem uA:say yj 4=some (some 106,.call { callee:=.value (.func 15),args:=#[.tmp 105],argTypes:=#[24] },none):=by kernel_rfl
theorem a2M:say yj 5=some (some 12,.assign (.tmp 104),none):=by kernel_rfl
theorem a2N:say yj 6=some (some 13,.assign (.tmp 106),none):=by kernel_rfl
def Ve21 (_b18:Nat) (X:Array Value) (r:Nat→Value):Nat→Value
 | 0=>.agg X
 | 1=>(r 1)
 | 2=>(r 9)
 | 3=>.agg X
 | 4=>(r 2)
 | 5=>(r 9)
 | 6=>(r 2)
 | _=>undef
theorem uB (b18:Nat) (X:Array Value) (lo:Nat) (F0 F1 F2:(Nat→Value)→World→Prop) (B:World→Prop)  (t0:Array Value) (wr:World) {Q:Exit→Act→World→Prop} (ht:t0.size=130) (h18:t0.getD 18 undef=.pointer (some ⟨b18,0,none⟩))
  (hX:X.size=35)
  (hb0:∀ r w,F0 r w→B w) (hb1:∀ r w,F1 r w→B w) (hb2:∀ r w,F2 r w→B w)
  (hk0:∀ r w,F0 r w→F0 (ups r 9 (.slice (some ⟨w.heap.size,0,none⟩) 1 1)) (w.alloc (.cells ((r 1).cells) 25)))
  (hk1:∀ r w,F1 r w→F1 (ups r 9 (.slice (some ⟨w.heap.size,0,none⟩) 1 1)) (w.alloc (.cells ((r 1).cells) 25)))
  (hk2:∀ r w,F2 r w→F2 (ups r 9 (.slice (some ⟨w.heap.size,0,none⟩) 1 1)) (w.alloc (.cells ((r 1).cells) 25)))
  (hlo:∀ w,B w→lo≤w.heap.size)
  (hc1:∀ r w,F0 r w→Calls Tryz.prog 51 #[.agg X] w fun e w'=>∃ u,e=.returned u∧F1 (ups r 1 u) w'∧G w w')
  (hc2:∀ r w,F1 r w→Calls Tryz.prog 15 #[.agg X] w fun e w'=>∃ u,e=.returned u∧F2 (ups r 2 u) w'∧G w w')
  (hsz:∀ r w,(F1 r w∨F2 r w)→((r 1).cells).size=1)
  (hl0:∀ w,B w→Lies w b18 0 X)
  (hl3:∀ w,B w→Lies w b18 0 X)
  (hst0:∀ r,F0 r wr.drew)
  (hQ:∀ r w b,F2 r w→r 9=.slice (some ⟨b,0,none⟩) 1 1→w.heap[b]?=some (.cells ((r 1).cells) 25 (0,0))→lo≤b→Q .normal ⟨fold yj (Ve21 b18 X r) t0 7,[]⟩ w):(Code.region 21 yj true).wp Tryz.prog Q ⟨t0,[]⟩ wr:=by
 have hB:dstB yj t0.size=true:=by rw [ht];kernel_rfl
 have hBB:∀ r done w,MC F0 [(4,F2),(1,F1)] r done w→B w:=fun r done w h=>MC.base hb0 (by simp only [List.mem_cons,List.not_mem_nil,or_false];rintro x (rfl | rfl)<;>assumption) h
 refine jL (by kernel_rfl) (IE yj (Ve21 b18 X) t0 (MB 2 9 (fun r=>(r 1).cells) 25 lo (fun b=>.slice (some ⟨b,0,none⟩) 1 1) F0 [(4,F2),(1,F1)] )) (by kernel_rfl) ⟨(fun _=>undef),t0,rfl,⟨rfl,fun _ _=>rfl,fun _ _ _ _ _ h=>by cases h⟩,MB.start (hst0 _)⟩ ?_ ?_
 rotate_left 1
 ·rintro done a w ⟨r,t,rfl,hS,hM⟩ hall
  rw [hS.end hB hall,cQ]
  obtain ⟨b9,e8,ho9,hlo9⟩:=hM.2 (hall 2 (by rw [cQ];decide))
  exact hQ r w b9 (MC.get (hall 4 (by rw [cQ];decide)) [] (by simp) hM.1) e8 ho9 hlo9
 ·rintro jz op done a w ho ⟨r,t,rfl,hS,hM⟩ hnd hdep hcl
  have e18:=hS.ol h18
  have hlt:jz<7:=by rw [← cQ];exact (ga ho).1
  match jz,hlt,ho,hnd,hdep with
  | 0,_,ho,hnd,hdep=>
   refine jM tt r hB ho hS (hM.step (by rfl)) fun hop=>?_
   exact jQ 24 _ hop b18 0 (by show t.getD 18 undef=_;rw [gd];exact e18) X _ (hl0 w (hBB _ _ _ hM.1)) jR rfl (by rw [qU,hX])
  | 1,_,ho,hnd,hdep=>
   obtain ⟨hd,hop,hgd⟩:=jB tu ho
   have x102:=hS.gt tt ho hdep
   simp only [Ve21] at x102
   have ny4:done 4=false:=j8 (by kernel_rfl) hcl hnd
   have ny2:done 2=false:=j8 (by kernel_rfl) hcl hnd
   have hF:=MC.get0 [(4,F2),(1,F1)] (by simp [hnd,ny4]) hM.1
   refine jb r 51 #[.agg X] hB ho (j0 hgd) hd hS ?_ ?_
   ·skip
    unfold execOp
    simp only [hop]
    simp [x102,go_sem]
   ·skip
    refine (hc1 r w hF).mono ?_
    rintro e w' ⟨u,rfl,hF',hG'⟩
    refine ⟨ups r 1 u,?_,fun k hk=>?_,MB.call hM (MC.put hF' [(4,F2)] (by simp [ny4])) hG' (by decide) (by decide) (fun h=>by rw [ny2] at h;cases h)⟩
    ·simp only [Ve21,jA]
    ·skip
     have q1:k≠1:=fun e=>by rw [e,hnd] at hk;cases hk
     unfold Ve21
     split<;>first | rfl | exact absurd rfl q1
  | 2,_,ho,hnd,hdep=>
   obtain ⟨hd,hop,hgd⟩:=jB tw ho
   have x103:=hS.gt tu ho hdep
   simp only [Ve21] at x103
   have ny5:done 5=false:=j8 (by kernel_rfl) hcl hnd
   have a1:done 1=true:=jy (j:=1) (by kernel_rfl) ho hdep
   refine qM r (ups r 9 (.slice (some ⟨w.heap.size,0,none⟩) 1 1)) (w.alloc (.cells ((r 1).cells) 25)) hB ho (j0 hgd) hd hS (fun k hk=>?_) (MB.new hM (by rfl) (hlo w (hBB _ _ _ hM.1)) (by simp [ups]) (hk0 r w) (by
     intro x hx
     simp only [List.mem_cons,List.not_mem_nil,or_false] at hx
     rcases hx with rfl | rfl
     ·exact fun _=>hk2 r w
     ·exact fun _=>hk1 r w
     )) ?_
   ·skip
    have q2:k≠2:=fun e=>by rw [e,hnd] at hk;cases hk
    have q5:k≠5:=fun e=>by rw [e,ny5] at hk;cases hk
    unfold Ve21
    split<;>first | rfl | exact absurd rfl q2 | exact absurd rfl q5
   ·show _=Result.ok (Next.value (Ve21 b18 X (ups r 9 (.slice (some ⟨w.heap.size,0,none⟩) 1 1)) 2)) _
    simp only [Ve21,jA]
    exact jf ek31 _ hop ((r 1)) ((r 1).cells) (by show t.getD 103 undef=_;rw [gd];exact x103) rfl (hsz r w (by have h:=hM.1;simp only [MC,a1] at h;split at h;exact .inr h;exact .inl h)) w _ rfl
  | 3,_,ho,hnd,hdep=>
   refine jM tz r hB ho hS (hM.step (by rfl)) fun hop=>?_
   exact jQ 24 _ hop b18 0 (by show t.getD 18 undef=_;rw [gd];exact e18) X _ (hl3 w (hBB _ _ _ hM.1)) jR rfl (by rw [qU,hX])
  | 4,_,ho,hnd,hdep=>
   obtain ⟨hd,hop,hgd⟩:=jB uA ho
   have x105:=hS.gt tz ho hdep
   simp only [Ve21] at x105
   have ny6:done 6=false:=j8 (by kernel_rfl) hcl hnd
   have a1:done 1=true:=jy (j:=1) (by kernel_rfl) ho hdep
   have hF:=MC.get a1 [(4,F2)] (by simp [hnd]) hM.1
   refine jb r 15 #[.agg X] hB ho (j0 hgd) hd hS ?_ ?_
   ·skip
    unfold execOp
    simp only [hop]
    simp [x105,go_sem]
   ·skip
    refine (hc2 r w hF).mono ?_
    rintro e w' ⟨u,rfl,hF',hG'⟩
    refine ⟨ups r 2 u,?_,fun k hk=>?_,MB.call hM (MC.put hF' [] (by simp)) hG' (by decide) (by decide) (fun _=>by simp [ups])⟩
    ·simp only [Ve21,jA]
    ·skip
     have q4:k≠4:=fun e=>by rw [e,hnd] at hk;cases hk
     have q6:k≠6:=fun e=>by rw [e,ny6] at hk;cases hk
     unfold Ve21
     split<;>first | rfl | exact absurd rfl q4 | exact absurd rfl q6
  | 5,_,ho,hnd,hdep=>
   have x104:=hS.gt tw ho hdep
   refine jM a2M r hB ho hS (hM.step (by rfl)) fun hop=>?_
   unfold execOp;simp [hop,x104,Ve21,go_sem]
  | 6,_,ho,hnd,hdep=>
   have x106:=hS.gt uA ho hdep
   refine jM a2N r hB ho hS (hM.step (by rfl)) fun hop=>?_
   unfold execOp;simp [hop,x106,Ve21,go_sem]
theorem mG (b18:Nat) (X:Array Value) (r:Nat→Value) (t0:Array Value):fold yj (Ve21 b18 X r) t0 7=(((((((t0.setIfInBounds 102 (.agg X)).setIfInBounds 103 ((r 1))).setIfInBounds 104 ((r 9))).setIfInBounds 105 (.agg X)).setIfInBounds 106 ((r 2))).setIfInBounds 12 ((r 9))).setIfInBounds 13 ((r 2))):=by kernel_rfl
structure EdI (bt:Int) (lo M:Nat) (l:List Int) (s:Wi.St) (W:World) (b1 b2 b3:Nat) (X:Array Value) (w:World):Prop where
 rf:Wi.RfS w lo M l s
 v1:w.heap[b1]?=some (.cells #[.int .i64 bt] 27 (0,0))
 v2:w.heap[b2]?=some (.cells X 24 (0,0))
 v3:w.heap[b3]?=some (.cells (hA j7) 22 (0,0))
 kp:Kp (fun b=>b=M) W w
 lo:M<W.heap.size∧W.heap.size≤b1∧W.heap.size≤b2∧W.heap.size≤b3
theorem EdI.up {bt:Int} {lo M:Nat} {l:List Int} {s:Wi.St} {W:World} {b1 b2 b3:Nat} {X:Array Value} {w w':World} (h:EdI bt lo M l s W b1 b2 b3 X w) (hg:G w w'):EdI bt lo M l s W b1 b2 b3 X w':=
 ⟨z8 h.rf hg,(hg.block b1 (ga h.v1).1).trans h.v1,(hg.block b2 (ga h.v2).1).trans h.v2,(hg.block b3 (ga h.v3).1).trans h.v3,h.kp.trans (Kp.of hg) fun _ _ e=>e,h.lo⟩
theorem EdI.rd {bt:Int} {lo M:Nat} {l:List Int} {s s':Wi.St} {W:World} {b1 b2 b3:Nat} {X:Array Value} {w w':World} (h:EdI bt lo M l s W b1 b2 b3 X w) (hr:Wi.RfS w' lo M l s') (hk:Kp (fun b=>b=M) w w'):EdI bt lo M l s' W b1 b2 b3 X w':=
 ⟨hr,(hk.block b1 (ga h.v1).1 (by have:=h.lo;omega)).trans h.v1,(hk.block b2 (ga h.v2).1 (by have:=h.lo;omega)).trans h.v2,(hk.block b3 (ga h.v3).1 (by have:=h.lo;omega)).trans h.v3,h.kp.trans hk fun _ _ e=>e,h.lo⟩
theorem xR (v:Vd) (h:v.kind=2∨v.kind=3):(if v.kind=3 then 76::(encN v.size.toNat++v.sum) else 70::(encN v.mode.toNat++(encN v.size.toNat++v.sum)))=ownT v 0 j7:=by
 unfold ownT
 rcases h with h | h
 ·rw [if_neg (by omega),if_pos h]
 ·rw [if_pos h,if_neg (by omega),if_pos h]
theorem ap {v:Vd} (h:VdOk v) (hk:v.kind=2∨v.kind=3):Su.Bytes (ownT v 0 j7)∧(ownT v 0 j7).length≤100000:=by
 have h1:=ju (n:=v.mode.toNat) (by have:=h.1;omega)
 have h2:=ju (n:=v.size.toNat) (by have:=h.2.1;omega)
 have hb:Su.Bytes v.sum:=h.2.2
 unfold ownT
 rcases hk with hk | hk
 ·rw [if_pos hk]
  refine ⟨fun x hx=>?_,by simp [v.len];omega⟩
  rcases List.mem_cons.1 hx with rfl | hx
  ·decide
  ·rcases List.mem_append.1 hx with hx | hx
   ·exact yE _ x hx
   ·rcases List.mem_append.1 hx with hx | hx
    ·exact yE _ x hx
    ·exact hb x hx
 ·rw [if_neg (by omega),if_pos hk]
  refine ⟨fun x hx=>?_,by simp [v.len];omega⟩
  rcases List.mem_cons.1 hx with rfl | hx
  ·decide
  ·rcases List.mem_append.1 hx with hx | hx
   ·exact yE _ x hx
   ·exact hb x hx
theorem eX (bt:Int) (lo M:Nat) (l:List Int) (s:Wi.St) (w:World) (hr:Wi.RfS w lo M l s) (_:Wire.Bytes l) (v:Vd) (na:Option Addr) (N nc n:Nat) (hn:n=N) (hv:VdOk v) (hk:v.kind=2∨v.kind=3) (RES:Option (List Nat × Wi.St)) (hR:RES=some (ownT v 0 j7,Wi.endS l s)):
  Calls Tryz.prog 20 #[.agg #[.int .i64 bt],.pointer (some ⟨M,0,none⟩),.int .u8 2,.slice na N nc,.int .i64 (n:Int),.agg (vx v).toArray] w fun e w'=>GpP lo M l w RES e w':=by
 have hz32:(hA j7).size=32:=jG jC
 have hMw:=qi hr
 have HI:=hid hr
 obtain ⟨X,hX⟩:∃ X:Array Value,X=(vx v).toArray:=⟨_,rfl⟩
 have x0:X[0]?=some (.int .i64 v.kind):=by rw [hX];rfl
 have x1:X[1]?=some (.int .i64 v.mode):=by rw [hX];rfl
 have HX:Hid (X=(vx v).toArray∧X.size=35):=⟨hX,by rw [hX];exact jx v⟩
 rw [← hX]
 clear hr hX
 have CE:Hid (∀ W s',Wi.RfS W lo M l s'→Calls Tryz.prog 52 #[.pointer (some ⟨M,0,none⟩)] W fun e w'=>e=.returned (.tuple #[])∧Wi.RfS w' lo M l (Wi.endS l s')∧Kp (fun b=>b=M) W w'):=fun W s' h=>(Wi.zi lo M l s' W h).mono fun e w' q=>⟨q.1,q.2.1,yC q.2.2⟩
 have C51:Hid (∀ W,∃ T5,(v.kind=2∨v.kind=3→T5=ownT v 0 j7)∧Calls Tryz.prog 51 #[.agg X] W fun e w'=>∃ u,e=.returned u∧Su.Owns w' W.heap.size u T5∧G W w'):=fun W=>⟨_,fun h=>xR v h,by have:=yv v W hv.1 hv.2.1;rw [← HX.o.1] at this;exact this⟩
 have hok:=hid (ap hv hk)
 have HR:=hid hR
 clear hR
 go_enter Tryz.func20,Tryz.ntmps20
 go_upto_region 2 with (first
  | ((with_reducible refine jt 6 27 (.tmp 0) (#[.int .i64 bt]:Array Value) ?_ ?_ ?_ ?_ ?_);rfl;rfl;kernel_rfl;rfl;intro w1 b1 H1)
  | ((with_reducible refine jt 11 24 (.tmp 5) X ?_ ?_ ?_ ?_ ?_);rfl;rfl;kernel_rfl;rfl;intro w2 b2 H2)
  | ((with_reducible refine jT 19 (.agg (hA j7)) w2 ?_ ?_ ?_ ?_);rfl;kernel_rfl;exact xI 22 rfl (hA j7) (yS _))
  | ((with_reducible refine qC 14 22 (hA j7) ?_ ?_ ?_ ?_ ?_);rfl;rfl;kernel_rfl;exact jv;intro w3 b3 H3)
  | ((with_reducible refine qj 22 (.tmp 14) (.tmp 19) b3 (hA j7) (hA j7) ?_ ?_ ?_ ?_ ?_ ?_ ?_ ?_ ?_ ?_);rfl;rfl;kernel_rfl;rfl;rfl;exact H3.o.2.2.1;exact (by rw [jK,hz32]);exact rfl;exact (jn _);intro w4 H4))
 have HE:Hid (EdI bt lo M l s w b1 b2 b3 X w4):=by
  obtain ⟨p1,p2,p3,p4⟩:=H1.o
  obtain ⟨q1,q2,q3,q4⟩:=H2.o
  obtain ⟨t1,t2,t3,t4⟩:=H3.o
  obtain ⟨u1,u2,u3⟩:=H4.o
  have g3:G w w3:=(G.trans (G.trans p2 q2) t2)
  exact ⟨qF (z8 HI.o g3) fun b hb=>u1.block b (by omega) (by omega),(u1.block b1 (by omega) (by omega)).trans ((t2.block b1 (by omega)).trans ((q2.block b1 (by omega)).trans p3)),(u1.block b2 (by omega) (by omega)).trans ((t2.block b2 (by omega)).trans q3),u2,(Kp.of g3).trans u1 fun b hb e=>by omega,by omega⟩
 clear H1 H2 H3 H4 HI
 have hzk:w4.cell? ⟨b2,0,none⟩=some (.int .i64 v.kind):=by rw [j9 HE.o.v2];exact x0
 have hk0:(v.kind !=0)=true:=by rw [bne_iff_ne];omega
 have hk1:(v.kind==1)=false:=by rw [beq_eq_false_iff_ne];omega
 obtain ⟨T5,h5,C5⟩:=C51.o w4
 have h5:=h5 hk
 subst h5
 have HC5:=hid C5
 generalize ownT v 0 j7=T at *
 generalize v.kind=kd at *
 subst hn
 clear C5 C51
 go_wp2_with (first
  | ((with_reducible refine jE 34 24 (.tmp 11) b2 0 X _ ?_ ?_ ?_ ?_ ?_ jR ?_ ?_ ?_);rfl;rfl;kernel_rfl;rfl;exact Lies.of_heap HE.o.v2;rfl;exact (by rw [qU,HX.o.2]))
  | (go_at_call 51;refine HC5.o.mono ?_;rintro e w5 ⟨u,rfl,q1,q2⟩;obtain ⟨ua,uc,hue⟩:=jo q1;subst hue;have H5:=hid (HE.o.up q2);have HO5:=hid q1;have hzk5:=q2.cell hzk;clear q1 q2)
  | (go_at_call 52;refine (CE.o _ _ H5.o.rf).mono ?_;rintro e w7 ⟨rfl,q1,q2⟩;have H7:=hid (H5.o.rd q1 q2);have HK7:=hid q2;clear q1 q2)
  | ((with_reducible refine jT 59 (.slice (some ⟨w7.heap.size,0,none⟩) 1 1) (w7.alloc (.cells #[.slice ua T.length uc] 25)) ?_ ?_ ?_ ?_);rfl;kernel_rfl;exact jf ek31 _ rfl (.slice ua T.length uc) #[.slice ua T.length uc] rfl rfl rfl _ _ rfl))
 have HO7:Hid (Su.Owns w7 0 (.slice ua T.length uc) T):=by
  obtain ⟨c67,h67⟩:=an H5.o.rf
  exact zO (HO5.o.mono (Nat.zero_le _)) (K2.at HK7.o h67 (by decide))
 go_ret2
 have ha:=G.alloc w7 (.cells #[.slice ua T.length uc] 25)
 exact ⟨(H7.o.up ha).kp,_,Wi.endS l s,(H7.o.up ha).rf,.inr ⟨T,HR.o,rfl,(Tx.one HO7.o _ rfl H7.o.kp.size).le (by omega),hok.o⟩⟩
theorem mH (bt:Int) (lo M:Nat) (l:List Int) (s:Wi.St) (w:World) (hr:Wi.RfS w lo M l s) (hB:Wire.Bytes l) (v:Vd) (na:Option Addr) (N nc n:Nat) (hn:n=N) (hv:VdOk v) (hk:v.kind=1) (RES:Option (List Nat × Wi.St)) (hR:RES=bn l v s):
  Calls Tryz.prog 20 #[.agg #[.int .i64 bt],.pointer (some ⟨M,0,none⟩),.int .u8 2,.slice na N nc,.int .i64 (n:Int),.agg (vx v).toArray] w fun e w'=>GpP lo M l w RES e w':=by
 have hz32:(hA j7).size=32:=jG jC
 have hMw:=qi hr
 have HI:=hid hr
 obtain ⟨X,hX⟩:∃ X:Array Value,X=(vx v).toArray:=⟨_,rfl⟩
 have x0:X[0]?=some (.int .i64 v.kind):=by rw [hX];rfl
 have x1:X[1]?=some (.int .i64 v.mode):=by rw [hX];rfl
 have HX:Hid (X=(vx v).toArray∧X.size=35):=⟨hX,by rw [hX];exact jx v⟩
 rw [← hX]
 clear hr hX
 have CE:Hid (∀ W s',Wi.RfS W lo M l s'→Calls Tryz.prog 52 #[.pointer (some ⟨M,0,none⟩)] W fun e w'=>e=.returned (.tuple #[])∧Wi.RfS w' lo M l (Wi.endS l s')∧Kp (fun b=>b=M) W w'):=fun W s' h=>(Wi.zi lo M l s' W h).mono fun e w' q=>⟨q.1,q.2.1,yC q.2.2⟩
 have C51:Hid (∀ W,∃ T5,(v.kind=2∨v.kind=3→T5=ownT v 0 j7)∧Calls Tryz.prog 51 #[.agg X] W fun e w'=>∃ u,e=.returned u∧Su.Owns w' W.heap.size u T5∧G W w'):=fun W=>⟨_,fun h=>xR v h,by have:=yv v W hv.1 hv.2.1;rw [← HX.o.1] at this;exact this⟩
 unfold bn at hR
 rw [if_pos hk] at hR
 simp only at hR
 have C18:Hid (∀ W,Wi.RfS W lo M l s→Calls Tryz.prog 18 #[.pointer (some ⟨M,0,none⟩),.int .u64 1048576] W fun e w'=>e=.returned (.int .u64 ((Wi.uintS l s 1048576).1:Nat))∧Wi.RfS w' lo M l (Wi.uintS l s 1048576).2∧Kp (fun b=>b=M) W w'):=fun W h=>refU h hB 1048576 1048576 rfl
 have l1:=kK l s 1048576
 generalize Wi.uintS l s 1048576=A at *
 obtain ⟨ct,sA⟩:=A
 simp only at C18 l1 hR
 have C50:Hid (∀ W,Wi.RfS W lo M l sA→Calls Tryz.prog 50 #[.pointer (some ⟨M,0,none⟩)] W fun e w'=>e=.returned (.agg (hA (h32 (Wi.rawB l sA 32))))∧Wi.RfS w' lo M l (Wi.rawS l sA 32)∧Kp (fun b=>b=M) W w'):=fun W h=>yi lo M l sA W h hB
 have hhs:(h32 (Wi.rawB l sA 32)).length=32∧Su.Bytes (h32 (Wi.rawB l sA 32)):=⟨qO _,kL (qW hB _)⟩
 generalize h32 (Wi.rawB l sA 32)=hh at *
 generalize Wi.rawS l sA 32=sH at *
 have HHs:Hid ((hA hh).size=32∧(hA hh).all (·.oneCell')=true):=⟨jG hhs.1,jn _⟩
 obtain ⟨md,hmd⟩:∃ m:Nat,v.mode=(m:Int):=⟨v.mode.toNat,by have:=hv.1;omega⟩
 have hmr:md≤9223372036854775807:=by have:=hv.1;omega
 have hok:=hid (ar (m:=md) (c:=ct) hmr (by omega) hhs)
 have CD:Hid (∀ W,Calls Tryz.prog 23 #[.int .i64 (md:Int),.int .i64 (ct:Int),.agg (hA hh)] W fun e w'=>∃ u,e=.returned u∧Su.Owns w' W.heap.size u (dirT md ct hh)∧G W w'):=fun W=>by
  have:=al md ct hh W hhs.1 (by omega) (by omega)
  rw [show dirT md ct hh=68::(encN md++encN ct++hh) by simp [dirT]]
  exact this
 rw [hmd,Int.toNat_natCast] at hR
 rw [hmd] at x1
 generalize dirT md ct hh=T at *
 have HR:=hid hR
 clear hR
 go_enter Tryz.func20,Tryz.ntmps20
 go_upto_region 2 with (first
  | ((with_reducible refine jt 6 27 (.tmp 0) (#[.int .i64 bt]:Array Value) ?_ ?_ ?_ ?_ ?_);rfl;rfl;kernel_rfl;rfl;intro w1 b1 H1)
  | ((with_reducible refine jt 11 24 (.tmp 5) X ?_ ?_ ?_ ?_ ?_);rfl;rfl;kernel_rfl;rfl;intro w2 b2 H2)
  | ((with_reducible refine jT 19 (.agg (hA j7)) w2 ?_ ?_ ?_ ?_);rfl;kernel_rfl;exact xI 22 rfl (hA j7) (yS _))
  | ((with_reducible refine qC 14 22 (hA j7) ?_ ?_ ?_ ?_ ?_);rfl;rfl;kernel_rfl;exact jv;intro w3 b3 H3)
  | ((with_reducible refine qj 22 (.tmp 14) (.tmp 19) b3 (hA j7) (hA j7) ?_ ?_ ?_ ?_ ?_ ?_ ?_ ?_ ?_ ?_);rfl;rfl;kernel_rfl;rfl;rfl;exact H3.o.2.2.1;exact (by rw [jK,hz32]);exact rfl;exact (jn _);intro w4 H4))
 have HE:Hid (EdI bt lo M l s w b1 b2 b3 X w4):=by
  obtain ⟨p1,p2,p3,p4⟩:=H1.o
  obtain ⟨q1,q2,q3,q4⟩:=H2.o
  obtain ⟨t1,t2,t3,t4⟩:=H3.o
  obtain ⟨u1,u2,u3⟩:=H4.o
  have g3:G w w3:=(G.trans (G.trans p2 q2) t2)
  exact ⟨qF (z8 HI.o g3) fun b hb=>u1.block b (by omega) (by omega),(u1.block b1 (by omega) (by omega)).trans ((t2.block b1 (by omega)).trans ((q2.block b1 (by omega)).trans p3)),(u1.block b2 (by omega) (by omega)).trans ((t2.block b2 (by omega)).trans q3),u2,(Kp.of g3).trans u1 fun b hb e=>by omega,by omega⟩
 clear H1 H2 H3 H4 HI
 have hzk:w4.cell? ⟨b2,0,none⟩=some (.int .i64 v.kind):=by rw [j9 HE.o.v2];exact x0
 have hzm:w4.cell? ⟨b2,1,none⟩=some (.int .i64 (md:Int)):=by rw [j9 HE.o.v2];exact x1
 obtain ⟨T5,h5,C5⟩:=C51.o w4
 have HC5:=hid C5
 rw [hk] at hzk
 subst hn
 clear C5 C51 h5
 by_cases hc0:ct=0
 ·subst hc0
  by_cases hht:hh=j7
  ·have hRS:RES=some (T,Wi.endS l sH):=by rw [HR.o,if_neg (by rintro ⟨_,h⟩;exact h hht)]
   subst hht
   go_wp2_with (first
    | ((with_reducible refine jE 34 24 (.tmp 11) b2 0 X _ ?_ ?_ ?_ ?_ ?_ jR ?_ ?_ ?_);rfl;rfl;kernel_rfl;rfl;exact Lies.of_heap HE.o.v2;rfl;exact (by rw [qU,HX.o.2]))
    | (go_at_call 51;refine HC5.o.mono ?_;rintro e w5 ⟨u,rfl,q1,q2⟩;obtain ⟨ua,uc0,hue⟩:=jo q1;subst hue;have H5:=hid (HE.o.up q2);have hzk5:=q2.cell hzk;have hzm5:=q2.cell hzm;clear q1 q2)
    | (go_at_call 18;refine (C18.o w5 H5.o.rf).mono ?_;rintro e w6 ⟨rfl,q1,q2⟩;have H6:=hid (H5.o.rd q1 q2);have hzm6:=show w6.cell? ⟨b2,1,none⟩=some (.int .i64 (md:Int)) from (by rw [j9 H6.o.v2];exact x1);clear q1 q2)
    | (go_at_call 50;refine (C50.o w6 H6.o.rf).mono ?_;rintro e w8 ⟨rfl,q1,q2⟩;have H8:=hid (H6.o.rd q1 q2);clear q1 q2)
    | ((with_reducible refine qC 17 22 (hA j7) ?_ ?_ ?_ ?_ ?_);rfl;rfl;kernel_rfl;exact jv;intro w18 b17 H18)
    | ((with_reducible refine qj 22 (.tmp 17) (.tmp 43) b17 (hA j7) (hA j7) ?_ ?_ ?_ ?_ ?_ ?_ ?_ ?_ ?_ ?_);rfl;rfl;kernel_rfl;rfl;rfl;exact H18.o.2.2.1;exact (by rw [jK,HHs.o.1]);exact (hz32.trans HHs.o.1.symm);exact HHs.o.2;intro w9 H9;have H9':=H9;clear H9;have H9:Hid (EdI bt lo M l sH w b1 b2 b3 X w9∧w9.heap[b17]?=some (.cells (hA j7) 22 (0,0))):=(by obtain ⟨q1,q2,q3,q4⟩:=H18.o;obtain ⟨t1,t2,t3⟩:=H9'.o;have g:=H8.o.up q2;have gs:=H8.o.kp.size;have f1:=(ga H8.o.v1).1;have f2:=(ga H8.o.v2).1;have f3:=(ga H8.o.v3).1;have eM:=qi H8.o.rf;exact ⟨⟨qF g.rf fun b hb=>t1.block b (by omega) (by omega),(t1.block b1 (by omega) (by omega)).trans g.v1,(t1.block b2 (by omega) (by omega)).trans g.v2,(t1.block b3 (by omega) (by omega)).trans g.v3,g.kp.trans t1 fun b hb e=>by omega,g.lo⟩,t2⟩);have hzm9:=show w9.cell? ⟨b2,1,none⟩=some (.int .i64 (md:Int)) from (by rw [j9 H9.o.1.v2];exact x1))
    | ((with_reducible refine jE 47 22 (.tmp 17) b17 0 (hA j7) _ ?_ ?_ ?_ ?_ ?_ Tryz.underlying22 ?_ ?_ ?_);rfl;rfl;kernel_rfl;rfl;exact Lies.of_heap H9.o.2;rfl;exact (by rw [jK,HHs.o.1]))
    | ((with_reducible refine jE 48 22 (.tmp 14) b3 0 (hA j7) _ ?_ ?_ ?_ ?_ ?_ Tryz.underlying22 ?_ ?_ ?_);rfl;rfl;kernel_rfl;rfl;exact Lies.of_heap H9.o.1.v3;rfl;exact (by rw [jK,hz32]))
    | ((with_reducible refine jT 49 (.bool false) w9 ?_ ?_ ?_ ?_);rfl;kernel_rfl;exact yT _ _ rfl (hA j7) (hA j7) rfl rfl j7 j7 rfl rfl hhs.1 jC false (by simp) _)
    | ((with_reducible refine jE 54 22 (.tmp 17) b17 0 (hA j7) _ ?_ ?_ ?_ ?_ ?_ Tryz.underlying22 ?_ ?_ ?_);rfl;rfl;kernel_rfl;rfl;exact Lies.of_heap H9.o.2;rfl;exact (by rw [jK,HHs.o.1]))
    | (go_at_call 23;refine (CD.o w9).mono ?_;rintro e w10 ⟨u2,rfl,q1,q2⟩;obtain ⟨ub,uc,hue⟩:=jo q1;subst hue;have H10:=hid (H9.o.1.up q2);have HO5:=hid q1;clear q1 q2)
    | (go_at_call 52;refine (CE.o _ _ H10.o.rf).mono ?_;rintro e w7 ⟨rfl,q1,q2⟩;have H7:=hid (H10.o.rd q1 q2);have HK7:=hid q2;clear q1 q2)
    | ((with_reducible refine jT 59 (.slice (some ⟨w7.heap.size,0,none⟩) 1 1) (w7.alloc (.cells #[.slice ub T.length uc] 25)) ?_ ?_ ?_ ?_);rfl;kernel_rfl;exact jf ek31 _ rfl (.slice ub T.length uc) #[.slice ub T.length uc] rfl rfl rfl _ _ rfl))
   have HO7:Hid (Su.Owns w7 0 (.slice ub T.length uc) T):=by
    obtain ⟨c67,h67⟩:=an H10.o.rf
    exact zO (HO5.o.mono (Nat.zero_le _)) (K2.at HK7.o h67 (by decide))
   go_ret2
   have ha:=G.alloc w7 (.cells #[.slice ub T.length uc] 25)
   exact ⟨(H7.o.up ha).kp,_,Wi.endS l sH,(H7.o.up ha).rf,.inr ⟨T,hRS,rfl,(Tx.one HO7.o _ rfl H7.o.kp.size).le (by omega),hok.o⟩⟩
  ·have hRS:RES=none:=by rw [HR.o,if_pos ⟨rfl,hht⟩]
   go_wp2_with (first
    | ((with_reducible refine jE 34 24 (.tmp 11) b2 0 X _ ?_ ?_ ?_ ?_ ?_ jR ?_ ?_ ?_);rfl;rfl;kernel_rfl;rfl;exact Lies.of_heap HE.o.v2;rfl;exact (by rw [qU,HX.o.2]))
    | (go_at_call 51;refine HC5.o.mono ?_;rintro e w5 ⟨u,rfl,q1,q2⟩;obtain ⟨ua,uc0,hue⟩:=jo q1;subst hue;have H5:=hid (HE.o.up q2);have hzk5:=q2.cell hzk;have hzm5:=q2.cell hzm;clear q1 q2)
    | (go_at_call 18;refine (C18.o w5 H5.o.rf).mono ?_;rintro e w6 ⟨rfl,q1,q2⟩;have H6:=hid (H5.o.rd q1 q2);have hzm6:=show w6.cell? ⟨b2,1,none⟩=some (.int .i64 (md:Int)) from (by rw [j9 H6.o.v2];exact x1);clear q1 q2)
    | (go_at_call 50;refine (C50.o w6 H6.o.rf).mono ?_;rintro e w8 ⟨rfl,q1,q2⟩;have H8:=hid (H6.o.rd q1 q2);clear q1 q2)
    | ((with_reducible refine qC 17 22 (hA j7) ?_ ?_ ?_ ?_ ?_);rfl;rfl;kernel_rfl;exact jv;intro w18 b17 H18)
    | ((with_reducible refine qj 22 (.tmp 17) (.tmp 43) b17 (hA hh) (hA j7) ?_ ?_ ?_ ?_ ?_ ?_ ?_ ?_ ?_ ?_);rfl;rfl;kernel_rfl;rfl;rfl;exact H18.o.2.2.1;exact (by rw [jK,HHs.o.1]);exact (hz32.trans HHs.o.1.symm);exact HHs.o.2;intro w9 H9;have H9':=H9;clear H9;have H9:Hid (EdI bt lo M l sH w b1 b2 b3 X w9∧w9.heap[b17]?=some (.cells (hA hh) 22 (0,0))):=(by obtain ⟨q1,q2,q3,q4⟩:=H18.o;obtain ⟨t1,t2,t3⟩:=H9'.o;have g:=H8.o.up q2;have gs:=H8.o.kp.size;have f1:=(ga H8.o.v1).1;have f2:=(ga H8.o.v2).1;have f3:=(ga H8.o.v3).1;have eM:=qi H8.o.rf;exact ⟨⟨qF g.rf fun b hb=>t1.block b (by omega) (by omega),(t1.block b1 (by omega) (by omega)).trans g.v1,(t1.block b2 (by omega) (by omega)).trans g.v2,(t1.block b3 (by omega) (by omega)).trans g.v3,g.kp.trans t1 fun b hb e=>by omega,g.lo⟩,t2⟩);have hzm9:=show w9.cell? ⟨b2,1,none⟩=some (.int .i64 (md:Int)) from (by rw [j9 H9.o.1.v2];exact x1))
    | ((with_reducible refine jE 47 22 (.tmp 17) b17 0 (hA hh) _ ?_ ?_ ?_ ?_ ?_ Tryz.underlying22 ?_ ?_ ?_);rfl;rfl;kernel_rfl;rfl;exact Lies.of_heap H9.o.2;rfl;exact (by rw [jK,HHs.o.1]))
    | ((with_reducible refine jE 48 22 (.tmp 14) b3 0 (hA j7) _ ?_ ?_ ?_ ?_ ?_ Tryz.underlying22 ?_ ?_ ?_);rfl;rfl;kernel_rfl;rfl;exact Lies.of_heap H9.o.1.v3;rfl;exact (by rw [jK,hz32]))
    | ((with_reducible refine jT 49 (.bool true) w9 ?_ ?_ ?_ ?_);rfl;kernel_rfl;exact yT _ _ rfl (hA hh) (hA j7) rfl rfl hh j7 rfl rfl hhs.1 jC true (by simp [hht]) _))
   go_ret2
   exact ⟨H9.o.1.kp,_,sH,H9.o.1.rf,.inl ⟨(by first | exact hRS | rfl),rfl⟩⟩
 ·have hRS:RES=some (T,Wi.endS l sH):=by rw [HR.o,if_neg (by rintro ⟨h,_⟩;exact hc0 h)]
  have hc0I:¬ (ct:Int)=0:=by omega
  go_wp2_with (first
   | ((with_reducible refine jE 34 24 (.tmp 11) b2 0 X _ ?_ ?_ ?_ ?_ ?_ jR ?_ ?_ ?_);rfl;rfl;kernel_rfl;rfl;exact Lies.of_heap HE.o.v2;rfl;exact (by rw [qU,HX.o.2]))
   | (go_at_call 51;refine HC5.o.mono ?_;rintro e w5 ⟨u,rfl,q1,q2⟩;obtain ⟨ua,uc0,hue⟩:=jo q1;subst hue;have H5:=hid (HE.o.up q2);have hzk5:=q2.cell hzk;have hzm5:=q2.cell hzm;clear q1 q2)
   | (go_at_call 18;refine (C18.o w5 H5.o.rf).mono ?_;rintro e w6 ⟨rfl,q1,q2⟩;have H6:=hid (H5.o.rd q1 q2);have hzm6:=show w6.cell? ⟨b2,1,none⟩=some (.int .i64 (md:Int)) from (by rw [j9 H6.o.v2];exact x1);clear q1 q2)
   | (go_at_call 50;refine (C50.o w6 H6.o.rf).mono ?_;rintro e w8 ⟨rfl,q1,q2⟩;have H8:=hid (H6.o.rd q1 q2);clear q1 q2)
   | ((with_reducible refine qC 17 22 (hA j7) ?_ ?_ ?_ ?_ ?_);rfl;rfl;kernel_rfl;exact jv;intro w18 b17 H18)
   | ((with_reducible refine qj 22 (.tmp 17) (.tmp 43) b17 (hA hh) (hA j7) ?_ ?_ ?_ ?_ ?_ ?_ ?_ ?_ ?_ ?_);rfl;rfl;kernel_rfl;rfl;rfl;exact H18.o.2.2.1;exact (by rw [jK,HHs.o.1]);exact (hz32.trans HHs.o.1.symm);exact HHs.o.2;intro w9 H9;have H9':=H9;clear H9;have H9:Hid (EdI bt lo M l sH w b1 b2 b3 X w9∧w9.heap[b17]?=some (.cells (hA hh) 22 (0,0))):=(by obtain ⟨q1,q2,q3,q4⟩:=H18.o;obtain ⟨t1,t2,t3⟩:=H9'.o;have g:=H8.o.up q2;have gs:=H8.o.kp.size;have f1:=(ga H8.o.v1).1;have f2:=(ga H8.o.v2).1;have f3:=(ga H8.o.v3).1;have eM:=qi H8.o.rf;exact ⟨⟨qF g.rf fun b hb=>t1.block b (by omega) (by omega),(t1.block b1 (by omega) (by omega)).trans g.v1,(t1.block b2 (by omega) (by omega)).trans g.v2,(t1.block b3 (by omega) (by omega)).trans g.v3,g.kp.trans t1 fun b hb e=>by omega,g.lo⟩,t2⟩);have hzm9:=show w9.cell? ⟨b2,1,none⟩=some (.int .i64 (md:Int)) from (by rw [j9 H9.o.1.v2];exact x1))
   | ((with_reducible refine jE 54 22 (.tmp 17) b17 0 (hA hh) _ ?_ ?_ ?_ ?_ ?_ Tryz.underlying22 ?_ ?_ ?_);rfl;rfl;kernel_rfl;rfl;exact Lies.of_heap H9.o.2;rfl;exact (by rw [jK,HHs.o.1]))
   | (go_at_call 23;refine (CD.o w9).mono ?_;rintro e w10 ⟨u2,rfl,q1,q2⟩;obtain ⟨ub,uc,hue⟩:=jo q1;subst hue;have H10:=hid (H9.o.1.up q2);have HO5:=hid q1;clear q1 q2)
   | (go_at_call 52;refine (CE.o _ _ H10.o.rf).mono ?_;rintro e w7 ⟨rfl,q1,q2⟩;have H7:=hid (H10.o.rd q1 q2);have HK7:=hid q2;clear q1 q2)
   | ((with_reducible refine jT 59 (.slice (some ⟨w7.heap.size,0,none⟩) 1 1) (w7.alloc (.cells #[.slice ub T.length uc] 25)) ?_ ?_ ?_ ?_);rfl;kernel_rfl;exact jf ek31 _ rfl (.slice ub T.length uc) #[.slice ub T.length uc] rfl rfl rfl _ _ rfl))
  have HO7:Hid (Su.Owns w7 0 (.slice ub T.length uc) T):=by
   obtain ⟨c67,h67⟩:=an H10.o.rf
   exact zO (HO5.o.mono (Nat.zero_le _)) (K2.at HK7.o h67 (by decide))
  go_ret2
  have ha:=G.alloc w7 (.cells #[.slice ub T.length uc] 25)
  exact ⟨(H7.o.up ha).kp,_,Wi.endS l sH,(H7.o.up ha).rf,.inr ⟨T,hRS,rfl,(Tx.one HO7.o _ rfl H7.o.kp.size).le (by omega),hok.o⟩⟩
end Go.Proofs.YtdeanahpiigonaaGreatDoor
