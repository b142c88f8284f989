import Derived.Test.YtdeanahpiigonaaGreatDoorHX2
set_option maxRecDepth 100000
set_option maxHeartbeats 8000000
namespace Go.Proofs.YtdeanahpiigonaaGreatDoor
open Go.RowKit Hm
attribute [local go_sem] Oper.semAt_some
noncomputable abbrev yK:Array Oper:=kS Tryz.f53 17
theorem ei:yK.size=9:=by kernel_rfl
theorem uj:say yK 0=some (some 92,.load 27 (.tmp 3),none):=by kernel_rfl
theorem uk:say yK 1=some (some 93,.move (.tmp 15),none):=by kernel_rfl
theorem ul:say yK 2=some (some 94,.load 22 (.tmp 16),none):=by kernel_rfl
theorem um:say yK 3=some (some 95,.call { callee:=.value (.func 22),args:=#[.tmp 93,.tmp 94],argTypes:=#[9,22] },none):=by kernel_rfl
theorem uq:say yK 4=some (some 96,.move (.tmp 9),none):=by kernel_rfl
theorem ur:say yK 5=some (some 97,.move (.tmp 14),none):=by kernel_rfl
theorem us:say yK 6=some (some 98,.move (.tmp 17),none):=by kernel_rfl
theorem ut:say yK 7=some (some 99,.call { callee:=.value (.func 21),args:=#[.tmp 92,.tmp 95,.tmp 96,.tmp 97,.tmp 98],argTypes:=#[27,25,3,3,70] },none):=by kernel_rfl
theorem a2Q:say yK 8=some (some 18,.assign (.tmp 99),none):=by kernel_rfl
def Vg17 (_b3 _b16:Nat) (x:ByteArray) (Ha:Array Value) (sv:Value) (bt cn pl:Int) (r:Nat→Value):Nat→Value
  | 0=>.agg #[.int .i64 bt]
  | 1=>.string x
  | 2=>.agg Ha
  | 3=>(r 1)
  | 4=>.int .i64 cn
  | 5=>.int .i64 pl
  | 6=>sv
  | 7=>(r 2)
  | 8=>(r 2)
  | _=>undef
theorem uu (b3 b16:Nat) (x:ByteArray) (Ha:Array Value) (sv:Value) (bt cn pl:Int) (F0 F1 F2:(Nat→Value)→World→Prop) (B:World→Prop)  (t0:Array Value) (wr:World) {Q:Exit→Act→World→Prop} (ht:t0.size=130) (h3:t0.getD 3 undef=.pointer (some ⟨b3,0,none⟩)) (h15:t0.getD 15 undef=.string x) (h16:t0.getD 16 undef=.pointer (some ⟨b16,0,none⟩)) (h9:t0.getD 9 undef=.int .i64 cn) (h14:t0.getD 14 undef=.int .i64 pl) (h17:t0.getD 17 undef=sv)
    (hX:Ha.size=32)
    (hb0:∀ r w,F0 r w→B w) (hb1:∀ r w,F1 r w→B w)
    (hc1:∀ r w,F0 r w→Calls Tryz.prog 22 #[.string x,.agg Ha] w fun e w'=>∃ u,e=.returned u∧F1 (ups r 1 u) w')
    (hc2:∀ r w,F1 r w→Calls Tryz.prog 21 #[.agg #[.int .i64 bt],(r 1),.int .i64 cn,.int .i64 pl,sv] w fun e w'=>∃ u,e=.returned u∧F2 (ups r 2 u) w')
    (hl0:∀ w,B w→Lies w b3 0 #[.int .i64 bt])
    (hl2:∀ w,B w→Lies w b16 0 Ha)
    (hst0:∀ r,F0 r wr.drew)
    (hQ:∀ r w,F2 r w→Q .normal ⟨fold yK (Vg17 b3 b16 x Ha sv bt cn pl r) t0 9,[]⟩ w):(Code.region 17 yK true).wp Tryz.prog Q ⟨t0,[]⟩ wr:=by
  have hB:dstB yK t0.size=true:=by rw [ht];kernel_rfl
  have hBB:∀ r done w,MC F0 [(3,F1)] r done w→B w:=fun r done w h=>MC.base hb0 (by simp only [List.mem_cons,List.not_mem_nil,or_false];rintro x rfl;assumption) h
  refine jL (by kernel_rfl) (IE yK (Vg17 b3 b16 x Ha sv bt cn pl) t0 (MC F0 [(7,F2),(3,F1)] )) (by kernel_rfl) ⟨(fun _=>undef),t0,rfl,⟨rfl,fun _ _=>rfl,fun _ _ _ _ _ h=>by cases h⟩,MC.start (hst0 _)⟩ ?_ ?_
  rotate_left 1
  · rintro done a w ⟨r,t,rfl,hS,hM⟩ hall
    rw [hS.end hB hall,ei]
    exact hQ r w (MC.get (hall 7 (by rw [ei];decide)) [] (by simp) hM)
  · rintro jz op done a w ho ⟨r,t,rfl,hS,hM⟩ hnd hdep hcl
    have e3:=hS.ol h3
    have e15:=hS.ol h15
    have e16:=hS.ol h16
    have e9:=hS.ol h9
    have e14:=hS.ol h14
    have e17:=hS.ol h17
    have hlt:jz<9:=by rw [← ei];exact (ga ho).1
    match jz,hlt,ho,hnd,hdep with
    | 0,_,ho,hnd,hdep=>
      obtain ⟨hd,hop,hgd⟩:=jB uj ho
      have ny7:done 7=false:=j8 (by kernel_rfl) hcl hnd
      refine jJ r hB ho (j0 hgd) hd hS (hM.step (by rfl)) ?_
      exact jQ 27 _ hop b3 0 (by show t.getD 3 undef=_;rw [gd];exact e3) #[.int .i64 bt] _ (hl0 w (hBB _ _ _ (MC.cut [(7,F2)] (by simp [ny7]) hM))) Tryz.underlying27 rfl zC
    | 1,_,ho,hnd,hdep=>
      obtain ⟨hd,hop,hgd⟩:=jB uk ho
      refine jJ r hB ho (j0 hgd) hd hS (hM.step (by rfl)) ?_
      unfold execOp
      simp only [hop]
      simp [e15,Vg17,go_sem]
    | 2,_,ho,hnd,hdep=>
      obtain ⟨hd,hop,hgd⟩:=jB ul ho
      have ny3:done 3=false:=j8 (by kernel_rfl) hcl hnd
      have ny7:done 7=false:=j8 (by kernel_rfl) hcl ny3
      refine jJ r hB ho (j0 hgd) hd hS (hM.step (by rfl)) ?_
      exact jQ 22 _ hop b16 0 (by show t.getD 16 undef=_;rw [gd];exact e16) Ha _ (hl2 w (hBB _ _ _ (MC.cut [(7,F2)] (by simp [ny7]) hM))) Tryz.underlying22 rfl (by rw [jK,hX])
    | 3,_,ho,hnd,hdep=>
      obtain ⟨hd,hop,hgd⟩:=jB um ho
      have x93:=hS.gt uk ho hdep
      simp only [Vg17] at x93
      have x94:=hS.gt ul ho hdep
      simp only [Vg17] at x94
      have ny7:done 7=false:=j8 (by kernel_rfl) hcl hnd
      have hF:=MC.get0 [(7,F2),(3,F1)] (by simp [hnd,ny7]) hM
      refine jb r 22 #[.string x,.agg Ha] hB ho (j0 hgd) hd hS ?_ ?_
      · skip
        unfold execOp
        simp only [hop]
        simp [x93,x94,go_sem]
      · skip
        refine (hc1 r w hF).mono ?_
        rintro e w' ⟨u,rfl,hF'⟩
        refine ⟨ups r 1 u,?_,fun k hk=>?_,MC.put hF' [(7,F2)] (by simp [ny7])⟩
        · simp only [Vg17,jA]
        · skip
          have q3:k≠3:=fun e=>by rw [e,hnd] at hk;cases hk
          unfold Vg17
          split<;>first | rfl | exact absurd rfl q3
    | 4,_,ho,hnd,hdep=>
      obtain ⟨hd,hop,hgd⟩:=jB uq ho
      refine jJ r hB ho (j0 hgd) hd hS (hM.step (by rfl)) ?_
      unfold execOp
      simp only [hop]
      simp [e9,Vg17,go_sem]
    | 5,_,ho,hnd,hdep=>
      obtain ⟨hd,hop,hgd⟩:=jB ur ho
      refine jJ r hB ho (j0 hgd) hd hS (hM.step (by rfl)) ?_
      unfold execOp
      simp only [hop]
      simp [e14,Vg17,go_sem]
    | 6,_,ho,hnd,hdep=>
      obtain ⟨hd,hop,hgd⟩:=jB us ho
      refine jJ r hB ho (j0 hgd) hd hS (hM.step (by rfl)) ?_
      unfold execOp
      simp only [hop]
      simp [e17,Vg17,go_sem]
    | 7,_,ho,hnd,hdep=>
      obtain ⟨hd,hop,hgd⟩:=jB ut ho
      have x92:=hS.gt uj ho hdep
      simp only [Vg17] at x92
      have x95:=hS.gt um ho hdep
      simp only [Vg17] at x95
      have x96:=hS.gt uq ho hdep
      simp only [Vg17] at x96
      have x97:=hS.gt ur ho hdep
      simp only [Vg17] at x97
      have x98:=hS.gt us ho hdep
      simp only [Vg17] at x98
      have ny8:done 8=false:=j8 (by kernel_rfl) hcl hnd
      have a3:done 3=true:=jy (j:=3) (by kernel_rfl) ho hdep
      have hF:=MC.get a3 [(7,F2)] (by simp [hnd]) hM
      refine jb r 21 #[.agg #[.int .i64 bt],(r 1),.int .i64 cn,.int .i64 pl,sv] hB ho (j0 hgd) hd hS ?_ ?_
      · skip
        unfold execOp
        simp only [hop]
        simp [x92,x95,x96,x97,x98,go_sem]
      · skip
        refine (hc2 r w hF).mono ?_
        rintro e w' ⟨u,rfl,hF'⟩
        refine ⟨ups r 2 u,?_,fun k hk=>?_,MC.put hF' [] (by simp)⟩
        · simp only [Vg17,jA]
        · skip
          have q7:k≠7:=fun e=>by rw [e,hnd] at hk;cases hk
          have q8:k≠8:=fun e=>by rw [e,ny8] at hk;cases hk
          unfold Vg17
          split<;>first | rfl | exact absurd rfl q7 | exact absurd rfl q8
    | 8,_,ho,hnd,hdep=>
      obtain ⟨hd,hop,hgd⟩:=jB a2Q ho
      have x99:=hS.gt ut ho hdep
      simp only [Vg17] at x99
      refine jJ r hB ho (j0 hgd) hd hS (hM.step (by rfl)) ?_
      unfold execOp
      simp only [hop]
      simp [x99,Vg17,go_sem]
theorem mP (b3 b16:Nat) (x:ByteArray) (Ha:Array Value) (sv:Value) (bt cn pl:Int) (r:Nat→Value) (t0:Array Value):fold yK (Vg17 b3 b16 x Ha sv bt cn pl r) t0 9=(((((((((t0.setIfInBounds 92 (.agg #[.int .i64 bt])).setIfInBounds 93 (.string x)).setIfInBounds 94 (.agg Ha)).setIfInBounds 95 ((r 1))).setIfInBounds 96 (.int .i64 cn)).setIfInBounds 97 (.int .i64 pl)).setIfInBounds 98 (sv)).setIfInBounds 99 ((r 2))).setIfInBounds 18 ((r 2))):=by kernel_rfl
noncomputable abbrev y9:Array Oper:=kS Tryz.f53 19
theorem ek:y9.size=10:=by kernel_rfl
theorem uw:say y9 0=some (some 103,.load 27 (.tmp 3),none):=by kernel_rfl
theorem ux:say y9 1=some (some 104,.move (.tmp 18),none):=by kernel_rfl
theorem uy:say y9 2=some (some 105,.move (.tmp 18),none):=by kernel_rfl
theorem uz:say y9 3=some (some 106,.call { callee:=.builtin .len,args:=#[.tmp 105],argTypes:=#[31] },none):=by kernel_rfl
theorem vA:say y9 4=some (some 107,.binOp .sub 3 (.tmp 106) (.const (.int .i64 1)) 3,none):=by kernel_rfl
theorem vB:say y9 5=some (some 108,.indexAddr 31 (.tmp 104) (.tmp 107),none):=by kernel_rfl
theorem vC:say y9 6=some (some 109,.load 25 (.tmp 108),none):=by kernel_rfl
theorem vD:say y9 7=some (some 110,.call { callee:=.value (.func 7),args:=#[.tmp 103,.tmp 109],argTypes:=#[27,25] },none):=by kernel_rfl
theorem vE:say y9 8=some (some 19,.alloc 22,none):=by kernel_rfl
theorem a2R:say y9 9=some (none,.store 22 (.tmp 19) (.tmp 110),none):=by kernel_rfl
def Vg19 (_b5 g k c:Nat) (uv:Value) (bt:Int) (_Za:Array Value) (r:Nat→Value):Nat→Value
  | 0=>.agg #[.int .i64 bt]
  | 1=>.slice (some ⟨g,0,none⟩) (k+1) c
  | 2=>.slice (some ⟨g,0,none⟩) (k+1) c
  | 3=>.int .i64 ((k+1:Nat):Int)
  | 4=>.int .i64 (k:Int)
  | 5=>.pointer (some ⟨g,k,none⟩)
  | 6=>uv
  | 7=>(r 1)
  | 8=>(r 9)
  | 9=>undef
  | _=>undef
theorem vF (b5 g k c:Nat) (uv:Value) (bt:Int) (Za:Array Value) (lo:Nat) (F0 F1 F2:(Nat→Value)→World→Prop) (B:World→Prop)  (t0:Array Value) (wr:World) {Q:Exit→Act→World→Prop} (ht:t0.size=130) (h3:t0.getD 3 undef=.pointer (some ⟨b5,0,none⟩)) (h18:t0.getD 18 undef=.slice (some ⟨g,0,none⟩) (k+1) c)
    (_:∃ a n k,uv=.slice a n k) (hkw:IntKind.i64.wrap (k:Int)=k) (hix:¬ (k:Int)+1≤k) (hz32:(hA j7).size=32) (hZ:Za.size=32∧Za.all (·.oneCell')=true)
    (hb0:∀ r w,F0 r w→B w) (hb1:∀ r w,F1 r w→B w)
    (hk0:∀ r w,F0 r w→F0 (ups r 9 (.pointer (some ⟨w.heap.size,0,none⟩))) (w.alloc (.cells (hA j7) 22)))
    (hk1:∀ r w,F1 r w→F1 (ups r 9 (.pointer (some ⟨w.heap.size,0,none⟩))) (w.alloc (.cells (hA j7) 22)))
    (hlo:∀ w,B w→lo≤w.heap.size)
    (hc1:∀ r w,F0 r w→Calls Tryz.prog 7 #[.agg #[.int .i64 bt],uv] w fun e w'=>∃ u,e=.returned u∧F1 (ups r 1 u) w'∧G w w')
    (hw2:∀ r w b,F1 r w→r 9=.pointer (some ⟨b,0,none⟩)→w.heap[b]?=some (.cells (hA j7) 22 (0,0))→lo≤b→r 1=.agg Za∧F2 r (w.setRow b Za))
    (hl0:∀ w,B w→Lies w b5 0 #[.int .i64 bt])
    (hl6:∀ w,B w→w.cell? ⟨g,k,none⟩=some (uv))
    (hst0:∀ r,F0 r wr.drew)
    (hQ:∀ r w,F2 r w→Q .normal ⟨fold y9 (Vg19 b5 g k c uv bt Za r) t0 10,[]⟩ w):(Code.region 19 y9 true).wp Tryz.prog Q ⟨t0,[]⟩ wr:=by
  have hB:dstB y9 t0.size=true:=by rw [ht];kernel_rfl
  have hBB:∀ r done w,MC F0 [(7,F1)] r done w→B w:=fun r done w h=>MC.base hb0 (by simp only [List.mem_cons,List.not_mem_nil,or_false];rintro x rfl;assumption) h
  refine jL (by kernel_rfl) (IE y9 (Vg19 b5 g k c uv bt Za) t0 (MA 8 9 9 (fun _=>hA j7) 22 lo (fun b=>.pointer (some ⟨b,0,none⟩)) F0 [(9,F2),(7,F1)] )) (by kernel_rfl) ⟨(fun _=>undef),t0,rfl,⟨rfl,fun _ _=>rfl,fun _ _ _ _ _ h=>by cases h⟩,MA.start (hst0 _)⟩ ?_ ?_
  rotate_left 1
  · rintro done a w ⟨r,t,rfl,hS,hM⟩ hall
    rw [hS.end hB hall,ek]
    exact hQ r w (MC.get (hall 9 (by rw [ek];decide)) [] (by simp) hM.1)
  · rintro jz op done a w ho ⟨r,t,rfl,hS,hM⟩ hnd hdep hcl
    have e3:=hS.ol h3
    have e18:=hS.ol h18
    have hlt:jz<10:=by rw [← ek];exact (ga ho).1
    match jz,hlt,ho,hnd,hdep with
    | 0,_,ho,hnd,hdep=>
      obtain ⟨hd,hop,hgd⟩:=jB uw ho
      have ny9:done 9=false:=j8 (by kernel_rfl) hcl hnd
      refine jJ r hB ho (j0 hgd) hd hS (hM.step (by rfl)) ?_
      exact jQ 27 _ hop b5 0 (by show t.getD 3 undef=_;rw [gd];exact e3) #[.int .i64 bt] _ (hl0 w (hBB _ _ _ (MC.cut [(9,F2)] (by simp [ny9]) hM.1))) Tryz.underlying27 rfl zC
    | 1,_,ho,hnd,hdep=>
      obtain ⟨hd,hop,hgd⟩:=jB ux ho
      refine jJ r hB ho (j0 hgd) hd hS (hM.step (by rfl)) ?_
      unfold execOp
      simp only [hop]
      simp [e18,Vg19,go_sem]
    | 2,_,ho,hnd,hdep=>
      obtain ⟨hd,hop,hgd⟩:=jB uy ho
      refine jJ r hB ho (j0 hgd) hd hS (hM.step (by rfl)) ?_
      unfold execOp
      simp only [hop]
      simp [e18,Vg19,go_sem]
    | 3,_,ho,hnd,hdep=>
      obtain ⟨hd,hop,hgd⟩:=jB uz ho
      have x105:=hS.gt uy ho hdep
      simp only [Vg19] at x105
      refine jJ r hB ho (j0 hgd) hd hS (hM.step (by rfl)) ?_
      unfold execOp
      simp only [hop]
      simp [x105,Vg19,go_sem]
    | 4,_,ho,hnd,hdep=>
      obtain ⟨hd,hop,hgd⟩:=jB vA ho
      have x106:=hS.gt uz ho hdep
      simp only [Vg19] at x106
      refine jJ r hB ho (j0 hgd) hd hS (hM.step (by rfl)) ?_
      unfold execOp
      simp only [hop]
      simp [x106,Vg19,hkw,go_sem]
    | 5,_,ho,hnd,hdep=>
      obtain ⟨hd,hop,hgd⟩:=jB vB ho
      have x104:=hS.gt ux ho hdep
      simp only [Vg19] at x104
      have x107:=hS.gt vA ho hdep
      simp only [Vg19] at x107
      refine jJ r hB ho (j0 hgd) hd hS (hM.step (by rfl)) ?_
      unfold execOp
      simp only [hop]
      simp [x104,x107,Vg19,hix,go_sem]
    | 6,_,ho,hnd,hdep=>
      obtain ⟨hd,hop,hgd⟩:=jB vC ho
      have x108:=hS.gt vB ho hdep
      simp only [Vg19] at x108
      have ny9:done 9=false:=j8 (by kernel_rfl) hcl hnd
      have cz:=hl6 w (hBB _ _ _ (MC.cut [(9,F2)] (by simp [ny9]) hM.1))
      refine jJ r hB ho (j0 hgd) hd hS (hM.step (by rfl)) ?_
      unfold execOp
      simp only [hop]
      simp [x108,Vg19,cz,go_sem]
    | 7,_,ho,hnd,hdep=>
      obtain ⟨hd,hop,hgd⟩:=jB vD ho
      have x103:=hS.gt uw ho hdep
      simp only [Vg19] at x103
      have x109:=hS.gt vC ho hdep
      simp only [Vg19] at x109
      have ny9:done 9=false:=j8 (by kernel_rfl) hcl hnd
      have hF:=MC.get0 [(9,F2),(7,F1)] (by simp [hnd,ny9]) hM.1
      refine jb r 7 #[.agg #[.int .i64 bt],uv] hB ho (j0 hgd) hd hS ?_ ?_
      · skip
        unfold execOp
        simp only [hop]
        simp [x103,x109,go_sem]
      · skip
        refine (hc1 r w hF).mono ?_
        rintro e w' ⟨u,rfl,hF',hG'⟩
        refine ⟨ups r 1 u,?_,fun k hk=>?_,MA.call hM (MC.put hF' [(9,F2)] (by simp [ny9])) hG' (by decide) (by decide) (by decide) (fun _=>rfl)⟩
        · simp only [Vg19,jA]
        · skip
          have q7:k≠7:=fun e=>by rw [e,hnd] at hk;cases hk
          unfold Vg19
          split<;>first | rfl | exact absurd rfl q7
    | 8,_,ho,hnd,hdep=>
      obtain ⟨hd,hop,hgd⟩:=jB vE ho
      have ny9:done 9=false:=j8 (by kernel_rfl) hcl hnd
      refine qM r (ups r 9 (.pointer (some ⟨w.heap.size,0,none⟩))) (w.alloc (.cells (hA j7) 22)) hB ho (j0 hgd) hd hS (fun k hk=>?_) (MA.new hM (by rfl) (hlo w (hBB _ _ _ (MC.cut [(9,F2)] (by simp [ny9]) hM.1))) rfl (hk0 r w) (by
          intro x hx
          simp only [List.mem_cons,List.not_mem_nil,or_false] at hx
          rcases hx with rfl | rfl
          · exact fun hd _=>by rw [ny9] at hd;cases hd
          · exact fun _=>hk1 r w
          )) ?_
      · skip
        have q8:k≠8:=fun e=>by rw [e,hnd] at hk;cases hk
        unfold Vg19
        split<;>first | rfl | exact absurd rfl q8
      · show _=Result.ok (Next.value (Vg19 b5 g k c uv bt Za (ups r 9 (.pointer (some ⟨w.heap.size,0,none⟩))) 8)) _
        simp only [Vg19,jA]
        exact yH 22 (hA j7) hop jv w _ rfl
    | 9,_,ho,hnd,hdep=>
      obtain ⟨hd,hop,hgd⟩:=jB a2R ho
      have x19:=hS.gt vE ho hdep
      simp only [Vg19] at x19
      have x110:=hS.gt vD ho hdep
      simp only [Vg19] at x110
      have a7:done 7=true:=jy (j:=7) (by kernel_rfl) ho hdep
      have a8:done 8=true:=jy (j:=8) (by kernel_rfl) ho hdep
      have hF:=MC.get a7 [(9,F2)] (by simp [hnd]) hM.1
      obtain ⟨b9,e8,ho9,hlo9⟩:=hM.2 a8 hnd
      obtain ⟨e9,hF9⟩:=hw2 r w b9 hF e8 ho9 hlo9
      refine qh (w':=w.setRow b9 Za) r ho (j0 hgd) hd hS (MA.fin (MC.put hF9 [] (by simp))) ?_
      exact qN 22 _ _ hop b9 Za (hA j7) (Eq.trans (by show t.getD 19 undef=_;rw [gd];exact x19) e8) (Eq.trans (by show t.getD 110 undef=_;rw [gd];exact x110) e9) w ho9 (by rw [jK,hZ.1]) (by rw [hz32,hZ.1]) hZ.2
theorem mQ (b5 g k c:Nat) (uv:Value) (bt:Int) (Za:Array Value) (r:Nat→Value) (t0:Array Value):fold y9 (Vg19 b5 g k c uv bt Za r) t0 10=(((((((((t0.setIfInBounds 103 (.agg #[.int .i64 bt])).setIfInBounds 104 (.slice (some ⟨g,0,none⟩) (k+1) c)).setIfInBounds 105 (.slice (some ⟨g,0,none⟩) (k+1) c)).setIfInBounds 106 (.int .i64 ((k+1:Nat):Int))).setIfInBounds 107 (.int .i64 (k:Int))).setIfInBounds 108 (.pointer (some ⟨g,k,none⟩))).setIfInBounds 109 (uv)).setIfInBounds 110 ((r 1))).setIfInBounds 19 ((r 9))):=by kernel_rfl
end Go.Proofs.YtdeanahpiigonaaGreatDoor
