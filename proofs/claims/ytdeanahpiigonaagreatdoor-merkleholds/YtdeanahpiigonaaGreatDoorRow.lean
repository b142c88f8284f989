import Derived.Test.YtdeanahpiigonaaGreatDoorLb
import Derived.Test.YtdeanahpiigonaaGreatDoorSRoomLay
import Derived.Test.YtdeanahpiigonaaGreatDoorCards
import Derived.Test.YtdeanahpiigonaaGreatDoorTie
import Derived.ProofKit
import Derived.OpenShut
import Derived.ShutString
import Derived.Deep.DeepHandedRow
import Derived.LaidHandle
import Derived.MakeChecks
import Derived.Lib.LaidTab
set_option maxRecDepth 100000
set_option maxHeartbeats 8000000
namespace Go.Proofs.YtdeanahpiigonaaGreatDoor
open Go.RowKit Hm
attribute [local go_sem] Oper.semAt_some
theorem Hm.Kp.of_below {B:Nat} {w w':World} (h:Below B w w'):Kp (fun b=>B≤b) w w':=⟨h.os,h.tape,h.output,h.size,fun b _ hn=>h.block b (by omega)⟩
noncomputable abbrev o3x8:Array Oper:=kS Tryz.f3 8
theorem vI:gj o3x8=true:=by kernel_rfl
theorem a2X:dstB o3x8 65=true:=by kernel_rfl
theorem dU:o3x8.size=19:=by kernel_rfl
theorem pb:say o3x8 0=some (some 47,.move (.tmp 14),none):=by kernel_rfl
theorem pd:say o3x8 1=some (some 48,.unOp .not 4 (.tmp 47),none):=by kernel_rfl
theorem jp:say o3x8 2=some (some 49,.move (.tmp 48),none):=by kernel_rfl
theorem a0C:say o3x8 3=some (some 50,.move (.tmp 12),some (2,false)):=by kernel_rfl
theorem a0D:say o3x8 4=some (some 51,.load 27 (.tmp 11),some (2,false)):=by kernel_rfl
theorem a0E:say o3x8 5=some (some 52,.load 27 (.tmp 11),some (2,false)):=by kernel_rfl
theorem a0F:say o3x8 6=some (some 53,.move (.tmp 13),some (2,false)):=by kernel_rfl
theorem a0G:say o3x8 7=some (some 54,.move (.tmp 13),some (2,false)):=by kernel_rfl
theorem a0H:say o3x8 8=some (some 55,.call { callee:=.builtin .len,args:=#[.tmp 54],argTypes:=#[31] },some (2,false)):=by kernel_rfl
theorem a0I:say o3x8 9=some (some 56,.binOp .sub 3 (.tmp 55) (.const (.int .i64 1)) 3,some (2,false)):=by kernel_rfl
theorem mb:say o3x8 10=some (some 57,.indexAddr 31 (.tmp 53) (.tmp 56),some (2,false)):=by kernel_rfl
theorem mc:say o3x8 11=some (some 58,.load 25 (.tmp 57),some (2,false)):=by kernel_rfl
theorem me:say o3x8 12=some (some 59,.call { callee:=.value (.func 7),args:=#[.tmp 52,.tmp 58],argTypes:=#[27,25] },some (2,false)):=by kernel_rfl
theorem mf:say o3x8 13=some (some 60,.move (.tmp 2),some (2,false)):=by kernel_rfl
theorem mg:say o3x8 14=some (some 61,.load 24 (.tmp 8),some (2,false)):=by kernel_rfl
theorem mh:say o3x8 15=some (some 62,.move (.tmp 4),some (2,false)):=by kernel_rfl
theorem gG:say o3x8 16=some (some 63,.call { callee:=.value (.func 5),args:=#[.tmp 50,.tmp 51,.tmp 59,.tmp 60,.tmp 61,.tmp 62],argTypes:=#[28,27,22,9,24,25] },some (2,false)):=by kernel_rfl
theorem gH:say o3x8 17=some (some 64,.pick (.tmp 49) (.const (.bool true)) (.tmp 63),none):=by kernel_rfl
theorem vJ:say o3x8 18=some (some 10,.assign (.tmp 64),none):=by kernel_rfl
def Vlf (_b5:Nat) (_r:Unit):Nat→Value
 | 0=>.bool false
 | 1=>.bool true
 | 2=>.bool true
 | 3=>undef
 | 4=>undef
 | 5=>undef
 | 6=>undef
 | 7=>undef
 | 8=>undef
 | 9=>undef
 | 10=>undef
 | 11=>undef
 | 12=>undef
 | 13=>undef
 | 14=>undef
 | 15=>undef
 | 16=>undef
 | 17=>.bool true
 | 18=>.bool true
 | _=>undef
theorem reglf (b5:Nat)  (t0:Array Value) (wr:World) {Q:Exit→Act→World→Prop} (ht:t0.size=65) (h14:t0.getD 14 undef=.bool false)
  (hQ:∀ r,Q .normal ⟨fold o3x8 (Vlf b5 r) t0 19,[]⟩ wr.drew):(Code.region 8 o3x8 true).wp Tryz.prog Q ⟨t0,[]⟩ wr:=by
 have hB:dstB o3x8 t0.size=true:=by rw [ht];exact a2X
 refine jL (by kernel_rfl) (IE o3x8 (Vlf b5) t0 ((fun (_:Unit) (_:Nat→Bool) (w:World)=>w=wr.drew) )) vI ⟨(),t0,rfl,⟨rfl,fun _ _=>rfl,fun _ _ _ _ _ h=>by cases h⟩,rfl⟩ ?_ ?_
 rotate_left 1
 ·rintro done a w ⟨r,t,rfl,hS,hM⟩ hall
  rw [hS.end hB hall,dU]
  rw [hM]
  exact hQ r
 ·rintro jz op done a w ho ⟨r,t,rfl,hS,hM⟩ hnd hdep hcl
  have e14:=hS.ol h14
  have hlt:jz<19:=by rw [← dU];exact (ga ho).1
  match jz,hlt,ho,hnd,hdep with
  | 0,_,ho,hnd,hdep=>
   obtain ⟨hd,hop,hgd⟩:=jB pb ho
   refine jJ r hB ho (j0 hgd) hd hS hM ?_
   unfold execOp;simp [hop,e14,Vlf,go_sem]
  | 1,_,ho,hnd,hdep=>
   obtain ⟨hd,hop,hgd⟩:=jB pd ho
   have x47:=hS.gt pb ho hdep
   refine jJ r hB ho (j0 hgd) hd hS hM ?_
   unfold execOp;simp [hop,x47,Vlf,go_sem]
  | 2,_,ho,hnd,hdep=>
   obtain ⟨hd,hop,hgd⟩:=jB jp ho
   have x48:=hS.gt pd ho hdep
   refine jJ r hB ho (j0 hgd) hd hS hM ?_
   unfold execOp;simp [hop,x48,Vlf,go_sem]
  | 3,_,ho,hnd,hdep=>
   obtain ⟨hd,hop,hgd⟩:=jB a0C ho
   have gx:=hS.gt jp ho hdep
   simp only [Vlf] at gx
   exact jW r hB ho (jH hgd (sd jp) gx rfl) hd hS hM rfl
  | 4,_,ho,hnd,hdep=>
   obtain ⟨hd,hop,hgd⟩:=jB a0D ho
   have gx:=hS.gt jp ho hdep
   simp only [Vlf] at gx
   exact jW r hB ho (jH hgd (sd jp) gx rfl) hd hS hM rfl
  | 5,_,ho,hnd,hdep=>
   obtain ⟨hd,hop,hgd⟩:=jB a0E ho
   have gx:=hS.gt jp ho hdep
   simp only [Vlf] at gx
   exact jW r hB ho (jH hgd (sd jp) gx rfl) hd hS hM rfl
  | 6,_,ho,hnd,hdep=>
   obtain ⟨hd,hop,hgd⟩:=jB a0F ho
   have gx:=hS.gt jp ho hdep
   simp only [Vlf] at gx
   exact jW r hB ho (jH hgd (sd jp) gx rfl) hd hS hM rfl
  | 7,_,ho,hnd,hdep=>
   obtain ⟨hd,hop,hgd⟩:=jB a0G ho
   have gx:=hS.gt jp ho hdep
   simp only [Vlf] at gx
   exact jW r hB ho (jH hgd (sd jp) gx rfl) hd hS hM rfl
  | 8,_,ho,hnd,hdep=>
   obtain ⟨hd,hop,hgd⟩:=jB a0H ho
   have gx:=hS.gt jp ho hdep
   simp only [Vlf] at gx
   exact jW r hB ho (jH hgd (sd jp) gx rfl) hd hS hM rfl
  | 9,_,ho,hnd,hdep=>
   obtain ⟨hd,hop,hgd⟩:=jB a0I ho
   have gx:=hS.gt jp ho hdep
   simp only [Vlf] at gx
   exact jW r hB ho (jH hgd (sd jp) gx rfl) hd hS hM rfl
  | 10,_,ho,hnd,hdep=>
   obtain ⟨hd,hop,hgd⟩:=jB mb ho
   have gx:=hS.gt jp ho hdep
   simp only [Vlf] at gx
   exact jW r hB ho (jH hgd (sd jp) gx rfl) hd hS hM rfl
  | 11,_,ho,hnd,hdep=>
   obtain ⟨hd,hop,hgd⟩:=jB mc ho
   have gx:=hS.gt jp ho hdep
   simp only [Vlf] at gx
   exact jW r hB ho (jH hgd (sd jp) gx rfl) hd hS hM rfl
  | 12,_,ho,hnd,hdep=>
   obtain ⟨hd,hop,hgd⟩:=jB me ho
   have gx:=hS.gt jp ho hdep
   simp only [Vlf] at gx
   exact jW r hB ho (jH hgd (sd jp) gx rfl) hd hS hM rfl
  | 13,_,ho,hnd,hdep=>
   obtain ⟨hd,hop,hgd⟩:=jB mf ho
   have gx:=hS.gt jp ho hdep
   simp only [Vlf] at gx
   exact jW r hB ho (jH hgd (sd jp) gx rfl) hd hS hM rfl
  | 14,_,ho,hnd,hdep=>
   obtain ⟨hd,hop,hgd⟩:=jB mg ho
   have gx:=hS.gt jp ho hdep
   simp only [Vlf] at gx
   exact jW r hB ho (jH hgd (sd jp) gx rfl) hd hS hM rfl
  | 15,_,ho,hnd,hdep=>
   obtain ⟨hd,hop,hgd⟩:=jB mh ho
   have gx:=hS.gt jp ho hdep
   simp only [Vlf] at gx
   exact jW r hB ho (jH hgd (sd jp) gx rfl) hd hS hM rfl
  | 16,_,ho,hnd,hdep=>
   obtain ⟨hd,hop,hgd⟩:=jB gG ho
   have gx:=hS.gt jp ho hdep
   simp only [Vlf] at gx
   exact jW r hB ho (jH hgd (sd jp) gx rfl) hd hS hM rfl
  | 17,_,ho,hnd,hdep=>
   obtain ⟨hd,hop,hgd⟩:=jB gH ho
   have x49:=hS.gt jp ho hdep
   have x63:=hS.gt gG ho hdep
   refine jJ r hB ho (j0 hgd) hd hS hM ?_
   unfold execOp;simp [hop,x49,x63,Vlf,go_sem]
  | 18,_,ho,hnd,hdep=>
   obtain ⟨hd,hop,hgd⟩:=jB vJ ho
   have x64:=hS.gt gH ho hdep
   refine jJ r hB ho (j0 hgd) hd hS hM ?_
   unfold execOp;simp [hop,x64,Vlf,go_sem]
theorem foldlf (b5:Nat) (r:Unit) (t0:Array Value):fold o3x8 (Vlf b5 r) t0 19=(((((((((((((((((((t0.setIfInBounds 47 (.bool false)).setIfInBounds 48 (.bool true)).setIfInBounds 49 (.bool true)).setIfInBounds 50 (undef)).setIfInBounds 51 (undef)).setIfInBounds 52 (undef)).setIfInBounds 53 (undef)).setIfInBounds 54 (undef)).setIfInBounds 55 (undef)).setIfInBounds 56 (undef)).setIfInBounds 57 (undef)).setIfInBounds 58 (undef)).setIfInBounds 59 (undef)).setIfInBounds 60 (undef)).setIfInBounds 61 (undef)).setIfInBounds 62 (undef)).setIfInBounds 63 (undef)).setIfInBounds 64 (.bool true)).setIfInBounds 10 (.bool true)):=by kernel_rfl
def Vlt (m _b11 _b8 h k c pn pc:Nat) (pa:Option Addr) (p:ByteArray) (uv:Value) (X:Array Value) (bt:Int) (r:Nat→Value):Nat→Value
 | 0=>.bool true
 | 1=>.bool false
 | 2=>.bool false
 | 3=>.pointer (some ⟨m,0,none⟩)
 | 4=>.agg #[.int .i64 bt]
 | 5=>.agg #[.int .i64 bt]
 | 6=>.slice (some ⟨h,0,none⟩) (k+1) c
 | 7=>.slice (some ⟨h,0,none⟩) (k+1) c
 | 8=>.int .i64 ((k+1:Nat):Int)
 | 9=>.int .i64 (k:Int)
 | 10=>.pointer (some ⟨h,k,none⟩)
 | 11=>uv
 | 12=>(r 1)
 | 13=>.string p
 | 14=>.agg X
 | 15=>.slice pa pn pc
 | 16=>(r 2)
 | 17=>(r 2)
 | 18=>(r 2)
 | _=>undef
theorem reglt (m b11 b8 h k c pn pc:Nat) (pa:Option Addr) (p:ByteArray) (uv:Value) (X:Array Value) (bt:Int) (F0 F1 F2:(Nat→Value)→World→Prop) (B:World→Prop)  (t0:Array Value) (wr:World) {Q:Exit→Act→World→Prop} (ht:t0.size=65) (h14:t0.getD 14 undef=.bool true) (h12:t0.getD 12 undef=.pointer (some ⟨m,0,none⟩)) (h11:t0.getD 11 undef=.pointer (some ⟨b11,0,none⟩)) (h13:t0.getD 13 undef=.slice (some ⟨h,0,none⟩) (k+1) c) (h2:t0.getD 2 undef=.string p) (h8:t0.getD 8 undef=.pointer (some ⟨b8,0,none⟩)) (h4:t0.getD 4 undef=.slice pa pn pc)
  (_:∃ a n k,uv=.slice a n k) (hkw:IntKind.i64.wrap (k:Int)=k) (hix:¬ (k:Int)+1≤k) (hX:X.size=35)
  (hb0:∀ r w,F0 r w→B w) (hb1:∀ r w,F1 r w→B w)
  (hc1:∀ r w,F0 r w→Calls Tryz.prog 7 #[.agg #[.int .i64 bt],uv] w fun e w'=>∃ u,e=.returned u∧F1 (ups r 1 u) w')
  (hc2:∀ r w,F1 r w→Calls Tryz.prog 5 #[.pointer (some ⟨m,0,none⟩),.agg #[.int .i64 bt],(r 1),.string p,.agg X,.slice pa pn pc] w fun e w'=>∃ u,e=.returned u∧F2 (ups r 2 u) w')
  (hl4:∀ w,B w→Lies w b11 0 #[.int .i64 bt])
  (hl5:∀ w,B w→Lies w b11 0 #[.int .i64 bt])
  (hl11:∀ w,B w→w.cell? ⟨h,k,none⟩=some (uv))
  (hl14:∀ w,B w→Lies w b8 0 X)
  (hst0:∀ r,F0 r wr.drew)
  (hQ:∀ r w,F2 r w→Q .normal ⟨fold o3x8 (Vlt m b11 b8 h k c pn pc pa p uv X bt r) t0 19,[]⟩ w):(Code.region 8 o3x8 true).wp Tryz.prog Q ⟨t0,[]⟩ wr:=by
 have hB:dstB o3x8 t0.size=true:=by rw [ht];exact a2X
 have hBB:∀ r done w,MC F0 [(12,F1)] r done w→B w:=fun r done w h=>MC.base hb0 (by simp only [List.mem_cons,List.not_mem_nil,or_false];rintro x rfl;assumption) h
 refine jL (by kernel_rfl) (IE o3x8 (Vlt m b11 b8 h k c pn pc pa p uv X bt) t0 (MC F0 [(16,F2),(12,F1)] )) vI ⟨(fun _=>undef),t0,rfl,⟨rfl,fun _ _=>rfl,fun _ _ _ _ _ h=>by cases h⟩,MC.start (hst0 _)⟩ ?_ ?_
 rotate_left 1
 ·rintro done a w ⟨r,t,rfl,hS,hM⟩ hall
  rw [hS.end hB hall,dU]
  exact hQ r w (MC.get (hall 16 (by rw [dU];decide)) [] (by simp) hM)
 ·rintro jz op done a w ho ⟨r,t,rfl,hS,hM⟩ hnd hdep hcl
  have e14:=hS.ol h14
  have e12:=hS.ol h12
  have e11:=hS.ol h11
  have e13:=hS.ol h13
  have e2:=hS.ol h2
  have e8:=hS.ol h8
  have e4:=hS.ol h4
  have hlt:jz<19:=by rw [← dU];exact (ga ho).1
  match jz,hlt,ho,hnd,hdep with
  | 0,_,ho,hnd,hdep=>
   refine jM pb r hB ho hS (hM.step (by rfl)) fun hop=>?_
   unfold execOp;simp [hop,e14,Vlt,go_sem]
  | 1,_,ho,hnd,hdep=>
   have x47:=hS.gt pb ho hdep
   refine jM pd r hB ho hS (hM.step (by rfl)) fun hop=>?_
   unfold execOp;simp [hop,x47,Vlt,go_sem]
  | 2,_,ho,hnd,hdep=>
   have x48:=hS.gt pd ho hdep
   refine jM jp r hB ho hS (hM.step (by rfl)) fun hop=>?_
   unfold execOp;simp [hop,x48,Vlt,go_sem]
  | 3,_,ho,hnd,hdep=>
   obtain ⟨hd,hop,hgd⟩:=jB a0C ho
   have gx:=hS.gt jp ho hdep
   simp only [Vlt] at gx
   refine jJ r hB ho (jN hgd (sd jp) gx) hd hS (hM.step (by rfl)) ?_
   unfold execOp;simp [hop,e12,Vlt,go_sem]
  | 4,_,ho,hnd,hdep=>
   obtain ⟨hd,hop,hgd⟩:=jB a0D ho
   have gx:=hS.gt jp ho hdep
   simp only [Vlt] at gx
   have ny16:done 16=false:=j8 (by kernel_rfl) hcl hnd
   refine jJ r hB ho (jN hgd (sd jp) gx) hd hS (hM.step (by rfl)) ?_
   exact jQ 27 _ hop b11 0 (by show t.getD 11 undef=_;rw [gd];exact e11) #[.int .i64 bt] _ (hl4 w (hBB _ _ _ (MC.cut [(16,F2)] (by simp [ny16]) hM))) Tryz.underlying27 rfl zC
  | 5,_,ho,hnd,hdep=>
   obtain ⟨hd,hop,hgd⟩:=jB a0E ho
   have gx:=hS.gt jp ho hdep
   simp only [Vlt] at gx
   have ny12:done 12=false:=j8 (by kernel_rfl) hcl hnd
   have ny16:done 16=false:=j8 (by kernel_rfl) hcl ny12
   refine jJ r hB ho (jN hgd (sd jp) gx) hd hS (hM.step (by rfl)) ?_
   exact jQ 27 _ hop b11 0 (by show t.getD 11 undef=_;rw [gd];exact e11) #[.int .i64 bt] _ (hl5 w (hBB _ _ _ (MC.cut [(16,F2)] (by simp [ny16]) hM))) Tryz.underlying27 rfl zC
  | 6,_,ho,hnd,hdep=>
   obtain ⟨hd,hop,hgd⟩:=jB a0F ho
   have gx:=hS.gt jp ho hdep
   simp only [Vlt] at gx
   refine jJ r hB ho (jN hgd (sd jp) gx) hd hS (hM.step (by rfl)) ?_
   unfold execOp;simp [hop,e13,Vlt,go_sem]
  | 7,_,ho,hnd,hdep=>
   obtain ⟨hd,hop,hgd⟩:=jB a0G ho
   have gx:=hS.gt jp ho hdep
   simp only [Vlt] at gx
   refine jJ r hB ho (jN hgd (sd jp) gx) hd hS (hM.step (by rfl)) ?_
   unfold execOp;simp [hop,e13,Vlt,go_sem]
  | 8,_,ho,hnd,hdep=>
   obtain ⟨hd,hop,hgd⟩:=jB a0H ho
   have gx:=hS.gt jp ho hdep
   simp only [Vlt] at gx
   have x54:=hS.gt a0G ho hdep
   refine jJ r hB ho (jN hgd (sd jp) gx) hd hS (hM.step (by rfl)) ?_
   unfold execOp;simp [hop,x54,Vlt,go_sem]
  | 9,_,ho,hnd,hdep=>
   obtain ⟨hd,hop,hgd⟩:=jB a0I ho
   have gx:=hS.gt jp ho hdep
   simp only [Vlt] at gx
   have x55:=hS.gt a0H ho hdep
   refine jJ r hB ho (jN hgd (sd jp) gx) hd hS (hM.step (by rfl)) ?_
   unfold execOp;simp [hop,x55,Vlt,hkw,go_sem]
  | 10,_,ho,hnd,hdep=>
   obtain ⟨hd,hop,hgd⟩:=jB mb ho
   have gx:=hS.gt jp ho hdep
   simp only [Vlt] at gx
   have x53:=hS.gt a0F ho hdep
   have x56:=hS.gt a0I ho hdep
   refine jJ r hB ho (jN hgd (sd jp) gx) hd hS (hM.step (by rfl)) ?_
   unfold execOp;simp [hop,x53,x56,Vlt,hix,go_sem]
  | 11,_,ho,hnd,hdep=>
   obtain ⟨hd,hop,hgd⟩:=jB mc ho
   have gx:=hS.gt jp ho hdep
   simp only [Vlt] at gx
   have x57:=hS.gt mb ho hdep
   have ny12:done 12=false:=j8 (by kernel_rfl) hcl hnd
   have ny16:done 16=false:=j8 (by kernel_rfl) hcl ny12
   have cz:=hl11 w (hBB _ _ _ (MC.cut [(16,F2)] (by simp [ny16]) hM))
   refine jJ r hB ho (jN hgd (sd jp) gx) hd hS (hM.step (by rfl)) ?_
   unfold execOp;simp [hop,x57,Vlt,cz,go_sem]
  | 12,_,ho,hnd,hdep=>
   obtain ⟨hd,hop,hgd⟩:=jB me ho
   have gx:=hS.gt jp ho hdep
   simp only [Vlt] at gx
   have x52:=hS.gt a0E ho hdep
   simp only [Vlt] at x52
   have x58:=hS.gt mc ho hdep
   simp only [Vlt] at x58
   have ny16:done 16=false:=j8 (by kernel_rfl) hcl hnd
   have hF:=MC.get0 [(16,F2),(12,F1)] (by simp [hnd,ny16]) hM
   refine jb r 7 #[.agg #[.int .i64 bt],uv] hB ho (jN hgd (sd jp) gx) hd hS ?_ ?_
   ·skip
    unfold execOp
    simp only [hop]
    simp [x52,x58,go_sem]
   ·skip
    refine (hc1 r w hF).mono ?_
    rintro e w' ⟨u,rfl,hF'⟩
    refine ⟨ups r 1 u,?_,fun k hk=>?_,MC.put hF' [(16,F2)] (by simp [ny16])⟩
    ·simp only [Vlt,jA]
    ·skip
     have q12:k≠12:=fun e=>by rw [e,hnd] at hk;cases hk
     unfold Vlt
     split<;>first | rfl | exact absurd rfl q12
  | 13,_,ho,hnd,hdep=>
   obtain ⟨hd,hop,hgd⟩:=jB mf ho
   have gx:=hS.gt jp ho hdep
   simp only [Vlt] at gx
   refine jJ r hB ho (jN hgd (sd jp) gx) hd hS (hM.step (by rfl)) ?_
   unfold execOp;simp [hop,e2,Vlt,go_sem]
  | 14,_,ho,hnd,hdep=>
   obtain ⟨hd,hop,hgd⟩:=jB mg ho
   have gx:=hS.gt jp ho hdep
   simp only [Vlt] at gx
   have ny16:done 16=false:=j8 (by kernel_rfl) hcl hnd
   refine jJ r hB ho (jN hgd (sd jp) gx) hd hS (hM.step (by rfl)) ?_
   exact jQ 24 _ hop b8 0 (by show t.getD 8 undef=_;rw [gd];exact e8) X _ (hl14 w (hBB _ _ _ (MC.cut [(16,F2)] (by simp [ny16]) hM))) jR rfl (by rw [qU,hX])
  | 15,_,ho,hnd,hdep=>
   obtain ⟨hd,hop,hgd⟩:=jB mh ho
   have gx:=hS.gt jp ho hdep
   simp only [Vlt] at gx
   refine jJ r hB ho (jN hgd (sd jp) gx) hd hS (hM.step (by rfl)) ?_
   unfold execOp;simp [hop,e4,Vlt,go_sem]
  | 16,_,ho,hnd,hdep=>
   obtain ⟨hd,hop,hgd⟩:=jB gG ho
   have gx:=hS.gt jp ho hdep
   simp only [Vlt] at gx
   have x50:=hS.gt a0C ho hdep
   simp only [Vlt] at x50
   have x51:=hS.gt a0D ho hdep
   simp only [Vlt] at x51
   have x59:=hS.gt me ho hdep
   simp only [Vlt] at x59
   have x60:=hS.gt mf ho hdep
   simp only [Vlt] at x60
   have x61:=hS.gt mg ho hdep
   simp only [Vlt] at x61
   have x62:=hS.gt mh ho hdep
   simp only [Vlt] at x62
   have ny17:done 17=false:=j8 (by kernel_rfl) hcl hnd
   have ny18:done 18=false:=j8 (by kernel_rfl) hcl hnd
   have a12:done 12=true:=jy (j:=12) (by kernel_rfl) ho hdep
   have hF:=MC.get a12 [(16,F2)] (by simp [hnd]) hM
   refine jb r 5 #[.pointer (some ⟨m,0,none⟩),.agg #[.int .i64 bt],(r 1),.string p,.agg X,.slice pa pn pc] hB ho (jN hgd (sd jp) gx) hd hS ?_ ?_
   ·skip
    unfold execOp
    simp only [hop]
    simp [x50,x51,x59,x60,x61,x62,go_sem]
   ·skip
    refine (hc2 r w hF).mono ?_
    rintro e w' ⟨u,rfl,hF'⟩
    refine ⟨ups r 2 u,?_,fun k hk=>?_,MC.put hF' [] (by simp)⟩
    ·simp only [Vlt,jA]
    ·skip
     have q16:k≠16:=fun e=>by rw [e,hnd] at hk;cases hk
     have q17:k≠17:=fun e=>by rw [e,ny17] at hk;cases hk
     have q18:k≠18:=fun e=>by rw [e,ny18] at hk;cases hk
     unfold Vlt
     split<;>first | rfl | exact absurd rfl q16 | exact absurd rfl q17 | exact absurd rfl q18
  | 17,_,ho,hnd,hdep=>
   have x49:=hS.gt jp ho hdep
   have x63:=hS.gt gG ho hdep
   refine jM gH r hB ho hS (hM.step (by rfl)) fun hop=>?_
   unfold execOp;simp [hop,x49,x63,Vlt,go_sem]
  | 18,_,ho,hnd,hdep=>
   have x64:=hS.gt gH ho hdep
   refine jM vJ r hB ho hS (hM.step (by rfl)) fun hop=>?_
   unfold execOp;simp [hop,x64,Vlt,go_sem]
theorem foldlt (m b11 b8 h k c pn pc:Nat) (pa:Option Addr) (p:ByteArray) (uv:Value) (X:Array Value) (bt:Int) (r:Nat→Value) (t0:Array Value):fold o3x8 (Vlt m b11 b8 h k c pn pc pa p uv X bt r) t0 19=(((((((((((((((((((t0.setIfInBounds 47 (.bool true)).setIfInBounds 48 (.bool false)).setIfInBounds 49 (.bool false)).setIfInBounds 50 (.pointer (some ⟨m,0,none⟩))).setIfInBounds 51 (.agg #[.int .i64 bt])).setIfInBounds 52 (.agg #[.int .i64 bt])).setIfInBounds 53 (.slice (some ⟨h,0,none⟩) (k+1) c)).setIfInBounds 54 (.slice (some ⟨h,0,none⟩) (k+1) c)).setIfInBounds 55 (.int .i64 ((k+1:Nat):Int))).setIfInBounds 56 (.int .i64 (k:Int))).setIfInBounds 57 (.pointer (some ⟨h,k,none⟩))).setIfInBounds 58 (uv)).setIfInBounds 59 ((r 1))).setIfInBounds 60 (.string p)).setIfInBounds 61 (.agg X)).setIfInBounds 62 (.slice pa pn pc)).setIfInBounds 63 ((r 2))).setIfInBounds 64 ((r 2))).setIfInBounds 10 ((r 2))):=by kernel_rfl
theorem i9 (va vb':Value) (l:List Int) (w:World) (ha:Wi.Has w va l) (hb:Wi.Has w vb' l) (hB:Wire.Bytes l):Calls Tryz.prog 12 #[va,vb'] w fun e w'=>e=.returned (.bool true)∧w'=w:=by
 have c1:=Wi.xf ha hB
 have c2:=Wi.xf hb hB
 obtain ⟨a1,n1,rfl,_⟩:=ha.form
 obtain ⟨a2,n2,rfl,_⟩:=hb.form
 clear ha hb
 generalize Wi.mkStr l=s at *
 go_enter Tryz.func12,Tryz.ntmps12
 go_wp2_with fail
 go_ret
 exact ⟨rfl,rfl⟩
def z52:Array Value:=Array.replicate 26 (.slice none 0 0)
theorem build52 (w:World):(Instr.build 52 #[]).run Tryz.prog w=.ok (.agg z52) w:=by kernel_rfl
theorem a2Y (i:Nat) (hi:i<26):z52[i]?=some (.slice none 0 0):=by simp [z52,hi]
theorem gI {L:List Nat} (h:Su.Bytes L):Wire.Bytes (up L):=fun x hx=>by
 obtain ⟨y,hy,rfl⟩:=List.mem_map.1 hx
 have:=h y hy
 show (0:Int)≤(y:Int)∧(y:Int)<256
 omega
theorem iA (bt:Int) (m:Nat) (W0:World) (hC:zI (sumS bt) m W0) (w:World) (hw:G W0 w) (root:List Nat) (hr:root.length=32) (p:ByteArray) (v:Vd) (hvs:Su.Bytes v.sum) (pv:Value) (L:List Nat) (hp:Su.Has w pv L) (hLB:Su.Bytes L) (hl:L.length≤100000) (hps:p.size≤1048576):
  Calls Tryz.prog 5 #[.pointer (some ⟨m,0,none⟩),.agg #[.int .i64 bt],.agg (hA root),.string p,.agg (vx v).toArray,pv] w fun e w'=>e=.returned (.bool true)∧G w w':=by
 have hB:=gI hLB
 have hlu:(up L).length≤100000:=by rw [aB];exact hl
 have C10:Hid (∀ W,G w W→Calls Tryz.prog 10 #[.agg #[.int .i64 bt],.agg (hA root),.string p,.agg (vx v).toArray,pv] W fun e w'=>e=.returned (.bool (au (sumS bt) root (refO (sumS bt) p v (up L))))∧G W w'):=fun W h=>em bt root hr p v pv (up L) W (zp.2 (hp.below h)) hB hlu hps hvs
 have C11:Hid (∀ W u,G w W→Su.Has W u L→Calls Tryz.prog 11 #[.pointer (some ⟨m,0,none⟩),.agg (hA root),.string p,.agg (vx v).toArray,u] W fun e w'=>e=.returned (.bool (au (sumS bt) root (refO (sumS bt) p v (up L))))∧G W w'):=fun W u h hu=>el (sumS bt) (zN bt) m W0 hC W (hw.trans h) root hr p v hvs u (up L) (zp.2 hu) hB hlu hps
 generalize au (sumS bt) root (refO (sumS bt) p v (up L))=bb at *
 have C12:Hid (∀ W u,G w W→Su.Has W u L→Calls Tryz.prog 12 #[u,pv] W fun e w'=>e=.returned (.bool true)∧w'=W):=fun W u h hu=>i9 u pv (up L) W (zp.2 hu) (zp.2 (hp.below h)) hB
 obtain ⟨X,hX⟩:∃ X:Array Value,X=(vx v).toArray:=⟨_,rfl⟩
 have HX:Hid (X.size=35):=by rw [hX];exact jx v
 rw [← hX] at C10 C11 ⊢
 have HRo:Hid ((hA root).size=32):=jG hr
 obtain ⟨pa,pc,hpe,_⟩:=hp.form
 subst hpe
 have HP:=hid hp
 clear hX hp hC hw
 go_enter Tryz.func5,Tryz.ntmps5
 go_wp2_with (first
  | ((with_reducible refine jt 7 27 (.tmp 1) (#[.int .i64 bt]:Array Value) ?_ ?_ ?_ ?_ ?_);rfl;rfl;kernel_rfl;rfl;intro w1 b1 H1)
  | ((with_reducible refine jt 8 22 (.tmp 2) (hA root) ?_ ?_ ?_ ?_ ?_);rfl;rfl;kernel_rfl;rfl;intro w2 b2 H2)
  | ((with_reducible refine jt 10 24 (.tmp 4) X ?_ ?_ ?_ ?_ ?_);rfl;rfl;kernel_rfl;rfl;intro w3 b3 H3)
  | ((with_reducible refine jT 16 (.agg z52) w3 ?_ ?_ ?_ ?_);rfl;kernel_rfl;exact xI 52 rfl z52 (build52 _))
  | ((with_reducible refine tg 17 52 (.tmp 16) z52 ?_ ?_ ?_ ?_ ?_);rfl;rfl;kernel_rfl;rfl;intro w4 R hb4 hu4 hv4 hs4;have H4:Hid (G w w4∧w4.heap[b1]?=some (.cells #[.int .i64 bt] 27 (0,0))∧w4.heap[b2]?=some (.cells (hA root) 22 (0,0))∧w4.heap[b3]?=some (.cells X 24 (0,0))∧w4.heap[R]?=some (.cells z52 52 (0,0))∧w.heap.size≤R∧b1<R∧b2<R∧b3<R∧R<w4.heap.size):=(by obtain ⟨p1,p2,p3,p4⟩:=H1.o;obtain ⟨t1,t2,t3,t4⟩:=H2.o;obtain ⟨u1,u2,u3,u4⟩:=H3.o;exact ⟨G.trans (G.trans (G.trans p2 t2) u2) hu4,(hu4.block b1 (by omega)).trans ((u2.block b1 (by omega)).trans ((t2.block b1 (by omega)).trans p3)),(hu4.block b2 (by omega)).trans ((u2.block b2 (by omega)).trans t3),(hu4.block b3 (by omega)).trans u3,hv4,by omega,by omega,by omega,by omega,by omega⟩);clear hb4 hu4 hv4 hs4)
  | (go_at_call 9;refine (Su.d6 R R _ L w4 (Nat.le_refl _) H4.o.2.2.2.2.2.2.2.2.2 (fun i hi=>by rw [j9 H4.o.2.2.2.2.1];exact a2Y i hi) (fun o=>by simp [World.frozen?,H4.o.2.2.2.2.1]) (HP.o.below H4.o.1) hl).mono ?_;rintro e w5 ⟨g,rfl,q1,q2,q3,q4⟩;have H5:Hid (G w w5∧w5.heap[b1]?=some (.cells #[.int .i64 bt] 27 (0,0))∧w5.heap[b2]?=some (.cells (hA root) 22 (0,0))∧w5.heap[b3]?=some (.cells X 24 (0,0))∧Su.Has w5 (.slice (some ⟨g,0,none⟩) L.length (L.length+600)) L∧Su.RoomB w5 R g L.length):=(by obtain ⟨p0,p1,p2,p3,p4,p5,p6,p7,p8,p9⟩:=H4.o;exact ⟨((Kp.of (S:=fun b=>w.heap.size≤b) p0).trans (Kp.of_below q4) fun b _ e=>by omega).below (Nat.le_refl _) fun b e=>e,(q4.block b1 p6).trans p1,(q4.block b2 p7).trans p2,(q4.block b3 p8).trans p3,q2,q3⟩);clear q1 q2 q3 q4)
  | ((with_reducible refine jE 21 27 (.tmp 7) b1 0 (#[.int .i64 bt]:Array Value) _ ?_ ?_ ?_ ?_ ?_ Tryz.underlying27 ?_ ?_ ?_);rfl;rfl;kernel_rfl;rfl;exact Lies.of_heap H5.o.2.1;rfl;exact zC)
  | ((with_reducible refine jE 22 22 (.tmp 8) b2 0 (hA root) _ ?_ ?_ ?_ ?_ ?_ Tryz.underlying22 ?_ ?_ ?_);rfl;rfl;kernel_rfl;rfl;exact Lies.of_heap H5.o.2.2.1;rfl;exact (by rw [jK,HRo.o]))
  | ((with_reducible refine jE 24 24 (.tmp 10) b3 0 X _ ?_ ?_ ?_ ?_ ?_ jR ?_ ?_ ?_);rfl;rfl;kernel_rfl;rfl;exact Lies.of_heap H5.o.2.2.2.1;rfl;exact (by rw [qU,HX.o]))
  | (go_at_call 10;refine (C10.o w5 H5.o.1).mono ?_;rintro e w6 ⟨rfl,q⟩;have H6:Hid (G w w6∧w6.heap[b2]?=some (.cells (hA root) 22 (0,0))∧w6.heap[b3]?=some (.cells X 24 (0,0))∧Su.Has w6 (.slice (some ⟨g,0,none⟩) L.length (L.length+600)) L∧Su.RoomB w6 R g L.length):=(by obtain ⟨p0,p1,p2,p3,p4,p5⟩:=H5.o;exact ⟨p0.trans q,(q.block b2 (ga p2).1).trans p2,(q.block b3 (ga p3).1).trans p3,p4.below q,p5.below q⟩);clear q)
  | ((with_reducible refine jE 28 22 (.tmp 8) b2 0 (hA root) _ ?_ ?_ ?_ ?_ ?_ Tryz.underlying22 ?_ ?_ ?_);rfl;rfl;kernel_rfl;rfl;exact Lies.of_heap H6.o.2.1;rfl;exact (by rw [jK,HRo.o]))
  | ((with_reducible refine jE 30 24 (.tmp 10) b3 0 X _ ?_ ?_ ?_ ?_ ?_ jR ?_ ?_ ?_);rfl;rfl;kernel_rfl;rfl;exact Lies.of_heap H6.o.2.2.1;rfl;exact (by rw [qU,HX.o]))
  | (go_at_call 11;refine (C11.o w7 _ H7.o.1 H7.o.2.2.2.1).mono ?_;rintro e w8 ⟨rfl,q⟩;have H8:Hid (G w w8∧w8.heap[b2]?=some (.cells (hA root) 22 (0,0))∧w8.heap[b3]?=some (.cells X 24 (0,0))∧Su.Has w8 (.slice (some ⟨g,0,none⟩) L.length (L.length+600)) L∧Su.RoomB w8 R g L.length):=(by obtain ⟨p0,p2,p3,p4,p5⟩:=H7.o;exact ⟨p0.trans q,(q.block b2 (ga p2).1).trans p2,(q.block b3 (ga p3).1).trans p3,p4.below q,p5.below q⟩);clear q)
  | (go_at_call 11;refine (C11.o w6 _ H6.o.1 H6.o.2.2.2.1).mono ?_;rintro e w7 ⟨rfl,q⟩;have H7:Hid (G w w7∧w7.heap[b2]?=some (.cells (hA root) 22 (0,0))∧w7.heap[b3]?=some (.cells X 24 (0,0))∧Su.Has w7 (.slice (some ⟨g,0,none⟩) L.length (L.length+600)) L∧Su.RoomB w7 R g L.length):=(by obtain ⟨p0,p2,p3,p4,p5⟩:=H6.o;exact ⟨p0.trans q,(q.block b2 (ga p2).1).trans p2,(q.block b3 (ga p3).1).trans p3,p4.below q,p5.below q⟩);clear q)
  | ((with_reducible refine jE 37 22 (.tmp 8) b2 0 (hA root) _ ?_ ?_ ?_ ?_ ?_ Tryz.underlying22 ?_ ?_ ?_);rfl;rfl;kernel_rfl;rfl;exact Lies.of_heap H7.o.2.1;rfl;exact (by rw [jK,HRo.o]))
  | ((with_reducible refine jE 39 24 (.tmp 10) b3 0 X _ ?_ ?_ ?_ ?_ ?_ jR ?_ ?_ ?_);rfl;rfl;kernel_rfl;rfl;exact Lies.of_heap H7.o.2.2.1;rfl;exact (by rw [qU,HX.o]))
  | (go_at_call 12;refine (C12.o w8 _ H8.o.1 H8.o.2.2.2.1).mono ?_;rintro e w9 ⟨rfl,h9⟩;have h9:=h9.symm;subst h9)
  | (go_at_call 13;refine (Su.di R g L.length w8 H8.o.2.2.2.2 (by omega)).mono ?_;rintro e w9 ⟨rfl,h9⟩;have h9:=h9.symm;subst h9))
 go_ret
 exact ⟨rfl,H8.o.1⟩
theorem build27 (a:Int) (w:World):(Instr.build 27 #[(0,.int .i64 a)]).run Tryz.prog w=.ok (.agg #[.int .i64 a]) w:=by kernel_rfl
theorem zero27:(Tryz.prog.info? 27).bind (·.zero)=some (.agg #[.int .i64 0]):=by kernel_rfl
theorem ml (bt:Int) (m:Nat) (W0:World) (hm:W0.heap[m]?=some (.cells #[sumF bt] 80 (0,0))) (hT:Su.Tabs W0):zI (sumS bt) m W0:=by
 unfold sumF at hm
 split at hm
 ·rename_i hb
  refine pH (sumS bt) (zN bt) m W0 hm fun W u t hW hu hB hl=>?_
  have:=pG u t W hu hB (hT.up hW) (by omega)
  have e:sumS bt t=shaL t:=by unfold sumS;rw [if_pos hb]
  rw [e]
  exact this
 ·exact wk (sumS bt) (zN bt) m bt W0 hm fun W u t hW hu hB hl=>bp bt u t W hu hB hl
theorem pe (bt:Int) (root:List Nat) (hr:root.length=32) (p:ByteArray) (v:Vd) (hvs:Su.Bytes v.sum) (pv:Value) (L:List Nat) (w:World) (hp:Su.Has w pv L) (hLB:Su.Bytes L) (hT:Su.Tabs w) (hps0:p.size≤9223372036854775807) (hL0:L.length≤9223372036854775807):
  Calls Tryz.prog 3 #[.int .i64 bt,.agg (hA root),.string p,.agg (vx v).toArray,pv] w fun e w'=>e=.returned (.bool true)∧G w w':=by
 obtain ⟨X,hX⟩:∃ X:Array Value,X=(vx v).toArray:=⟨_,rfl⟩
 have HX:Hid (X.size=35):=by rw [hX];exact jx v
 have HRo:Hid ((hA root).size=32):=jG hr
 obtain ⟨pa,pc,hpe,_⟩:=hp.form
 subst hpe
 by_cases hpl:100000<p.size
 ·rw [← hX]
  have hpI:(100000:Int)<p.size:=by omega
  clear hX hp
  go_enter Tryz.func3,Tryz.ntmps3
  go_wp2_with (first
   | ((with_reducible refine jt 6 22 (.tmp 1) (hA root) ?_ ?_ ?_ ?_ ?_);rfl;rfl;kernel_rfl;rfl;intro w1 b1 H1)
   | ((with_reducible refine jt 8 24 (.tmp 3) X ?_ ?_ ?_ ?_ ?_);rfl;rfl;kernel_rfl;rfl;intro w2 b2 H2))
  go_ret
  exact ⟨rfl,G.trans H1.o.2.1 H2.o.2.1⟩
 ·have hpI:¬ (100000:Int)<p.size:=by omega
  by_cases hLl:100000<L.length
  ·rw [← hX]
   have hLI:(100000:Int)<L.length:=by omega
   clear hX hp
   go_enter Tryz.func3,Tryz.ntmps3
   go_wp2_with (first
    | ((with_reducible refine jt 6 22 (.tmp 1) (hA root) ?_ ?_ ?_ ?_ ?_);rfl;rfl;kernel_rfl;rfl;intro w1 b1 H1)
    | ((with_reducible refine jt 8 24 (.tmp 3) X ?_ ?_ ?_ ?_ ?_);rfl;rfl;kernel_rfl;rfl;intro w2 b2 H2))
   go_ret
   exact ⟨rfl,G.trans H1.o.2.1 H2.o.2.1⟩
  ·have hLI:¬ (100000:Int)<L.length:=by omega
   have hB:=gI hLB
   have hlu:(up L).length≤100000:=by rw [aB];omega
   have C5:Hid (∀ (W0 W:World) (m:Nat) (rt:List Nat),zI (sumS bt) m W0→G W0 W→G w W→rt.length=32→Calls Tryz.prog 5 #[.pointer (some ⟨m,0,none⟩),.agg #[.int .i64 bt],.agg (hA rt),.string p,.agg X,.slice pa L.length pc] W fun e w'=>e=.returned (.bool true)∧G W w'):=fun W0 W m rt h1 h2 h3 h4=>by rw [hX];exact iA bt m W0 h1 W h2 rt h4 p v hvs _ L (hp.below h3) hLB (by omega) (by omega)
   have C6:Hid (∀ W,G w W→Calls Tryz.prog 6 #[.agg #[.int .i64 bt],.string p,.agg X,.slice pa L.length pc] W fun e w'=>G W w'∧∃ x b,e=.returned (.tuple #[x,.bool b])∧(b=false∨(b=true∧∃ T,Tx w' W.heap.size x T 3000∧Su.Bytes T∧T.length≤100000))):=fun W hW=>by
    rw [hX]
    refine (bC bt p v _ (up L) W (zp.2 (hp.below hW)) hB hlu (by omega) hvs).mono ?_
    rintro e w' ⟨h1,x,⟨h2,rfl⟩ | ⟨T,h2,rfl,h3,h4⟩⟩
    ·exact ⟨h1,x,false,rfl,.inl rfl⟩
    ·exact ⟨h1,x,true,rfl,.inr ⟨rfl,T,h3,h4⟩⟩
   have CO:Hid (∀ W u T,Su.Has W u T→Su.Bytes T→T.length≤100000→Calls Tryz.prog 7 #[.agg #[.int .i64 bt],u] W fun e W'=>e=.returned (.agg (hA (sumS bt T)))∧G W W'):=fun W u T h1 h2 h3=>bp bt u T W h1 h2 h3
   have C4:Hid (∀ W,Calls Tryz.prog 4 #[.agg #[.int .i64 bt]] W fun e w'=>∃ m,e=.returned (.pointer (some ⟨m,0,none⟩))∧W.heap.size≤m∧w'.heap[m]?=some (.cells #[sumF bt] 80 (0,0))∧G W w'):=fun W=>a0B bt W
   have HT:=hid hT
   have hS:=zN bt
   rw [← hX]
   clear hX hp hT
   go_enter Tryz.func3,Tryz.ntmps3
   go_upto_region 8 with (first
    | ((with_reducible refine jt 6 22 (.tmp 1) (hA root) ?_ ?_ ?_ ?_ ?_);rfl;rfl;kernel_rfl;rfl;intro w1 b1 H1)
    | ((with_reducible refine jt 8 24 (.tmp 3) X ?_ ?_ ?_ ?_ ?_);rfl;rfl;kernel_rfl;rfl;intro w2 b2 H2)
    | ((with_reducible refine jT 24 (.agg (#[.int .i64 bt]:Array Value)) w2 ?_ ?_ ?_ ?_);rfl;kernel_rfl;exact eE 27 0 (.tmp 23) rfl (.int .i64 bt) rfl _ (build27 _ _))
    | ((with_reducible refine qC 11 27 (#[.int .i64 0]:Array Value) ?_ ?_ ?_ ?_ ?_);rfl;rfl;kernel_rfl;exact zero27;intro w3 b3 H3)
    | ((with_reducible refine qj 27 (.tmp 11) (.tmp 24) b3 (#[.int .i64 bt]:Array Value) (#[.int .i64 0]:Array Value) ?_ ?_ ?_ ?_ ?_ ?_ ?_ ?_ ?_ ?_);rfl;rfl;kernel_rfl;rfl;rfl;exact H3.o.2.2.1;exact zC;exact rfl;exact (by simp [Value.oneCell']);intro w4 H4;have H4':=H4;clear H4;have H4:Hid (G w w4∧w4.heap[b3]?=some (.cells #[.int .i64 bt] 27 (0,0))∧w4.heap[b2]?=some (.cells X 24 (0,0))∧w4.heap[b1]?=some (.cells (hA root) 22 (0,0))):=(by obtain ⟨p1,p2,p3,p4⟩:=H1.o;obtain ⟨t1,t2,t3,t4⟩:=H2.o;obtain ⟨u1,u2,u3,u4⟩:=H3.o;obtain ⟨k1,k2,k3⟩:=H4'.o;exact ⟨((Kp.of (S:=fun b=>w.heap.size≤b) (G.trans (G.trans p2 t2) u2)).trans k1 fun b _ e=>by omega).below (Nat.le_refl _) (fun b e=>e),k2,(k1.block b2 (by omega) (by omega)).trans ((u2.block b2 (by omega)).trans t3),(k1.block b1 (by omega) (by omega)).trans ((u2.block b1 (by omega)).trans ((t2.block b1 (by omega)).trans p3))⟩))
    | ((with_reducible refine jE 25 27 (.tmp 11) b3 0 (#[.int .i64 bt]:Array Value) _ ?_ ?_ ?_ ?_ ?_ Tryz.underlying27 ?_ ?_ ?_);rfl;rfl;kernel_rfl;rfl;exact Lies.of_heap H4.o.2.1;rfl;exact zC)
    | (go_at_call 4;refine (C4.o w4).mono ?_;rintro e w5 ⟨m,rfl,q1,q2,q3⟩;have H5:Hid (G w w5∧w5.heap[b3]?=some (.cells #[.int .i64 bt] 27 (0,0))∧w5.heap[b2]?=some (.cells X 24 (0,0))∧w5.heap[b1]?=some (.cells (hA root) 22 (0,0))):=(by obtain ⟨p0,p1,p2,p3⟩:=H4.o;exact ⟨p0.trans q3,(q3.block b3 (ga p1).1).trans p1,(q3.block b2 (ga p2).1).trans p2,(q3.block b1 (ga p3).1).trans p3⟩);have HCO:Hid (zI (sumS bt) m w5):=ml bt m w5 q2 (HT.o.up H5.o.1);clear q1 q2 q3)
    | ((with_reducible refine jE 31 27 (.tmp 11) b3 0 (#[.int .i64 bt]:Array Value) _ ?_ ?_ ?_ ?_ ?_ Tryz.underlying27 ?_ ?_ ?_);rfl;rfl;kernel_rfl;rfl;exact Lies.of_heap H5.o.2.1;rfl;exact zC)
    | ((with_reducible refine jE 32 22 (.tmp 6) b1 0 (hA root) _ ?_ ?_ ?_ ?_ ?_ Tryz.underlying22 ?_ ?_ ?_);rfl;rfl;kernel_rfl;rfl;exact Lies.of_heap H5.o.2.2.2;rfl;exact (by rw [jK,HRo.o]))
    | ((with_reducible refine jE 34 24 (.tmp 8) b2 0 X _ ?_ ?_ ?_ ?_ ?_ jR ?_ ?_ ?_);rfl;rfl;kernel_rfl;rfl;exact Lies.of_heap H5.o.2.2.1;rfl;exact (by rw [qU,HX.o]))
    | (go_at_call 5;refine (C5.o w5 w5 m root HCO.o (G.refl _) H5.o.1 hr).mono ?_;rintro e w6 ⟨rfl,q3⟩;have H6:Hid (G w w6∧w6.heap[b3]?=some (.cells #[.int .i64 bt] 27 (0,0))∧w6.heap[b2]?=some (.cells X 24 (0,0))∧G w5 w6):=(by obtain ⟨p0,p1,p2,p3⟩:=H5.o;exact ⟨p0.trans q3,(q3.block b3 (ga p1).1).trans p1,(q3.block b2 (ga p2).1).trans p2,q3⟩);clear q3)
    | ((with_reducible refine jE 40 27 (.tmp 11) b3 0 (#[.int .i64 bt]:Array Value) _ ?_ ?_ ?_ ?_ ?_ Tryz.underlying27 ?_ ?_ ?_);rfl;rfl;kernel_rfl;rfl;exact Lies.of_heap H6.o.2.1;rfl;exact zC)
    | ((with_reducible refine jE 42 24 (.tmp 8) b2 0 X _ ?_ ?_ ?_ ?_ ?_ jR ?_ ?_ ?_);rfl;rfl;kernel_rfl;rfl;exact Lies.of_heap H6.o.2.2.1;rfl;exact (by rw [qU,HX.o]))
    | (go_at_call 6;refine (C6.o w6 H6.o.1).mono ?_;rintro e w8 ⟨q3,x8,b8,rfl,q4⟩;have H8:Hid (G w w8∧w8.heap[b3]?=some (.cells #[.int .i64 bt] 27 (0,0))∧w8.heap[b2]?=some (.cells X 24 (0,0))∧G w5 w8∧G w6 w8∧(b8=false∨(b8=true∧∃ T,Tx w8 w6.heap.size x8 T 3000∧Su.Bytes T∧T.length≤100000))):=(by obtain ⟨p0,p1,p2,p3⟩:=H6.o;exact ⟨p0.trans q3,(q3.block b3 (ga p1).1).trans p1,(q3.block b2 (ga p2).1).trans p2,p3.trans q3,q3,q4⟩);clear q3 q4))
   cases b8 with
   | false=>
    refine reglf 0 _ w8 rfl rfl ?_
    intro r'
    rw [foldlf]
    go_simp
    go_wp2_with fail
    go_ret
    exact ⟨rfl,H8.o.1.trans (G.drew _)⟩
   | true=>
    obtain ⟨T,hTx,hTB⟩:∃ T,Tx w8 w6.heap.size x8 T 3000∧Su.Bytes T∧T.length≤100000:=by
     rcases H8.o.2.2.2.2.2 with h | ⟨_,h⟩
     ·cases h
     ·exact h
    obtain ⟨h,k,c,ua,uc,hxe,hk1,hcell,hown⟩:=hTx.last
    subst hxe
    refine reglt m b3 b2 h k c L.length pc pa p (.slice ua T.length uc) X bt (fun _ W=>G w8 W) (fun r' W=>G w8 W∧r' 1=.agg (hA (sumS bt T))) (fun r' W=>G w8 W∧r' 2=.bool true) (fun W=>G w8 W) _ w8 rfl rfl rfl rfl rfl rfl rfl rfl ⟨_,_,_,rfl⟩ (kF k (by omega)) (by omega) HX.o (hb0:=fun _ _ q=>q) (hb1:=fun _ _ q=>q.1) (hc1:=?c1) (hc2:=?c2) (hl4:=fun W q=>Lies.of_heap ((q.block b3 (ga H8.o.2.1).1).trans H8.o.2.1)) (hl5:=fun W q=>Lies.of_heap ((q.block b3 (ga H8.o.2.1).1).trans H8.o.2.1)) (hl11:=fun W q=>q.cell hcell) (hl14:=fun W q=>Lies.of_heap ((q.block b2 (ga H8.o.2.2.1).1).trans H8.o.2.2.1)) (hst0:=fun _=>G.drew _) (hQ:=?q)
    case c1=>
     intro r' W q
     refine (CO.o W _ T ((hown.has).below q) hTB.1 hTB.2).mono ?_
     rintro e W2 ⟨rfl,q2⟩
     exact ⟨_,rfl,q.trans q2,by rw [jA]⟩
    case c2=>
     rintro r' W ⟨q,e1⟩
     rw [e1]
     refine (C5.o w5 W m (sumS bt T) HCO.o (H8.o.2.2.2.1.trans q) (H8.o.1.trans q) (hS T).1).mono ?_
     rintro e W2 ⟨rfl,q2⟩
     exact ⟨_,rfl,q.trans q2,by rw [jA]⟩
    case q=>
     rintro r' w9 ⟨q1,q2⟩
     rw [foldlt,q2]
     generalize r' 1=u1
     have H9:=hid (H8.o.1.trans q1)
     clear q1 q2
     go_simp
     go_wp2_with fail
     go_ret
     exact ⟨rfl,H9.o⟩
end Go.Proofs.YtdeanahpiigonaaGreatDoor
namespace Go.Proofs.YtdeanahpiigonaaGreatDoor.HoldsR
open Go.ChangeShapes Go.WideShapes Go.ChangeAt Go.RowKit
open Go.ChangeMaps (open_string shut_string)
theorem own:ownKnob Tryz.prog.godebug=none:=by kernel_rfl
theorem bD:laidOutB Tryz.prog=true:=by kernel_rfl
theorem wD : Tryz.prog.globalNamed "twine/sum.firstWords" = some 0 := by kernel_rfl
theorem wE : Tryz.prog.globalNamed "twine/sum.roundWords" = some 1 := by kernel_rfl
theorem tFirst:(Tryz.prog.globals[0]?).map (·.type)=some 195:=by kernel_rfl
theorem tRound:(Tryz.prog.globals[1]?).map (·.type)=some 214:=by kernel_rfl
theorem u195:Tryz.prog.underlying 195=some (.array 8 193):=by kernel_rfl
theorem u214:Tryz.prog.underlying 214=some (.array 64 193):=by kernel_rfl
theorem u193:Tryz.prog.underlying 193=some (.int .u32):=by kernel_rfl
def wF:List Nat:=[1779033703,3144134277,1013904242,2773480762,1359893119,2600822924,528734635,1541459225]
theorem dFirst {H:Type}:(Rows.laid_twine_sum_firstWords:DataW H)=Lib.tabData .u32 (wF.map Int.ofNat):=rfl
theorem dRound {H:Type}:(Rows.laid_twine_sum_roundWords:DataW H)=Lib.tabData .u32 (Su.Sha.ks.map Int.ofNat):=rfl
theorem de {w:World} {n:String} {g:Nat} {t:TypeId} {len fuel:Nat} {zs:List Nat} {cs:Array Value} {p:List MemPlace} (hg:Tryz.prog.globalNamed n=some g) (hu:Tryz.prog.underlying t=some (.array len 193)) (hct:Tryz.prog.cellsOf t=len)
  (hv:w.var? Tryz.prog n=some cs) (hd:DataW.trod (fun _=>()) Tryz.prog w 0 (fun _=>true) false fuel t cs.toList=some (Lib.tabData .u32 (zs.map Int.ofNat),p)) (i:Nat) (hi:i<zs.length):
  w.cell? ⟨g,i,none⟩=some (Su.vw (zs.getD i 0)):=by
 have hc:=Lib.cells_of_tab hu u193 (by kernel_rfl) hct hd
 rw [World.var?_cell hg hv i,← Array.getElem?_toList,hc]
 simp [List.getD,hi,Su.vw]
theorem cY {W : World} (h : laidMetH Tryz.prog [("twine/sum.firstWords", Rows.laid_twine_sum_firstWords), ("twine/sum.roundWords", Rows.laid_twine_sum_roundWords)] W) : Su.Tabs W := by
 rw [MakeChecks.laidMetH_plain _ _ _ (by kernel_rfl)] at h
 obtain ⟨ps,⟨g1,t1,cs1,f1,p1,q1,hg1,ht1,hv1,hd1,⟨g2,t2,cs2,f2,p2,q2,hg2,ht2,hv2,hd2,_,_⟩,_⟩,_,_⟩:=h
 obtain rfl:=Option.some.inj (wD.symm.trans hg1)
 obtain rfl:=Option.some.inj (wE.symm.trans hg2)
 obtain rfl:=Option.some.inj (tFirst.symm.trans ht1)
 obtain rfl:=Option.some.inj (tRound.symm.trans ht2)
 rw [dFirst] at hd1
 rw [dRound] at hd2
 exact ⟨fun i hi=>de wD u195 (by kernel_rfl) hv1 hd1 i hi,fun i hi=>de wE u214 (by kernel_rfl) hv2 hd2 i hi⟩
def lay (c:Array Value):Obj→Obj
 | .cells _ t frozen=>.cells c t frozen
 | o=>o
noncomputable def xW (os:Os):World:=
 { World.holding Tryz.prog os ⟨#[],#[],[]⟩ with heap:=((World.holding Tryz.prog os ⟨#[],#[],[]⟩).heap.modify 0 (lay (wF.map Su.vw).toArray)).modify 1 (lay (Su.Sha.ks.map Su.vw).toArray) }
theorem laid2 (os : Os) (args : Array Value) : laidMetH Tryz.prog [("twine/sum.firstWords", Rows.laid_twine_sum_firstWords), ("twine/sum.roundWords", Rows.laid_twine_sum_roundWords)] ((xW os).forCall (fun _ _ => 0) ⟨#[], args, []⟩).memory := by
 rw [MakeChecks.laidMetH_plain _ _ _ (by kernel_rfl)]
 exact laidMet_of_run' 8 (by kernel_rfl) (by kernel_rfl)
theorem pm {H:Type} {enc:TypeId × Value→H} {W:World} {a:Option Addr} {len cap:Nat} {d:DataW H} {p:List MemPlace}
  (h:DataW.Trod enc Tryz.prog W 0 (fun _=>true) true 25 (.slice a len cap) d p):∃ l:List Nat,l.length=len∧Su.Has W (.slice a len cap) l∧Su.Bytes l∧len≤9223372036854775807:=by
 obtain ⟨fuel,hf⟩:=h
 rcases open_ints Tryz.underlying25 Tryz.underlying5 (by kernel_rfl) hf with ⟨hcs,_⟩ | ⟨x,l,c,zs,hcs,_,hl,hm,hz,_,hcell,hwz⟩
 ·simp [Value.cells] at hcs
  obtain ⟨rfl,rfl,rfl⟩:=hcs
  exact ⟨[],rfl,.inl ⟨rfl,rfl⟩,fun x hx=>by simp at hx,by omega⟩
 ·simp [Value.cells] at hcs
  obtain ⟨rfl,rfl,rfl⟩:=hcs
  simp only [if_true] at hz
  unfold maxLen at hm
  have hlen:((zs.take len).map Int.toNat).length=len:=by simp;omega
  refine ⟨(zs.take len).map Int.toNat,hlen,.inr ⟨x,cap,by rw [hlen],by rw [hlen];exact hl,fun i hi=>?_⟩,fun y hy=>?_,by omega⟩
  ·rw [hlen] at hi
   rw [hcell i (by omega)]
   have hzi:i<zs.length:=by omega
   have hb:=bounds_u8 (hwz zs[i] (List.getElem_mem hzi))
   have:((zs[i].toNat:Nat):Int)=zs[i]:=Int.toNat_of_nonneg hb.1
   simp [List.getD,hi,hzi,Su.vb,this]
  ·obtain ⟨z,hz',rfl⟩:=List.mem_map.1 hy
   have:=bounds_u8 (hwz z (List.mem_of_mem_take hz'))
   omega
theorem wG {H:Type} {enc:TypeId × Value→H} {W:World} {fuel:Nat} {cs:List Value} {x:DataW H × List MemPlace}
  (hf:DataW.trod enc Tryz.prog W 0 (fun _=>true) true fuel 22 cs=some x):∃ l:List Nat,l.length=32∧cs=l.map Su.vb∧Su.Bytes l:=by
 obtain ⟨xs,m,_,_,hl,hxs,hel⟩:=DataW.trod_array Tryz.underlying22 hf
 rw [show Tryz.prog.cellsOf 22=32 by kernel_rfl] at hl
 rw [show Tryz.prog.cellsOf 5=1 by kernel_rfl] at hel
 have each:∀ i,∃ n:Nat,n<256∧(i<32→cs[i]?=some (Su.vb n)):=fun i=>by
  by_cases hi:i<32
  ·have h:=hel i hi
   rw [gl (by omega)] at h
   obtain ⟨a,ha,_,wa⟩:=DataW.trod_int Tryz.underlying5 h
   have hb:=bounds_u8 wa
   refine ⟨a.toNat,by omega,fun _=>?_⟩
   have h2:((cs.drop (i*1)).take 1)[0]?=some (.int .u8 a):=by rw [ha];rfl
   rw [List.getElem?_take,if_pos (by omega),List.getElem?_drop,Nat.mul_one,Nat.add_zero] at h2
   rw [h2]
   have e:((a.toNat:Nat):Int)=a:=Int.toNat_of_nonneg hb.1
   simp only [Su.vb,e]
  ·exact ⟨0,by omega,fun h=>absurd h hi⟩
 obtain ⟨f,hf2⟩:=Classical.skolem.1 each
 refine ⟨(List.range 32).map f,by simp,List.ext_getElem? fun i=>?_,fun y hy=>?_⟩
 ·by_cases hi:i<32
  ·rw [(hf2 i).2 hi];simp [hi]
  ·rw [List.getElem?_eq_none (by omega),List.getElem?_eq_none (by simp;omega)]
 ·obtain ⟨i,_,rfl⟩:=List.mem_map.1 hy
  exact (hf2 i).1
theorem po {H:Type} {enc:TypeId × Value→H} {W:World} {fuel:Nat} {cs:List Value} {x:DataW H × List MemPlace}
  (hf:DataW.trod enc Tryz.prog W 0 (fun _=>true) true fuel 24 cs=some x):∃ v:Vd,cs=vx v∧Su.Bytes v.sum:=by
 obtain ⟨xs,n,_,_,hl,hxs,hel⟩:=DataW.trod_struct jR hf
 rw [show Tryz.prog.cellsOf 24=35 by kernel_rfl] at hl
 have hx4:xs.length=4:=hxs
 have g0:DataW.trod enc Tryz.prog W 0 (fun _=>true) true n 3 ((cs.drop 0).take (Tryz.prog.cellsOf 3))=xs[0]?:=hel 0 _ rfl
 have g1:DataW.trod enc Tryz.prog W 0 (fun _=>true) true n 3 ((cs.drop 1).take (Tryz.prog.cellsOf 3))=xs[1]?:=hel 1 _ rfl
 have g2:DataW.trod enc Tryz.prog W 0 (fun _=>true) true n 3 ((cs.drop 2).take (Tryz.prog.cellsOf 3))=xs[2]?:=hel 2 _ rfl
 have g3:DataW.trod enc Tryz.prog W 0 (fun _=>true) true n 22 ((cs.drop 3).take (Tryz.prog.cellsOf 22))=xs[3]?:=hel 3 _ rfl
 rw [show Tryz.prog.cellsOf 3=1 by kernel_rfl] at g0 g1 g2
 rw [show Tryz.prog.cellsOf 22=32 by kernel_rfl] at g3
 rw [gl (by omega)] at g0 g1 g2 g3
 obtain ⟨a0,h0,_,_⟩:=DataW.trod_int Tryz.underlying3 g0
 obtain ⟨a1,h1,_,_⟩:=DataW.trod_int Tryz.underlying3 g1
 obtain ⟨a2,h2,_,_⟩:=DataW.trod_int Tryz.underlying3 g2
 obtain ⟨l,hl2,h3,hb⟩:=wG g3
 refine ⟨⟨a0,a1,a2,l,hl2⟩,?_,hb⟩
 match cs,hl,h0,h1,h2,h3 with
 | c0::c1::c2::r,hl,h0,h1,h2,h3=>
  simp at h0 h1 h2 h3 hl
  rw [List.take_of_length_le (by omega)] at h3
  rw [h0,h1,h2,h3]
  rfl
theorem wH {v:Value} {c:List Value} (h:v.cells.toList=c) (hs:c.length≠1):v=.agg c.toArray:=by
 cases v<;>simp [Value.cells] at h<;>first | (subst h;exact absurd rfl hs) | (subst h;simp;done)
theorem contract (H:Type) (enc:TypeId × Value→H) (W:World) (base:Nat) (args:Array Value) (ds gs:List (DataW H)) (before:List MemPlace)
  (hval:∀ (j:Nat) t v,Tryz.f3.params[j]?=some t→args[j]?=some v→Value.okWide Tryz.prog W .any base t v)
  (hW:DataW.Whole enc Tryz.prog Tryz.f3.params.toList Rows.merkleHoldsSpec.vars false W args.toList ds gs before) (hL:laidMetH Tryz.prog Rows.merkleHoldsRow.laid W):
  Calls Tryz.prog 3 args W fun e W'=>∃ v,e=.returned v∧Rows.merkleHoldsSpec.post enc Tryz.prog Tryz.f3 false true false false W args v W':=by
 have hW':=hW
 obtain ⟨p,q,hA0,hV,rfl,hfz,hnd⟩:=hW
 have hA:DataW.TrodAll enc Tryz.prog W 0 (fun _=>true) true Tryz.f3.params.toList args.toList ds p:=hA0
 rw [Tryz.params3] at hA hval
 obtain ⟨v0,vs0,d0,ds0,p0,q0,hargs,rfl,rfl,h0,r0⟩:=trodAll_cons hA
 obtain ⟨v1,vs1,d1,ds1,p1,q1,rfl,rfl,rfl,h1,r1⟩:=trodAll_cons r0
 obtain ⟨v2,vs2,d2,ds2,p2,q2,rfl,rfl,rfl,h2,r2⟩:=trodAll_cons r1
 obtain ⟨v3,vs3,d3,ds3,p3,q3,rfl,rfl,rfl,h3,r3⟩:=trodAll_cons r2
 obtain ⟨v4,vs4,d4,ds4,p4,q4,rfl,rfl,rfl,h4,r4⟩:=trodAll_cons r3
 obtain ⟨rfl,rfl,rfl⟩:=trodAll_nil r4
 obtain rfl:args=#[v0,v1,v2,v3,v4]:=by cases args;simp_all
 obtain ⟨rfl,rfl⟩:=trodVars_none hV
 obtain ⟨n0,rfl⟩:=okWide_int Tryz.underlying3 (hval 0 3 v0 rfl rfl)
 obtain ⟨s2,rfl⟩:=okWide_string Tryz.underlying9 (hval 2 9 v2 rfl rfl)
 obtain ⟨a4,len4,cap4,rfl⟩:=okWide_slice Tryz.underlying25 (hval 4 25 v4 rfl rfl)
 have k0:=h0
 have k1:=h1
 have k2:=h2
 have k3:=h3
 have k4:=h4
 have lt0:∀ x∈p0,x.block<W.heap.size:=by obtain ⟨m,hm⟩:=k0;exact DataW.trod_lt m _ _ _ hm
 have lt1:∀ x∈p1,x.block<W.heap.size:=by obtain ⟨m,hm⟩:=k1;exact DataW.trod_lt m _ _ _ hm
 have lt2:∀ x∈p2,x.block<W.heap.size:=by obtain ⟨m,hm⟩:=k2;exact DataW.trod_lt m _ _ _ hm
 have lt3:∀ x∈p3,x.block<W.heap.size:=by obtain ⟨m,hm⟩:=k3;exact DataW.trod_lt m _ _ _ hm
 have lt4:∀ x∈p4,x.block<W.heap.size:=by obtain ⟨m,hm⟩:=k4;exact DataW.trod_lt m _ _ _ hm
 obtain ⟨l4,rfl,hl4,hB4,hle4⟩:=pm h4
 obtain ⟨f1,e1⟩:=h1
 obtain ⟨root,hr,hc1,_⟩:=wG e1
 obtain rfl:=wH hc1 (by simp [hr])
 obtain ⟨f2,e2⟩:=h2
 obtain ⟨s,hs,_,hsm⟩:=DataW.trod_string Tryz.underlying9 e2
 have hse:s2=s:=by simpa [Value.cells] using hs
 subst hse
 obtain ⟨f3,e3⟩:=h3
 obtain ⟨v,hc3,hvs⟩:=po e3
 obtain rfl:=wH hc3 (by rw [jq];decide)
 clear hA0
 refine (pe n0 root hr s2 v hvs _ l4 W hl4 hB4 (cY hL) (by unfold maxLen at hsm;omega) hle4).mono fun e W' ⟨he,bel⟩=>?_
 subst he
 exact ⟨_,rfl,_,_,_,[],_,[],hW',trodAll_mk1 (shut_bool Tryz.underlying4 _),(trodAll_cons_mk (Below.trod bD (by kernel_rfl) (of_decide_eq_true (by kernel_rfl)) k0 bel lt0) (trodAll_cons_mk (Below.trod bD (by kernel_rfl) (of_decide_eq_true (by kernel_rfl)) k1 bel lt1) (trodAll_cons_mk (Below.trod bD (by kernel_rfl) (of_decide_eq_true (by kernel_rfl)) k2 bel lt2) (trodAll_cons_mk (Below.trod bD (by kernel_rfl) (of_decide_eq_true (by kernel_rfl)) k3 bel lt3) (trodAll_cons_mk (Below.trod bD (by kernel_rfl) (of_decide_eq_true (by kernel_rfl)) k4 bel lt4) trodAll_mk0))))),rfl,bel.frame _,fun h=>by cases h⟩
def wit:Array Value:=#[.int .i64 0,.agg (hA j7),.string ⟨#[]⟩,.agg (vx vz).toArray,.slice none 0 0]
theorem pp (os:Os):laidMetH Tryz.prog Rows.merkleHoldsRow.laid ((xW os).forCall (fun _ _=>0) ⟨#[],wit,[]⟩).memory:=laid2 os _
theorem reads (os:Os) {H:Type} (enc:TypeId × Value→H):∃ x,DataW.whole enc Tryz.prog ((xW os).forCall (fun _ _=>0) ⟨#[],wit,[]⟩).memory Tryz.f3.params.toList Rows.merkleHoldsSpec.vars false wit.toList 8=some x:=
 Option.isSome_iff_exists.1 (by kernel_rfl)
theorem lifted (os:Os) (started:os.Started) (H:Type) (enc:TypeId × Value→H) (F:Stop.Interp):
  ReturnsInHanded {} Tryz.checked os 3 .any ((OpenSpec.ofChange Rows.merkleHoldsSpec).preRow enc Tryz.prog Tryz.f3 Rows.merkleHoldsRow.domain false Rows.merkleHoldsRow.laid) (((OpenSpec.ofChange Rows.merkleHoldsSpec).at F).post enc Tryz.prog Tryz.f3 false true false false):=by
 obtain ⟨x,hx⟩:=reads os enc
 refine returnsInHanded_of_row (C:=Tryz.checked) (s:=OpenSpec.ofChange Rows.merkleHoldsSpec) own started (by kernel_rfl) Tryz.func3
  (witness_row_at (enc:=enc) (C:=Tryz.checked) false (xW os) wit rfl (by kernel_rfl) (by kernel_rfl) (by kernel_rfl)
   (OpenSpec.preRow_of_cond 8 hx (by kernel_rfl) (fun k hk=>by cases hk) (by kernel_rfl) (pp os))) ?_
 intro W base args ds gs before hval hW _ _ _ hL _ _
 exact contract H enc W base args ds gs before hval hW hL
theorem said:Rows.MerkleHoldsSaid:=
 OpenClaim.holds_of_cond 3 Tryz.f3 rfl rfl rfl rfl rfl rfl rfl ⟨rfl,rfl,rfl,rfl,rfl⟩ rfl rfl rfl rfl rfl (by kernel_rfl) Tryz.func3 (by kernel_rfl)
  (of_decide_eq_true (by kernel_rfl)) (by unfold Func.isWrapper;first | (rw [if_pos (by decide +kernel)];kernel_rfl) | (rw [if_neg (by decide +kernel)];exact ⟨rfl,rfl⟩))
  (fun os started H enc _ F=>by rw [OpenClaim.pre_eq_preRow];exact lifted os started H enc F)
theorem plain (f : FuncId) (fn : Func) (hf : Tryz.pinned.checked.prog.funcNamed "twine/twinelaw5.MerkleHolds" = some f) (hfn : Tryz.pinned.checked.prog.funcs[f]? = some fn) :
  true=Tryz.pinned.checked.prog.looks []∧∀ (j:Nat) t,fn.params[j]?=some t→Tryz.pinned.checked.prog.wantsStandIn t=false:=by
 obtain rfl : f = 3 := Option.some.inj ((show Tryz.prog.funcNamed "twine/twinelaw5.MerkleHolds" = some 3 by kernel_rfl).symm.trans hf) |>.symm
 obtain rfl:fn=Tryz.f3:=(Option.some.inj (Tryz.func3.symm.trans hfn)).symm
 refine ⟨by kernel_rfl,fun j t ht=>?_⟩
 rw [Tryz.params3] at ht
 have h:t=3∨t=22∨t=9∨t=24∨t=25:=by simpa using Array.mem_of_getElem? ht
 rcases h with rfl | rfl | rfl | rfl | rfl
 ·exact (show Tryz.prog.wantsStandIn 3=false by kernel_rfl)
 ·exact (show Tryz.prog.wantsStandIn 22=false by kernel_rfl)
 ·exact (show Tryz.prog.wantsStandIn 9=false by kernel_rfl)
 ·exact (show Tryz.prog.wantsStandIn 24=false by kernel_rfl)
 ·exact (show Tryz.prog.wantsStandIn 25=false by kernel_rfl)
end Go.Proofs.YtdeanahpiigonaaGreatDoor.HoldsR
namespace Go.Proofs.YtdeanahpiigonaaGreatDoor
theorem merkleHolds_card:Rows.MerkleHoldsCardSaid:=
 Claim7.holds_tied_plain_at .later [] _ _ _ _ HoldsR.said (fun _ h=>by cases h) (by kernel_rfl) (fun _ h=>by cases h) merkleHolds_row_tie rfl ⟨rfl,rfl⟩ (by kernel_rfl) rfl HoldsR.plain (by kernel_rfl)
#print axioms merkleHolds_card
end Go.Proofs.YtdeanahpiigonaaGreatDoor
