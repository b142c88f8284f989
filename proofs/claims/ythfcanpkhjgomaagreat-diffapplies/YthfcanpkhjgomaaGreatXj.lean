import Derived.Test.YthfcanpkhjgomaaGreatCRefR
import Derived.Test.YthfcanpkhjgomaaGreatXi
set_option maxRecDepth 100000
set_option maxHeartbeats 8000000
namespace Go.Proofs.YthfcanpkhjgomaaGreat.Ch
open Go.RowKit
theorem refRises_any (ao:Option Addr) (cp:Nat) (L:List Cd) (w:World) (h:HasA w (.slice ao L.length cp) L) (hn:L.length≤1000000) (hp:∀ c∈L,c.path.size≤1048576):
  Calls Tryz.prog 31 #[.slice ao L.length cp] w fun e w'=>e=.returned (.bool (riseB none L))∧Below w.heap.size w w':=by
 obtain ⟨n,hn'⟩:∃ n,L.length=n:=⟨_,rfl⟩
 have HA:=hid h
 have HN:=hid hn'
 have HP:=hid hp
 rw [hn'] at hn HA ⊢
 clear h hn' hp
 go_enter Tryz.func31,Tryz.ntmps31
 go_wp2
 go_loopg [3] n (fun gh i wr=>∃ k:Nat,k≤n∧gh=n-k∧i=.int .i64 (k:Int)∧Hid (Below w.heap.size w wr)∧Hid (riseB none L=riseB (prevOf L k) (L.drop k)))
 case atStart=>exact ⟨0,Nat.zero_le _,rfl,rfl,Below.refl _ _,by show riseB none L=riseB (prevOf L 0) (L.drop 0);rw [List.drop_zero];rfl⟩
 case round=>
  obtain ⟨k,hk,rfl,rfl,HS,HR⟩:=hrel
  by_cases hlt:k<n
  ·have i1:(k:Int)<(n:Int):=by omega
   obtain ⟨r,hx⟩:∃ r,L[k]?=some r:=⟨L[k]'(by rw [HN.out];exact hlt),by simp⟩
   obtain ⟨ga,oa,rfl,la⟩:=(HA.out.below HS.out).at hx
   have hd:L.drop k=r::L.drop (k+1):=by
    rw [List.drop_eq_getElem_cons (by rw [HN.out];exact hlt)]
    rw [List.getElem?_eq_getElem (by rw [HN.out];exact hlt)] at hx
    injection hx with hx
    rw [hx]
   have hs:=HP.out r (List.mem_of_getElem? hx)
   have hpn:prevOf L (k+1)=some r:=by simp [prevOf,hx]
   have HRK:Hid (riseB none L=(decide (splitE (tl r.path) 64=0)&&!decide (r.old=r.new)&&ahead (prevOf L k) r&&riseB (prevOf L (k+1)) (L.drop (k+1)))):=by
    show riseB none L=_
    rw [HR.out,hd,riseB_cons,hpn]
   have HLa:=hid la
   have HSS:=hid hs
   clear la hd hpn HR hs
   go_upto_region 4 with fail
   by_cases he:splitE (tl r.path) 64=0
   ·by_cases hon:r.old=r.new
    ·have HE:Hid (riseB none L=false):=by
      show riseB none L=false
      rw [HRK.out];simp [hon]
     refine regRB ga oa n cp k r _ _ _ wr rfl rfl rfl hlt HLa.out HSS.out (by simpa using he) rfl rfl (by simpa using hon) fun wz hz=>?_
     rw [foldRB]
     have HZ:Hid (Below w.heap.size w wz):=Below.up HS.out hz
     generalize (vx r.old).toArray=YO
     generalize (vx r.new).toArray=YN
     clear hz HRK HLa HSS hx
     go_simp
     go_wp2
     go_ret
     exact ⟨by rw [HE.out];rfl,HZ.out⟩
    ·rcases Nat.eq_zero_or_pos k with hk0 | hk0
     ·have HE:Hid (riseB none L=riseB (prevOf L (k+1)) (L.drop (k+1))):=by
       show riseB none L=_
       rw [HRK.out];subst hk0;simp [hon,prevOf,ahead,he]
      refine regRC ga oa n cp k r _ _ _ wr rfl rfl rfl hlt HLa.out HSS.out (by simpa using he) rfl rfl (by simpa using hon) hk0 fun wz hz=>?_
      rw [foldRC]
      have HZ:Hid (Below w.heap.size w wz):=Below.up HS.out hz
      generalize (vx r.old).toArray=YO
      generalize (vx r.new).toArray=YN
      clear hz HRK HLa HSS hx
      go_simp
      go_wp2
      go_roundg (n-(k+1))
      case measure=>omega
      case rel=>exact ⟨k+1,by omega,rfl,by go_num,HZ,HE⟩
     ·obtain ⟨p,hpx⟩:∃ p,L[k-1]?=some p:=⟨L[k-1]'(by rw [HN.out];omega),by simp⟩
      have hps:=HP.out p (List.mem_of_getElem? hpx)
      obtain ⟨ga',oa',e',lp⟩:=(HA.out.below HS.out).at hpx
      injection e' with e'
      injection e' with e1' e2' _
      subst e1' e2'
      obtain ⟨cm,hcm⟩:∃ cm,cmpL (tl p.path) (tl r.path)=cm:=⟨_,rfl⟩
      have hpv:prevOf L k=some p:=by rw [prevOf,if_neg (by omega)];exact hpx
      have HE:Hid (riseB none L=(decide (cm<0)&&riseB (prevOf L (k+1)) (L.drop (k+1)))):=by
       show riseB none L=_
       rw [HRK.out,← hcm,hpv];simp [hon,he,ahead]
      by_cases hcm0:cm<0
      ·have HE2:Hid (riseB none L=riseB (prevOf L (k+1)) (L.drop (k+1))):=by
        show riseB none L=_
        rw [HE.out];simp [hcm0]
       refine regRE ga oa n cp k r _ _ p cm _ wr rfl rfl rfl hlt HLa.out HSS.out (by simpa using he) rfl rfl (by simpa using hon) hn hk0 lp hps hcm (by omega) fun wz hz=>?_
       rw [foldRE]
       have HZ:Hid (Below w.heap.size w wz):=Below.up HS.out hz
       generalize (vx r.old).toArray=YO
       generalize (vx r.new).toArray=YN
       clear hz HRK HLa HSS hx lp hps hpx hcm hpv
       go_simp
       go_wp2
       go_roundg (n-(k+1))
       case measure=>omega
       case rel=>exact ⟨k+1,by omega,rfl,by go_num,HZ,HE2⟩
      ·have HE2:Hid (riseB none L=false):=by
        show riseB none L=_
        rw [HE.out];simp [hcm0]
       refine regRD ga oa n cp k r _ _ p cm _ wr rfl rfl rfl hlt HLa.out HSS.out (by simpa using he) rfl rfl (by simpa using hon) hn hk0 lp hps hcm (by omega) fun wz hz=>?_
       rw [foldRD]
       have HZ:Hid (Below w.heap.size w wz):=Below.up HS.out hz
       generalize (vx r.old).toArray=YO
       generalize (vx r.new).toArray=YN
       clear hz HRK HLa HSS hx lp hps hpx hcm hpv
       go_simp
       go_wp2
       go_ret
       exact ⟨by rw [HE2.out];rfl,HZ.out⟩
   ·have HE:Hid (riseB none L=false):=by
     show riseB none L=false
     rw [HRK.out];simp [he]
    refine regRA ga oa n cp k r _ wr rfl rfl rfl hlt HLa.out HSS.out (by simpa using he) fun wz hz=>?_
    rw [foldRA]
    have HZ:Hid (Below w.heap.size w wz):=Below.up HS.out hz
    clear hz HRK HLa HSS hx
    go_simp
    go_wp2
    go_ret
    exact ⟨by rw [HE.out];rfl,HZ.out⟩
  ·obtain rfl:k=n:=by omega
   have i1:¬ ((k:Int)<(k:Int)):=by omega
   have HE:Hid (riseB none L=true):=by
    show riseB none L=true
    rw [HR.out,List.drop_of_length_le (by rw [HN.out];omega)]
    rfl
   go_wp2
   go_ret
   exact ⟨by rw [HE.out];rfl,HS.out⟩
end Go.Proofs.YthfcanpkhjgomaaGreat.Ch
namespace Go.Proofs.YthfcanpkhjgomaaGreat
open Go.RowKit Ch
theorem built91 (p:ByteArray) (v:Vd):Tryz.prog.built 91 [(0,.string p),(1,.agg (vx v).toArray)]=some (ec ⟨p,v,Md.zero⟩):=by
 obtain ⟨z,hz,hl⟩:=hz64
 unfold Program.built
 cases hi:Tryz.prog.info? 91 with
 | none=>rw [hi] at hz;cases hz
 | some it=>
  rw [hi] at hz
  simp only [Option.bind_some] at hz
  simp only [under64,hz,places64]
  show Instr.fill _ (List.toArray _) _=_
  have h0:=jQ Vd.zero
  have h3:=ji Md.zero
  have h1:=jQ v
  have hz0:z.length=40:=by rw [hl];simp [h0,h3]
  rw [Ch.fill_cons _ _ 0 0 1 _ [.string p] _ rfl rfl rfl (by omega),Ch.fill_cons _ _ 1 1 35 _ (vx v) _ rfl rfl h1 (by simp [Ch.over,hz0]),Instr.fill,hl]
  refine congrArg some (congrArg List.toArray ?_)
  have t2:(vx Vd.zero++mx Md.zero).drop 35=mx Md.zero:=by
   rw [List.drop_append_of_le_length (by omega),List.drop_of_length_le (by omega),List.nil_append]
  simp only [Ch.over,h1,List.take_succ_cons,List.take_zero,List.cons_append,List.nil_append,List.drop_succ_cons,List.drop_zero,List.length_cons,List.length_nil,Nat.zero_add,Nat.reduceAdd,t2]
theorem exec_e91 {o:Oper} {a:Act} (x y:Operand) (ho:o.op=.build 91 #[(0,x),(1,y)]) (p:ByteArray) (v:Vd) (X C:Array Value) (hX:X=(vx v).toArray) (hC:ec ⟨p,v,Md.zero⟩=C) (hx:a.eval x=.string p) (hy:a.eval y=.agg X) (w:World):(execOp a.eval o).run Tryz.prog w=.ok (.value (.agg C)) w:=by
 subst hX;subst hC
 unfold execOp
 simp only [ho]
 have hmap:(#[(0,x),(1,y)].map fun (p:Nat × Operand)=>match p with | (i,x)=>(i,a.eval x))=#[(0,.string p),(1,.agg (vx v).toArray)]:=by simp [hx,hy]
 rw [hmap]
 have hb:(Instr.build 91 #[(0,.string p),(1,.agg (vx v).toArray)]).run Tryz.prog w=.ok (.agg (ec ⟨p,v,Md.zero⟩)) w:=run_build w 91 _ _ (built91 p v)
 simp only [Sem.run_bind,hb,Result.andThen_ok,Sem.run_pure]
theorem exec_appE {o:Oper} {a:Act} {s x:Operand} {v src v':Value} {w w':World} (ho:o.op=.call { callee:=.builtin .append,args:=#[s,x],argTypes:=#[86,86] }) (hs:a.eval s=v) (hx:a.eval x=src) (hr:(Builtin.append_ #[86,86] o.type #[v,src]).run Tryz.prog w=.ok v' w'):(execOp a.eval o).run Tryz.prog w=.ok (.value v') w':=by
 unfold execOp
 simp only [ho,resolve,invoke,builtin,Sem.run_bind,Sem.run_pure,Result.andThen_ok,List.map_toArray,List.map_cons,List.map_nil,hs,hx,hr]
noncomputable abbrev o10x7:Array Oper:=opsAt Tryz.f10 7
theorem backA7:backB o10x7=true:=by kernel_rfl
theorem dstA7:dstB o10x7 119=true:=by kernel_rfl
theorem sizeA7:o10x7.size=13:=by kernel_rfl
theorem freeA72:freeB o10x7 2=true:=by kernel_rfl
theorem freeA71:freeB o10x7 1=true:=by kernel_rfl
theorem freeA77:freeB o10x7 7=true:=by kernel_rfl
theorem sA7_0:say o10x7 0=some (some 24,.load 30 (.tmp 2),none):=by kernel_rfl
theorem dA7_0:slotB o10x7 0=some 24:=by kernel_rfl
theorem sA7_1:say o10x7 1=some (some 25,.move (.tmp 1),none):=by kernel_rfl
theorem dA7_1:slotB o10x7 1=some 25:=by kernel_rfl
theorem sA7_2:say o10x7 2=some (some 26,.move (.tmp 7),none):=by kernel_rfl
theorem dA7_2:slotB o10x7 2=some 26:=by kernel_rfl
theorem sA7_3:say o10x7 3=some (some 27,.indexAddr 31 (.tmp 25) (.tmp 26),none):=by kernel_rfl
theorem dA7_3:slotB o10x7 3=some 27:=by kernel_rfl
theorem sA7_4:say o10x7 4=some (some 28,.fieldAddr 66 (.tmp 27) 0,none):=by kernel_rfl
theorem dA7_4:slotB o10x7 4=some 28:=by kernel_rfl
theorem sA7_5:say o10x7 5=some (some 29,.load 9 (.tmp 28),none):=by kernel_rfl
theorem dA7_5:slotB o10x7 5=some 29:=by kernel_rfl
theorem sA7_6:say o10x7 6=some (some 30,.call { callee:=.value (.func 33),args:=#[.tmp 24,.tmp 29],argTypes:=#[30,9] },none):=by kernel_rfl
theorem dA7_6:slotB o10x7 6=some 30:=by kernel_rfl
theorem sA7_7:say o10x7 7=some (some 31,.move (.tmp 1),none):=by kernel_rfl
theorem dA7_7:slotB o10x7 7=some 31:=by kernel_rfl
theorem sA7_8:say o10x7 8=some (some 32,.move (.tmp 7),none):=by kernel_rfl
theorem dA7_8:slotB o10x7 8=some 32:=by kernel_rfl
theorem sA7_9:say o10x7 9=some (some 33,.indexAddr 31 (.tmp 31) (.tmp 32),none):=by kernel_rfl
theorem dA7_9:slotB o10x7 9=some 33:=by kernel_rfl
theorem sA7_10:say o10x7 10=some (some 34,.fieldAddr 66 (.tmp 33) 1,none):=by kernel_rfl
theorem dA7_10:slotB o10x7 10=some 34:=by kernel_rfl
theorem sA7_11:say o10x7 11=some (some 35,.load 24 (.tmp 34),none):=by kernel_rfl
theorem dA7_11:slotB o10x7 11=some 35:=by kernel_rfl
theorem sA7_12:say o10x7 12=some (some 36,.binOp .neq 24 (.tmp 30) (.tmp 35) 24,none):=by kernel_rfl
def VA7 (_B g o n cp k:Nat) (c Y Z:Array Value) (x:Cd) (q:Bool) (_r:Unit):Nat→Value
 | 0=>.agg c
 | 1=>.slice (some ⟨g,o,none⟩) n cp
 | 2=>.int .i64 (k:Int)
 | 3=>.pointer (some ⟨g,o+k*71,none⟩)
 | 4=>.pointer (some ⟨g,o+k*71,none⟩)
 | 5=>.string x.path
 | 6=>.agg Y
 | 7=>.slice (some ⟨g,o,none⟩) n cp
 | 8=>.int .i64 (k:Int)
 | 9=>.pointer (some ⟨g,o+k*71,none⟩)
 | 10=>.pointer (some ⟨g,o+k*71+1,none⟩)
 | 11=>.agg Z
 | 12=>.bool q
 | _=>undef
theorem regA7 (B g o n cp k:Nat) (c Y Z:Array Value) (x:Cd) (q:Bool)  (t0:Array Value) (wr:World) {Q:Exit→Act→World→Prop} (ht:t0.size=119) (h2:t0.getD 2 undef=.pointer (some ⟨B,0,none⟩)) (h1:t0.getD 1 undef=.slice (some ⟨g,o,none⟩) n cp) (h7:t0.getD 7 undef=.int .i64 (k:Int))
  (kI:(k:Int)<(n:Int)) (k0:(0:Int)≤(k:Int)) (lc:Lies wr B 0 c) (sc:c.size=41) (pc:wr.cell? ⟨g,o+k*71,none⟩=some (.string x.path)) (lz:Lies wr g (o+k*71+1) Z) (sZ:Z.size=35) (y z:Vd) (hY:Y=(vx y).toArray) (hZ:Z=(vx z).toArray) (hq:(!decide (y=z))=q)
  (hC:∀ w,Below wr.heap.size wr w→Calls Tryz.prog 33 #[.agg c,.string x.path] w fun e w'=>e=.returned (.agg Y)∧G w w')
  (hQ:∀ (r:Unit) w,Below wr.heap.size wr w→Q .normal ⟨fold o10x7 (VA7 B g o n cp k c Y Z x q r) t0 13,[]⟩ w):(Code.region 7 o10x7 true).wp Tryz.prog Q ⟨t0,[]⟩ wr:=by
 have hB:dstB o10x7 t0.size=true:=by rw [ht];exact dstA7
 refine jk (by kernel_rfl) (IE o10x7 (VA7 B g o n cp k c Y Z x q) t0 ((fun (_:Unit) (_:Nat→Bool) (w:World)=>Below wr.heap.size wr w) )) backA7 ⟨(),t0,rfl,⟨rfl,fun _ _=>rfl,fun _ _ _ _ _ h=>by cases h⟩,Below.drews (Below.refl _ wr) ⟨1,rfl⟩⟩ ?_ ?_
 rotate_left 1
 ·rintro done a w ⟨r,t,rfl,hS,hM⟩ hall
  rw [hS.end hB hall,sizeA7]
  exact hQ r w hM
 ·rintro jz op done a w ho ⟨r,t,rfl,hS,hM⟩ hnd hdep hcl
  have e2:t[2]?.getD undef=.pointer (some ⟨B,0,none⟩):=(hS.old freeA72).trans h2
  have e1:t[1]?.getD undef=.slice (some ⟨g,o,none⟩) n cp:=(hS.old freeA71).trans h1
  have e7:t[7]?.getD undef=.int .i64 (k:Int):=(hS.old freeA77).trans h7
  have hlt:jz<13:=by rw [← sizeA7];exact (Array.getElem?_eq_some_iff.1 ho).1
  match jz,hlt,ho,hnd,hdep with
  | 0,_,ho,hnd,hdep=>
   obtain ⟨hd,hop,hgd⟩:=jC sA7_0 ho
   refine jK r hB ho (jB hgd) hd hS hM ?_
   exact jH (a:=⟨t,[]⟩) _ hop B 0 (by show t.getD 2 undef=_;rw [Array.getD_eq_getD_getElem?];exact e2) c sc (lc.below hM)
  | 1,_,ho,hnd,hdep=>
   obtain ⟨hd,hop,hgd⟩:=jC sA7_1 ho
   refine jK r hB ho (jB hgd) hd hS hM ?_
   unfold execOp
   simp only [hop]
   simp [e1,VA7,go_sem]
  | 2,_,ho,hnd,hdep=>
   obtain ⟨hd,hop,hgd⟩:=jC sA7_2 ho
   refine jK r hB ho (jB hgd) hd hS hM ?_
   unfold execOp
   simp only [hop]
   simp [e7,VA7,go_sem]
  | 3,_,ho,hnd,hdep=>
   obtain ⟨hd,hop,hgd⟩:=jC sA7_3 ho
   have x25:=hS.gt dA7_1 ho hdep
   simp only [VA7] at x25
   have x26:=hS.gt dA7_2 ho hdep
   simp only [VA7] at x26
   refine jK r hB ho (jB hgd) hd hS hM ?_
   unfold execOp
   simp only [hop]
   simp [x25,x26,VA7,kI,k0,Ch.addr_add,go_sem]
  | 4,_,ho,hnd,hdep=>
   obtain ⟨hd,hop,hgd⟩:=jC sA7_4 ho
   have x27:=hS.gt dA7_3 ho hdep
   simp only [VA7] at x27
   refine jK r hB ho (jB hgd) hd hS hM ?_
   unfold execOp
   simp only [hop]
   simp [x27,VA7,Ch.addr_add,go_sem]
  | 5,_,ho,hnd,hdep=>
   obtain ⟨hd,hop,hgd⟩:=jC sA7_5 ho
   have x28:=hS.gt dA7_4 ho hdep
   simp only [VA7] at x28
   have cz:=(hM.cell (World.block_lt_of_cell? wr _ pc)).trans pc
   refine jK r hB ho (jB hgd) hd hS hM ?_
   unfold execOp
   simp only [hop]
   simp [x28,VA7,cz,go_sem]
  | 6,_,ho,hnd,hdep=>
   obtain ⟨hd,hop,hgd⟩:=jC sA7_6 ho
   have x24:=hS.gt dA7_0 ho hdep
   simp only [VA7] at x24
   have x29:=hS.gt dA7_5 ho hdep
   simp only [VA7] at x29
   refine qI r 33 #[.agg c,.string x.path] hB ho (jB hgd) hd hS ?_ ?_
   ·skip
    unfold execOp
    simp only [hop]
    simp [x24,x29,go_sem]
   ·skip
    refine (hC w hM).mono ?_
    rintro e w' ⟨rfl,hg'⟩
    exact ⟨r,rfl,fun _ _=>rfl,hM.trans (hg'.mono hM.size)⟩
  | 7,_,ho,hnd,hdep=>
   obtain ⟨hd,hop,hgd⟩:=jC sA7_7 ho
   refine jK r hB ho (jB hgd) hd hS hM ?_
   unfold execOp
   simp only [hop]
   simp [e1,VA7,go_sem]
  | 8,_,ho,hnd,hdep=>
   obtain ⟨hd,hop,hgd⟩:=jC sA7_8 ho
   refine jK r hB ho (jB hgd) hd hS hM ?_
   unfold execOp
   simp only [hop]
   simp [e7,VA7,go_sem]
  | 9,_,ho,hnd,hdep=>
   obtain ⟨hd,hop,hgd⟩:=jC sA7_9 ho
   have x31:=hS.gt dA7_7 ho hdep
   simp only [VA7] at x31
   have x32:=hS.gt dA7_8 ho hdep
   simp only [VA7] at x32
   refine jK r hB ho (jB hgd) hd hS hM ?_
   unfold execOp
   simp only [hop]
   simp [x31,x32,VA7,kI,k0,Ch.addr_add,go_sem]
  | 10,_,ho,hnd,hdep=>
   obtain ⟨hd,hop,hgd⟩:=jC sA7_10 ho
   have x33:=hS.gt dA7_9 ho hdep
   simp only [VA7] at x33
   refine jK r hB ho (jB hgd) hd hS hM ?_
   unfold execOp
   simp only [hop]
   simp [x33,VA7,Ch.addr_add,go_sem]
  | 11,_,ho,hnd,hdep=>
   obtain ⟨hd,hop,hgd⟩:=jC sA7_11 ho
   have x34:=hS.gt dA7_10 ho hdep
   simp only [VA7] at x34
   refine jK r hB ho (jB hgd) hd hS hM ?_
   exact jE (a:=⟨t,[]⟩) _ hop g (o+k*71+1) (by show t.getD 34 undef=_;rw [Array.getD_eq_getD_getElem?];exact x34) Z sZ (lz.below hM)
  | 12,_,ho,hnd,hdep=>
   obtain ⟨hd,hop,hgd⟩:=jC sA7_12 ho
   have x30:=hS.gt dA7_6 ho hdep
   simp only [VA7] at x30
   have x35:=hS.gt dA7_11 ho hdep
   simp only [VA7] at x35
   refine jK r hB ho (jB hgd) hd hS hM ?_
   exact jd _ _ hop Y Z (by show t.getD 30 undef=_;rw [Array.getD_eq_getD_getElem?];exact x30) (by show t.getD 35 undef=_;rw [Array.getD_eq_getD_getElem?];exact x35) y z hY hZ q hq _
theorem foldA7 (B g o n cp k:Nat) (c Y Z:Array Value) (x:Cd) (q:Bool) (r:Unit) (t0:Array Value):fold o10x7 (VA7 B g o n cp k c Y Z x q r) t0 13=(((((((((((((t0.setIfInBounds 24 (.agg c)).setIfInBounds 25 (.slice (some ⟨g,o,none⟩) n cp)).setIfInBounds 26 (.int .i64 (k:Int))).setIfInBounds 27 (.pointer (some ⟨g,o+k*71,none⟩))).setIfInBounds 28 (.pointer (some ⟨g,o+k*71,none⟩))).setIfInBounds 29 (.string x.path)).setIfInBounds 30 (.agg Y)).setIfInBounds 31 (.slice (some ⟨g,o,none⟩) n cp)).setIfInBounds 32 (.int .i64 (k:Int))).setIfInBounds 33 (.pointer (some ⟨g,o+k*71,none⟩))).setIfInBounds 34 (.pointer (some ⟨g,o+k*71+1,none⟩))).setIfInBounds 35 (.agg Z)).setIfInBounds 36 (.bool q)):=by kernel_rfl
noncomputable abbrev o10x17:Array Oper:=opsAt Tryz.f10 17
theorem backA17:backB o10x17=true:=by kernel_rfl
theorem dstA17:dstB o10x17 119=true:=by kernel_rfl
theorem sizeA17:o10x17.size=12:=by kernel_rfl
theorem freeA176:freeB o10x17 6=true:=by kernel_rfl
theorem freeA179:freeB o10x17 9=true:=by kernel_rfl
theorem freeA171:freeB o10x17 1=true:=by kernel_rfl
theorem freeA1710:freeB o10x17 10=true:=by kernel_rfl
theorem sA17_0:say o10x17 0=some (some 56,.move (.tmp 6),none):=by kernel_rfl
theorem dA17_0:slotB o10x17 0=some 56:=by kernel_rfl
theorem sA17_1:say o10x17 1=some (some 57,.move (.tmp 9),none):=by kernel_rfl
theorem dA17_1:slotB o10x17 1=some 57:=by kernel_rfl
theorem sA17_2:say o10x17 2=some (some 58,.indexAddr 86 (.tmp 56) (.tmp 57),none):=by kernel_rfl
theorem dA17_2:slotB o10x17 2=some 58:=by kernel_rfl
theorem sA17_3:say o10x17 3=some (some 59,.fieldAddr 91 (.tmp 58) 0,none):=by kernel_rfl
theorem dA17_3:slotB o10x17 3=some 59:=by kernel_rfl
theorem sA17_4:say o10x17 4=some (some 60,.load 9 (.tmp 59),none):=by kernel_rfl
theorem dA17_4:slotB o10x17 4=some 60:=by kernel_rfl
theorem sA17_5:say o10x17 5=some (some 61,.move (.tmp 1),none):=by kernel_rfl
theorem dA17_5:slotB o10x17 5=some 61:=by kernel_rfl
theorem sA17_6:say o10x17 6=some (some 62,.move (.tmp 10),none):=by kernel_rfl
theorem dA17_6:slotB o10x17 6=some 62:=by kernel_rfl
theorem sA17_7:say o10x17 7=some (some 63,.indexAddr 31 (.tmp 61) (.tmp 62),none):=by kernel_rfl
theorem dA17_7:slotB o10x17 7=some 63:=by kernel_rfl
theorem sA17_8:say o10x17 8=some (some 64,.fieldAddr 66 (.tmp 63) 0,none):=by kernel_rfl
theorem dA17_8:slotB o10x17 8=some 64:=by kernel_rfl
theorem sA17_9:say o10x17 9=some (some 65,.load 9 (.tmp 64),none):=by kernel_rfl
theorem dA17_9:slotB o10x17 9=some 65:=by kernel_rfl
theorem sA17_10:say o10x17 10=some (some 66,.call { callee:=.value (.func 34),args:=#[.tmp 60,.tmp 65],argTypes:=#[9,9] },none):=by kernel_rfl
theorem dA17_10:slotB o10x17 10=some 66:=by kernel_rfl
theorem sA17_11:say o10x17 11=some (some 11,.assign (.tmp 66),none):=by kernel_rfl
def VA17 (ge ne ce i g o n cp k:Nat) (e:Et) (x:Cd) (q:Int) (_r:Unit):Nat→Value
 | 0=>.slice (some ⟨ge,0,none⟩) ne ce
 | 1=>.int .i64 (i:Int)
 | 2=>.pointer (some ⟨ge,i*40,none⟩)
 | 3=>.pointer (some ⟨ge,i*40,none⟩)
 | 4=>.string e.p
 | 5=>.slice (some ⟨g,o,none⟩) n cp
 | 6=>.int .i64 (k:Int)
 | 7=>.pointer (some ⟨g,o+k*71,none⟩)
 | 8=>.pointer (some ⟨g,o+k*71,none⟩)
 | 9=>.string x.path
 | 10=>.int .i64 q
 | 11=>.int .i64 q
 | _=>undef
theorem regA17 (ge ne ce i g o n cp k:Nat) (e:Et) (x:Cd) (q:Int)  (t0:Array Value) (wr:World) {Q:Exit→Act→World→Prop} (ht:t0.size=119) (h6:t0.getD 6 undef=.slice (some ⟨ge,0,none⟩) ne ce) (h9:t0.getD 9 undef=.int .i64 (i:Int)) (h1:t0.getD 1 undef=.slice (some ⟨g,o,none⟩) n cp) (h10:t0.getD 10 undef=.int .i64 (k:Int))
  (jI:(i:Int)<(ne:Int)) (j0:(0:Int)≤(i:Int)) (pe:wr.cell? ⟨ge,i*40,none⟩=some (.string e.p)) (kI:(k:Int)<(n:Int)) (k0:(0:Int)≤(k:Int)) (pc:wr.cell? ⟨g,o+k*71,none⟩=some (.string x.path)) (sa:e.p.size≤1048576) (sb:x.path.size≤1048576) (hq:cmpL (tl e.p) (tl x.path)=q)
  (hQ:∀ (r:Unit) w,Below wr.heap.size wr w→Q .normal ⟨fold o10x17 (VA17 ge ne ce i g o n cp k e x q r) t0 12,[]⟩ w):(Code.region 17 o10x17 true).wp Tryz.prog Q ⟨t0,[]⟩ wr:=by
 have hB:dstB o10x17 t0.size=true:=by rw [ht];exact dstA17
 refine jk (by kernel_rfl) (IE o10x17 (VA17 ge ne ce i g o n cp k e x q) t0 ((fun (_:Unit) (_:Nat→Bool) (w:World)=>Below wr.heap.size wr w) )) backA17 ⟨(),t0,rfl,⟨rfl,fun _ _=>rfl,fun _ _ _ _ _ h=>by cases h⟩,Below.drews (Below.refl _ wr) ⟨1,rfl⟩⟩ ?_ ?_
 rotate_left 1
 ·rintro done a w ⟨r,t,rfl,hS,hM⟩ hall
  rw [hS.end hB hall,sizeA17]
  exact hQ r w hM
 ·rintro jz op done a w ho ⟨r,t,rfl,hS,hM⟩ hnd hdep hcl
  have e6:t[6]?.getD undef=.slice (some ⟨ge,0,none⟩) ne ce:=(hS.old freeA176).trans h6
  have e9:t[9]?.getD undef=.int .i64 (i:Int):=(hS.old freeA179).trans h9
  have e1:t[1]?.getD undef=.slice (some ⟨g,o,none⟩) n cp:=(hS.old freeA171).trans h1
  have e10:t[10]?.getD undef=.int .i64 (k:Int):=(hS.old freeA1710).trans h10
  have hlt:jz<12:=by rw [← sizeA17];exact (Array.getElem?_eq_some_iff.1 ho).1
  match jz,hlt,ho,hnd,hdep with
  | 0,_,ho,hnd,hdep=>
   obtain ⟨hd,hop,hgd⟩:=jC sA17_0 ho
   refine jK r hB ho (jB hgd) hd hS hM ?_
   unfold execOp
   simp only [hop]
   simp [e6,VA17,go_sem]
  | 1,_,ho,hnd,hdep=>
   obtain ⟨hd,hop,hgd⟩:=jC sA17_1 ho
   refine jK r hB ho (jB hgd) hd hS hM ?_
   unfold execOp
   simp only [hop]
   simp [e9,VA17,go_sem]
  | 2,_,ho,hnd,hdep=>
   obtain ⟨hd,hop,hgd⟩:=jC sA17_2 ho
   have x56:=hS.gt dA17_0 ho hdep
   simp only [VA17] at x56
   have x57:=hS.gt dA17_1 ho hdep
   simp only [VA17] at x57
   refine jK r hB ho (jB hgd) hd hS hM ?_
   unfold execOp
   simp only [hop]
   simp [x56,x57,VA17,jI,j0,Ch.addr_add,go_sem]
  | 3,_,ho,hnd,hdep=>
   obtain ⟨hd,hop,hgd⟩:=jC sA17_3 ho
   have x58:=hS.gt dA17_2 ho hdep
   simp only [VA17] at x58
   refine jK r hB ho (jB hgd) hd hS hM ?_
   unfold execOp
   simp only [hop]
   simp [x58,VA17,Ch.addr_add,go_sem]
  | 4,_,ho,hnd,hdep=>
   obtain ⟨hd,hop,hgd⟩:=jC sA17_4 ho
   have x59:=hS.gt dA17_3 ho hdep
   simp only [VA17] at x59
   have cz:=(hM.cell (World.block_lt_of_cell? wr _ pe)).trans pe
   refine jK r hB ho (jB hgd) hd hS hM ?_
   unfold execOp
   simp only [hop]
   simp [x59,VA17,cz,go_sem]
  | 5,_,ho,hnd,hdep=>
   obtain ⟨hd,hop,hgd⟩:=jC sA17_5 ho
   refine jK r hB ho (jB hgd) hd hS hM ?_
   unfold execOp
   simp only [hop]
   simp [e1,VA17,go_sem]
  | 6,_,ho,hnd,hdep=>
   obtain ⟨hd,hop,hgd⟩:=jC sA17_6 ho
   refine jK r hB ho (jB hgd) hd hS hM ?_
   unfold execOp
   simp only [hop]
   simp [e10,VA17,go_sem]
  | 7,_,ho,hnd,hdep=>
   obtain ⟨hd,hop,hgd⟩:=jC sA17_7 ho
   have x61:=hS.gt dA17_5 ho hdep
   simp only [VA17] at x61
   have x62:=hS.gt dA17_6 ho hdep
   simp only [VA17] at x62
   refine jK r hB ho (jB hgd) hd hS hM ?_
   unfold execOp
   simp only [hop]
   simp [x61,x62,VA17,kI,k0,Ch.addr_add,go_sem]
  | 8,_,ho,hnd,hdep=>
   obtain ⟨hd,hop,hgd⟩:=jC sA17_8 ho
   have x63:=hS.gt dA17_7 ho hdep
   simp only [VA17] at x63
   refine jK r hB ho (jB hgd) hd hS hM ?_
   unfold execOp
   simp only [hop]
   simp [x63,VA17,Ch.addr_add,go_sem]
  | 9,_,ho,hnd,hdep=>
   obtain ⟨hd,hop,hgd⟩:=jC sA17_9 ho
   have x64:=hS.gt dA17_8 ho hdep
   simp only [VA17] at x64
   have cz:=(hM.cell (World.block_lt_of_cell? wr _ pc)).trans pc
   refine jK r hB ho (jB hgd) hd hS hM ?_
   unfold execOp
   simp only [hop]
   simp [x64,VA17,cz,go_sem]
  | 10,_,ho,hnd,hdep=>
   obtain ⟨hd,hop,hgd⟩:=jC sA17_10 ho
   have x60:=hS.gt dA17_4 ho hdep
   simp only [VA17] at x60
   have x65:=hS.gt dA17_9 ho hdep
   simp only [VA17] at x65
   refine qI r 34 #[.string e.p,.string x.path] hB ho (jB hgd) hd hS ?_ ?_
   ·skip
    unfold execOp
    simp only [hop]
    simp [x60,x65,go_sem]
   ·skip
    refine (refCompare_any e.p x.path w sa sb).mono ?_
    rintro e' w2 ⟨rfl,b2⟩
    exact ⟨r,by rw [hq];rfl,fun _ _=>rfl,hM.trans (b2.mono hM.size)⟩
  | 11,_,ho,hnd,hdep=>
   obtain ⟨hd,hop,hgd⟩:=jC sA17_11 ho
   have x66:=hS.gt dA17_10 ho hdep
   simp only [VA17] at x66
   refine jK r hB ho (jB hgd) hd hS hM ?_
   unfold execOp
   simp only [hop]
   simp [x66,VA17,go_sem]
theorem foldA17 (ge ne ce i g o n cp k:Nat) (e:Et) (x:Cd) (q:Int) (r:Unit) (t0:Array Value):fold o10x17 (VA17 ge ne ce i g o n cp k e x q r) t0 12=((((((((((((t0.setIfInBounds 56 (.slice (some ⟨ge,0,none⟩) ne ce)).setIfInBounds 57 (.int .i64 (i:Int))).setIfInBounds 58 (.pointer (some ⟨ge,i*40,none⟩))).setIfInBounds 59 (.pointer (some ⟨ge,i*40,none⟩))).setIfInBounds 60 (.string e.p)).setIfInBounds 61 (.slice (some ⟨g,o,none⟩) n cp)).setIfInBounds 62 (.int .i64 (k:Int))).setIfInBounds 63 (.pointer (some ⟨g,o+k*71,none⟩))).setIfInBounds 64 (.pointer (some ⟨g,o+k*71,none⟩))).setIfInBounds 65 (.string x.path)).setIfInBounds 66 (.int .i64 q)).setIfInBounds 11 (.int .i64 q)):=by kernel_rfl
noncomputable abbrev o10x26:Array Oper:=opsAt Tryz.f10 26
theorem backA26:backB o10x26=true:=by kernel_rfl
theorem dstA26:dstB o10x26 119=true:=by kernel_rfl
theorem sizeA26:o10x26.size=15:=by kernel_rfl
theorem freeA261:freeB o10x26 1=true:=by kernel_rfl
theorem freeA2610:freeB o10x26 10=true:=by kernel_rfl
theorem sA26_0:say o10x26 0=some (some 97,.move (.tmp 8),none):=by kernel_rfl
theorem dA26_0:slotB o10x26 0=some 97:=by kernel_rfl
theorem sA26_1:say o10x26 1=some (some 98,.move (.tmp 1),none):=by kernel_rfl
theorem dA26_1:slotB o10x26 1=some 98:=by kernel_rfl
theorem sA26_2:say o10x26 2=some (some 99,.move (.tmp 10),none):=by kernel_rfl
theorem dA26_2:slotB o10x26 2=some 99:=by kernel_rfl
theorem sA26_3:say o10x26 3=some (some 100,.indexAddr 31 (.tmp 98) (.tmp 99),none):=by kernel_rfl
theorem dA26_3:slotB o10x26 3=some 100:=by kernel_rfl
theorem sA26_4:say o10x26 4=some (some 101,.fieldAddr 66 (.tmp 100) 0,none):=by kernel_rfl
theorem dA26_4:slotB o10x26 4=some 101:=by kernel_rfl
theorem sA26_5:say o10x26 5=some (some 102,.load 9 (.tmp 101),none):=by kernel_rfl
theorem dA26_5:slotB o10x26 5=some 102:=by kernel_rfl
theorem sA26_6:say o10x26 6=some (some 103,.move (.tmp 1),none):=by kernel_rfl
theorem dA26_6:slotB o10x26 6=some 103:=by kernel_rfl
theorem sA26_7:say o10x26 7=some (some 104,.move (.tmp 10),none):=by kernel_rfl
theorem dA26_7:slotB o10x26 7=some 104:=by kernel_rfl
theorem sA26_8:say o10x26 8=some (some 105,.indexAddr 31 (.tmp 103) (.tmp 104),none):=by kernel_rfl
theorem dA26_8:slotB o10x26 8=some 105:=by kernel_rfl
theorem sA26_9:say o10x26 9=some (some 106,.fieldAddr 66 (.tmp 105) 2,none):=by kernel_rfl
theorem dA26_9:slotB o10x26 9=some 106:=by kernel_rfl
theorem sA26_10:say o10x26 10=some (some 107,.load 24 (.tmp 106),none):=by kernel_rfl
theorem dA26_10:slotB o10x26 10=some 107:=by kernel_rfl
theorem sA26_11:say o10x26 11=some (some 108,.build 91 #[(0,.tmp 102),(1,.tmp 107)],none):=by kernel_rfl
theorem dA26_11:slotB o10x26 11=some 108:=by kernel_rfl
theorem sA26_12:say o10x26 12=some (some 109,.buildSlice 86 1 #[(0,.tmp 108)],none):=by kernel_rfl
theorem dA26_12:slotB o10x26 12=some 109:=by kernel_rfl
theorem sA26_13:say o10x26 13=some (some 110,.call { callee:=.builtin .append,args:=#[.tmp 97,.tmp 109],argTypes:=#[86,86] },none):=by kernel_rfl
theorem dA26_13:slotB o10x26 13=some 110:=by kernel_rfl
theorem sA26_14:say o10x26 14=some (some 8,.assign (.tmp 110),none):=by kernel_rfl
theorem dA26_14:slotB o10x26 14=some 8:=by kernel_rfl
def VA26 (g o n cp k:Nat) (x:Cd) (Z C:Array Value) (D:Nat) (v v2:Value) (_r:Unit):Nat→Value
 | 0=>v
 | 1=>.slice (some ⟨g,o,none⟩) n cp
 | 2=>.int .i64 (k:Int)
 | 3=>.pointer (some ⟨g,o+k*71,none⟩)
 | 4=>.pointer (some ⟨g,o+k*71,none⟩)
 | 5=>.string x.path
 | 6=>.slice (some ⟨g,o,none⟩) n cp
 | 7=>.int .i64 (k:Int)
 | 8=>.pointer (some ⟨g,o+k*71,none⟩)
 | 9=>.pointer (some ⟨g,o+k*71+36,none⟩)
 | 10=>.agg Z
 | 11=>.agg C
 | 12=>.slice (some ⟨D,0,none⟩) 1 1
 | 13=>v2
 | 14=>v2
 | _=>undef
theorem regA26 (g o n cp k:Nat) (x:Cd) (Z C:Array Value) (D:Nat) (v v2:Value) (w1 w2:World) (t0:Array Value) (wr:World) {Q:Exit→Act→World→Prop} (ht:t0.size=119) (h8:t0.getD 8 undef=v) (h1:t0.getD 1 undef=.slice (some ⟨g,o,none⟩) n cp) (h10:t0.getD 10 undef=.int .i64 (k:Int))
  (kI:(k:Int)<(n:Int)) (k0:(0:Int)≤(k:Int)) (pc:wr.cell? ⟨g,o+k*71,none⟩=some (.string x.path)) (lz:Lies wr g (o+k*71+36) Z) (sZ:Z.size=35) (z:Vd) (hZ:Z=(vx z).toArray) (hC:ec ⟨x.path,z,Md.zero⟩=C) (sC:C.size=40)
  (hD:wr.drew.heap.size=D) (q1:wr.drew.alloc (.cells C 91)=w1) (hr:(Builtin.append_ #[86,86] 86 #[v,.slice (some ⟨D,0,none⟩) 1 1]).run Tryz.prog w1=.ok v2 w2)
  (hQ:∀ r,Q .normal ⟨fold o10x26 (VA26 g o n cp k x Z C D v v2 r) t0 15,[]⟩ w2):(Code.region 26 o10x26 true).wp Tryz.prog Q ⟨t0,[]⟩ wr:=by
 have hB:dstB o10x26 t0.size=true:=by rw [ht];exact dstA26
 refine jk (by kernel_rfl) (IE o10x26 (VA26 g o n cp k x Z C D v v2) t0 (MAg 12 13 w1 w2 wr)) backA26 ⟨(),t0,rfl,⟨rfl,fun _ _=>rfl,fun _ _ _ _ _ h=>by cases h⟩,(by show _=_;simp)⟩ ?_ ?_
 rotate_left 1
 ·rintro done a w ⟨r,t,rfl,hS,hM⟩ hall
  rw [hS.end hB hall,sizeA26]
  have a1:=hall 13 (by rw [sizeA26];decide)
  have hw:w=w2:=by rw [hM];simp [a1]
  rw [hw]
  exact hQ r
 ·rintro jz op done a w ho ⟨r,t,rfl,hS,hM⟩ hnd hdep hcl
  have e1:t[1]?.getD undef=.slice (some ⟨g,o,none⟩) n cp:=(hS.old freeA261).trans h1
  have e10:t[10]?.getD undef=.int .i64 (k:Int):=(hS.old freeA2610).trans h10
  have hlt:jz<15:=by rw [← sizeA26];exact (Array.getElem?_eq_some_iff.1 ho).1
  match jz,hlt,ho,hnd,hdep with
  | 0,_,ho,hnd,hdep=>
   obtain ⟨hd,hop,hgd⟩:=jC sA26_0 ho
   have yt14:done 14=false:=jM (k:=0) (j:=14) (by kernel_rfl) hcl hnd
   have e8:t[8]?.getD undef=_:=(hS.yet hB dA26_14 yt14).trans h8
   refine jK r hB ho (jB hgd) hd hS (hM.step (by decide) (by decide)) ?_
   unfold execOp
   simp only [hop]
   simp [e8,VA26,go_sem]
  | 1,_,ho,hnd,hdep=>
   obtain ⟨hd,hop,hgd⟩:=jC sA26_1 ho
   refine jK r hB ho (jB hgd) hd hS (hM.step (by decide) (by decide)) ?_
   unfold execOp
   simp only [hop]
   simp [e1,VA26,go_sem]
  | 2,_,ho,hnd,hdep=>
   obtain ⟨hd,hop,hgd⟩:=jC sA26_2 ho
   refine jK r hB ho (jB hgd) hd hS (hM.step (by decide) (by decide)) ?_
   unfold execOp
   simp only [hop]
   simp [e10,VA26,go_sem]
  | 3,_,ho,hnd,hdep=>
   obtain ⟨hd,hop,hgd⟩:=jC sA26_3 ho
   have x98:=hS.gt dA26_1 ho hdep
   simp only [VA26] at x98
   have x99:=hS.gt dA26_2 ho hdep
   simp only [VA26] at x99
   refine jK r hB ho (jB hgd) hd hS (hM.step (by decide) (by decide)) ?_
   unfold execOp
   simp only [hop]
   simp [x98,x99,VA26,kI,k0,Ch.addr_add,go_sem]
  | 4,_,ho,hnd,hdep=>
   obtain ⟨hd,hop,hgd⟩:=jC sA26_4 ho
   have x100:=hS.gt dA26_3 ho hdep
   simp only [VA26] at x100
   refine jK r hB ho (jB hgd) hd hS (hM.step (by decide) (by decide)) ?_
   unfold execOp
   simp only [hop]
   simp [x100,VA26,Ch.addr_add,go_sem]
  | 5,_,ho,hnd,hdep=>
   obtain ⟨hd,hop,hgd⟩:=jC sA26_5 ho
   have x101:=hS.gt dA26_4 ho hdep
   simp only [VA26] at x101
   have ny11:done 11=false:=jM (k:=5) (j:=11) (by kernel_rfl) hcl hnd
   have ny12:done 12=false:=jM (k:=11) (j:=12) (by kernel_rfl) hcl ny11
   have ny13:done 13=false:=jM (k:=12) (j:=13) (by kernel_rfl) hcl ny12
   have hw0:w=wr.drew:=by rw [hM];simp [ny12,ny13]
   subst hw0
   have cz:=(show wr.drew.cell? _=_ from pc)
   refine jK r hB ho (jB hgd) hd hS (hM.step (by decide) (by decide)) ?_
   unfold execOp
   simp only [hop]
   simp [x101,VA26,cz,go_sem]
  | 6,_,ho,hnd,hdep=>
   obtain ⟨hd,hop,hgd⟩:=jC sA26_6 ho
   refine jK r hB ho (jB hgd) hd hS (hM.step (by decide) (by decide)) ?_
   unfold execOp
   simp only [hop]
   simp [e1,VA26,go_sem]
  | 7,_,ho,hnd,hdep=>
   obtain ⟨hd,hop,hgd⟩:=jC sA26_7 ho
   refine jK r hB ho (jB hgd) hd hS (hM.step (by decide) (by decide)) ?_
   unfold execOp
   simp only [hop]
   simp [e10,VA26,go_sem]
  | 8,_,ho,hnd,hdep=>
   obtain ⟨hd,hop,hgd⟩:=jC sA26_8 ho
   have x103:=hS.gt dA26_6 ho hdep
   simp only [VA26] at x103
   have x104:=hS.gt dA26_7 ho hdep
   simp only [VA26] at x104
   refine jK r hB ho (jB hgd) hd hS (hM.step (by decide) (by decide)) ?_
   unfold execOp
   simp only [hop]
   simp [x103,x104,VA26,kI,k0,Ch.addr_add,go_sem]
  | 9,_,ho,hnd,hdep=>
   obtain ⟨hd,hop,hgd⟩:=jC sA26_9 ho
   have x105:=hS.gt dA26_8 ho hdep
   simp only [VA26] at x105
   refine jK r hB ho (jB hgd) hd hS (hM.step (by decide) (by decide)) ?_
   unfold execOp
   simp only [hop]
   simp [x105,VA26,Ch.addr_add,go_sem]
  | 10,_,ho,hnd,hdep=>
   obtain ⟨hd,hop,hgd⟩:=jC sA26_10 ho
   have x106:=hS.gt dA26_9 ho hdep
   simp only [VA26] at x106
   have ny11:done 11=false:=jM (k:=10) (j:=11) (by kernel_rfl) hcl hnd
   have ny12:done 12=false:=jM (k:=11) (j:=12) (by kernel_rfl) hcl ny11
   have ny13:done 13=false:=jM (k:=12) (j:=13) (by kernel_rfl) hcl ny12
   have hw0:w=wr.drew:=by rw [hM];simp [ny12,ny13]
   subst hw0
   refine jK r hB ho (jB hgd) hd hS (hM.step (by decide) (by decide)) ?_
   exact jE (a:=⟨t,[]⟩) _ hop g (o+k*71+36) (by show t.getD 106 undef=_;rw [Array.getD_eq_getD_getElem?];exact x106) Z sZ (lz.below (G.drew wr))
  | 11,_,ho,hnd,hdep=>
   obtain ⟨hd,hop,hgd⟩:=jC sA26_11 ho
   have x102:=hS.gt dA26_5 ho hdep
   simp only [VA26] at x102
   have x107:=hS.gt dA26_10 ho hdep
   simp only [VA26] at x107
   refine jK r hB ho (jB hgd) hd hS (hM.step (by decide) (by decide)) ?_
   exact exec_e91 _ _ hop x.path z Z C hZ hC (by show t.getD 102 undef=_;rw [Array.getD_eq_getD_getElem?];exact x102) (by show t.getD 107 undef=_;rw [Array.getD_eq_getD_getElem?];exact x107) _
  | 12,_,ho,hnd,hdep=>
   obtain ⟨hd,hop,hgd⟩:=jC sA26_12 ho
   have x108:=hS.gt dA26_11 ho hdep
   simp only [VA26] at x108
   have ny13:done 13=false:=jM (k:=12) (j:=13) (by kernel_rfl) hcl hnd
   have hw0:w=wr.drew:=by rw [hM];simp [hnd,ny13]
   subst hw0
   refine jK (w':=w1) r hB ho (jB hgd) hd hS (by show _=_;simp [upd,ny13]) ?_
   rw [← q1]
   exact exec_slice64 _ hop C (by show t.getD 108 undef=_;rw [Array.getD_eq_getD_getElem?];exact x108) sC _ D hD
  | 13,_,ho,hnd,hdep=>
   obtain ⟨hd,hop,hgd⟩:=jC sA26_13 ho
   have x97:=hS.gt dA26_0 ho hdep
   simp only [VA26] at x97
   have x109:=hS.gt dA26_12 ho hdep
   simp only [VA26] at x109
   have a12:done 12=true:=waits (j:=12) (by kernel_rfl) ho hdep
   have hw0:w=w1:=by rw [hM];simp [hnd,a12]
   subst hw0
   refine jK (w':=w2) r hB ho (jB hgd) hd hS (by show _=_;simp [upd]) ?_
   have ht2:op.type=86:=by have:=congrArg (·.map (·.type)) ho;simpa using this.symm.trans (show _=some 86 from by kernel_rfl)
   exact exec_appE (a:=⟨t,[]⟩) (v:=v) (src:=.slice (some ⟨D,0,none⟩) 1 1) (v':=v2) hop (by show t.getD 97 undef=_;rw [Array.getD_eq_getD_getElem?];exact x97) (by show t.getD 109 undef=_;rw [Array.getD_eq_getD_getElem?];exact x109) (by rw [ht2];exact hr)
  | 14,_,ho,hnd,hdep=>
   obtain ⟨hd,hop,hgd⟩:=jC sA26_14 ho
   have x110:=hS.gt dA26_13 ho hdep
   simp only [VA26] at x110
   refine jK r hB ho (jB hgd) hd hS (hM.step (by decide) (by decide)) ?_
   unfold execOp
   simp only [hop]
   simp [x110,VA26,go_sem]
theorem foldA26 (g o n cp k:Nat) (x:Cd) (Z C:Array Value) (D:Nat) (v v2:Value) (r:Unit) (t0:Array Value):fold o10x26 (VA26 g o n cp k x Z C D v v2 r) t0 15=(((((((((((((((t0.setIfInBounds 97 (v)).setIfInBounds 98 (.slice (some ⟨g,o,none⟩) n cp)).setIfInBounds 99 (.int .i64 (k:Int))).setIfInBounds 100 (.pointer (some ⟨g,o+k*71,none⟩))).setIfInBounds 101 (.pointer (some ⟨g,o+k*71,none⟩))).setIfInBounds 102 (.string x.path)).setIfInBounds 103 (.slice (some ⟨g,o,none⟩) n cp)).setIfInBounds 104 (.int .i64 (k:Int))).setIfInBounds 105 (.pointer (some ⟨g,o+k*71,none⟩))).setIfInBounds 106 (.pointer (some ⟨g,o+k*71+36,none⟩))).setIfInBounds 107 (.agg Z)).setIfInBounds 108 (.agg C)).setIfInBounds 109 (.slice (some ⟨D,0,none⟩) 1 1)).setIfInBounds 110 (v2)).setIfInBounds 8 (v2)):=by kernel_rfl
end Go.Proofs.YthfcanpkhjgomaaGreat
