import Derived.Test.YthfcanpkhjgomaaGreatTSide2
set_option maxRecDepth 100000
set_option maxHeartbeats 8000000
namespace Go.Proofs.YthfcanpkhjgomaaGreat.Th
open Go.RowKit Ch
theorem backUX:backB (opsAt Tryz.f23 8)=true:=by kernel_rfl
theorem dstUX:dstB (opsAt Tryz.f23 8) 77=true:=by kernel_rfl
theorem sizeUX:(opsAt Tryz.f23 8).size=7:=by kernel_rfl
theorem freeUX6:freeB (opsAt Tryz.f23 8) 6=true:=by kernel_rfl
theorem freeUX7:freeB (opsAt Tryz.f23 8) 7=true:=by kernel_rfl
def VUX (g o B:Nat) (v v2:Value) (Z:Array Value):Nat→Value
 | 0=>v
 | 1=>.pointer (some ⟨g,o,none⟩)
 | 2=>.pointer (some ⟨g,o,none⟩)
 | 3=>.agg Z
 | 4=>.slice (some ⟨B,0,none⟩) 1 1
 | 5=>v2
 | 6=>undef
 | _=>undef
theorem sUX_0:say (opsAt Tryz.f23 8) 0=some (some 25,.load 31 (.tmp 6),none):=by kernel_rfl
theorem dUX_0:slotB (opsAt Tryz.f23 8) 0=some 25:=by kernel_rfl
theorem sUX_1:say (opsAt Tryz.f23 8) 1=some (some 26,.move (.tmp 7),none):=by kernel_rfl
theorem dUX_1:slotB (opsAt Tryz.f23 8) 1=some 26:=by kernel_rfl
theorem sUX_2:say (opsAt Tryz.f23 8) 2=some (some 27,.nilCheck (.tmp 26),none):=by kernel_rfl
theorem dUX_2:slotB (opsAt Tryz.f23 8) 2=some 27:=by kernel_rfl
theorem sUX_3:say (opsAt Tryz.f23 8) 3=some (some 28,.load 66 (.tmp 27),none):=by kernel_rfl
theorem dUX_3:slotB (opsAt Tryz.f23 8) 3=some 28:=by kernel_rfl
theorem sUX_4:say (opsAt Tryz.f23 8) 4=some (some 29,.buildSlice 31 1 #[(0,.tmp 28)],none):=by kernel_rfl
theorem dUX_4:slotB (opsAt Tryz.f23 8) 4=some 29:=by kernel_rfl
theorem sUX_5:say (opsAt Tryz.f23 8) 5=some (some 30,.call { callee:=.builtin .append,args:=#[.tmp 25,.tmp 29],argTypes:=#[31,31] },none):=by kernel_rfl
theorem dUX_5:slotB (opsAt Tryz.f23 8) 5=some 30:=by kernel_rfl
theorem sUX_6:say (opsAt Tryz.f23 8) 6=some (none,.store 31 (.tmp 6) (.tmp 30),none):=by kernel_rfl
theorem regUX (g o B:Nat) (v v2:Value) (Z:Array Value) (l nn T6:Nat) (wB wC wD:World) (t0:Array Value) (wr:World) {Q:Exit→Act→World→Prop} (ht:t0.size=77) (h6:t0.getD 6 undef=.pointer (some ⟨T6,0,none⟩)) (h7:t0.getD 7 undef=.pointer (some ⟨g,o,none⟩))
  (c0:wr.drew.cell? ⟨T6,0,none⟩=some v) (lz:Lies wr.drew g o Z) (sZ:Z.size=71) (hwB:wr.drew.alloc (.cells Z 66)=wB) (hB0:wr.drew.heap.size=B) (cB:wB.cell? ⟨T6,0,none⟩=some v) (hA:(Builtin.append_ #[31,31] 31 #[v,.slice (some ⟨B,0,none⟩) 1 1]).run Tryz.prog wB=.ok v2 wC) (hv2:∃ p a b,v2=.slice p a b) (cC:wC.cell? ⟨T6,0,none⟩=some v) (fC:wC.frozen? ⟨T6,0,none⟩=false) (hwD:wC.setCell ⟨T6,0,none⟩ v2=wD)
  (hQ:Q .normal ⟨fold (opsAt Tryz.f23 8) (VUX g o B v v2 Z) t0 7,[]⟩ wD):(Code.region 8 (opsAt Tryz.f23 8) true).wpIn (Fence.wide.inRound l) nn Tryz.prog Q ⟨t0,[]⟩ wr:=by
 have hB:dstB (opsAt Tryz.f23 8) t0.size=true:=by rw [ht];exact dstUX
 refine inv_regionIn (by kernel_rfl) (IV (opsAt Tryz.f23 8) (VUX g o B v v2 Z) t0 (fun done w=>w=(if done 6=true then wD else (if done 5=true then wC else (if done 4=true then wB else wr.drew))))) backUX ⟨t0,rfl,⟨rfl,fun _ _=>rfl,fun _ _ _ _ _ h=>by cases h⟩,by simp⟩ ?_ ?_
 rotate_left 1
 ·rintro done a w ⟨t,rfl,hS,hw⟩ hall
  rw [hS.end hB hall,sizeUX]
  rw [hall 6 (by rw [sizeUX];decide),if_pos rfl] at hw
  rw [hw]
  exact hQ
 ·rintro jz op done a w ho ⟨t,rfl,hS,hw⟩ hnd hdep hcl
  have e6:t[6]?.getD undef=.pointer (some ⟨T6,0,none⟩):=(hS.old freeUX6).trans h6
  have e7:t[7]?.getD undef=.pointer (some ⟨g,o,none⟩):=(hS.old freeUX7).trans h7
  have hlt:jz<7:=by rw [← sizeUX];exact (Array.getElem?_eq_some_iff.1 ho).1
  match jz,hlt,ho,hnd,hdep with
  | 0,_,ho,hnd,hdep=>
   obtain ⟨hd,hop,hgd⟩:=say_of sUX_0 ho
   have ny5:done 5=false:=not_yet (k:=0) (j:=5) (by kernel_rfl) hcl hnd
   have ny6:done 6=false:=not_yet (k:=5) (j:=6) (by kernel_rfl) hcl ny5
   refine iv_valI (fun _=>trivial) hB ho (wanted_none hgd) hd hS (by intro c;rw [hop];intro h;cases h) (by simpa [upd] using hw) ?_
   have c6:w.cell? ⟨T6,0,none⟩=some v:=by rw [hw];by_cases h4:done 4=true<;>simp [h4,ny5,ny6,c0,cB]
   unfold execOp
   simp only [hop]
   simp [e6,c6,VUX,go_sem]
  | 1,_,ho,hnd,hdep=>
   obtain ⟨hd,hop,hgd⟩:=say_of sUX_1 ho
   refine iv_valI (fun _=>trivial) hB ho (wanted_none hgd) hd hS (by intro c;rw [hop];intro h;cases h) (by simpa [upd] using hw) ?_
   unfold execOp
   simp only [hop]
   simp [e7,VUX,go_sem]
  | 2,_,ho,hnd,hdep=>
   obtain ⟨hd,hop,hgd⟩:=say_of sUX_2 ho
   have x26:t[26]?.getD undef=_:=hS.at dUX_1 (waits (j:=1) (by kernel_rfl) ho hdep)
   simp only [VUX] at x26
   refine iv_valI (fun _=>trivial) hB ho (wanted_none hgd) hd hS (by intro c;rw [hop];intro h;cases h) (by simpa [upd] using hw) ?_
   unfold execOp
   simp only [hop]
   simp [x26,VUX,go_sem]
  | 3,_,ho,hnd,hdep=>
   obtain ⟨hd,hop,hgd⟩:=say_of sUX_3 ho
   have x27:t[27]?.getD undef=_:=hS.at dUX_2 (waits (j:=2) (by kernel_rfl) ho hdep)
   simp only [VUX] at x27
   have ny4:done 4=false:=not_yet (k:=3) (j:=4) (by kernel_rfl) hcl hnd
   have ny5:done 5=false:=not_yet (k:=4) (j:=5) (by kernel_rfl) hcl ny4
   have ny6:done 6=false:=not_yet (k:=5) (j:=6) (by kernel_rfl) hcl ny5
   have hw0:w=wr.drew:=by rw [hw];simp [ny4,ny5,ny6]
   refine iv_valI (fun _=>trivial) hB ho (wanted_none hgd) hd hS (by intro c;rw [hop];intro h;cases h) (by simpa [upd] using hw) ?_
   exact exec_load (a:=⟨t,[]⟩) 66 _ hop g o (by show t.getD 27 undef=_;rw [Array.getD_eq_getD_getElem?];exact x27) Z _ (by rw [hw0];exact lz) under55 rfl (by rw [size55,sZ])
  | 4,_,ho,hnd,hdep=>
   obtain ⟨hd,hop,hgd⟩:=say_of sUX_4 ho
   have x28:t[28]?.getD undef=_:=hS.at dUX_3 (waits (j:=3) (by kernel_rfl) ho hdep)
   simp only [VUX] at x28
   have ny5:done 5=false:=not_yet (k:=4) (j:=5) (by kernel_rfl) hcl hnd
   have ny6:done 6=false:=not_yet (k:=5) (j:=6) (by kernel_rfl) hcl ny5
   have hw0:w=wr.drew:=by rw [hw];simp [hnd,ny5,ny6]
   subst hw0
   refine iv_valI (fun _=>trivial) (w':=wB) hB ho (wanted_none hgd) hd hS (by intro c;rw [hop];intro h;cases h) (by simp [upd,ny5,ny6]) ?_
   rw [← hwB]
   exact exec_slice55 (a:=⟨t,[]⟩) _ hop Z (by show t.getD 28 undef=_;rw [Array.getD_eq_getD_getElem?];exact x28) sZ _ B hB0
  | 5,_,ho,hnd,hdep=>
   obtain ⟨hd,hop,hgd⟩:=say_of sUX_5 ho
   have x25:t[25]?.getD undef=_:=hS.at dUX_0 (waits (j:=0) (by kernel_rfl) ho hdep)
   simp only [VUX] at x25
   have x29:t[29]?.getD undef=_:=hS.at dUX_4 (waits (j:=4) (by kernel_rfl) ho hdep)
   simp only [VUX] at x29
   have ny6:done 6=false:=not_yet (k:=5) (j:=6) (by kernel_rfl) hcl hnd
   have yes:done 4=true:=waits (j:=4) (by kernel_rfl) ho hdep
   have hw0:w=wB:=by rw [hw];simp [hnd,ny6,yes]
   subst hw0
   refine iv_valI (fun _=>trivial) (w':=wC) hB ho (wanted_none hgd) hd hS (by intro c;rw [hop];intro h;cases h) (by simp [upd,ny6]) ?_
   refine exec_app (a:=⟨t,[]⟩) (v:=v) (src:=.slice (some ⟨B,0,none⟩) 1 1) hop (by show t.getD 25 undef=_;rw [Array.getD_eq_getD_getElem?];exact x25) (by show t.getD 29 undef=_;rw [Array.getD_eq_getD_getElem?];exact x29) ?_
   rw [show op.type=31 from by have:=congrArg (·.map (·.type)) ho;simpa using this.symm.trans (show _=some 31 from by kernel_rfl)]
   exact hA
  | 6,_,ho,hnd,hdep=>
   obtain ⟨hd,hop,hgd⟩:=say_of sUX_6 ho
   have x30:t[30]?.getD undef=_:=hS.at dUX_5 (waits (j:=5) (by kernel_rfl) ho hdep)
   simp only [VUX] at x30
   have yes:done 5=true:=waits (j:=5) (by kernel_rfl) ho hdep
   have hw0:w=wC:=by rw [hw];simp [hnd,yes]
   subst hw0
   refine iv_storeI (fun _=>trivial) (w':=wD) ho (wanted_none hgd) hd hS (by intro c;rw [hop];intro h;cases h) (by simp [upd]) ?_
   obtain ⟨sp,sa,sb,rfl⟩:=hv2
   unfold execOp
   simp only [hop]
   simp [e6,x30,cC,fC,hwD,go_sem]
theorem backUY:backB (opsAt Tryz.f23 10)=true:=by kernel_rfl
theorem dstUY:dstB (opsAt Tryz.f23 10) 77=true:=by kernel_rfl
theorem sizeUY:(opsAt Tryz.f23 10).size=7:=by kernel_rfl
theorem freeUY6:freeB (opsAt Tryz.f23 10) 6=true:=by kernel_rfl
theorem freeUY8:freeB (opsAt Tryz.f23 10) 8=true:=by kernel_rfl
def VUY (g o B:Nat) (v v2:Value) (Z:Array Value):Nat→Value
 | 0=>v
 | 1=>.pointer (some ⟨g,o,none⟩)
 | 2=>.pointer (some ⟨g,o,none⟩)
 | 3=>.agg Z
 | 4=>.slice (some ⟨B,0,none⟩) 1 1
 | 5=>v2
 | 6=>undef
 | _=>undef
theorem sUY_0:say (opsAt Tryz.f23 10) 0=some (some 34,.load 31 (.tmp 6),none):=by kernel_rfl
theorem dUY_0:slotB (opsAt Tryz.f23 10) 0=some 34:=by kernel_rfl
theorem sUY_1:say (opsAt Tryz.f23 10) 1=some (some 35,.move (.tmp 8),none):=by kernel_rfl
theorem dUY_1:slotB (opsAt Tryz.f23 10) 1=some 35:=by kernel_rfl
theorem sUY_2:say (opsAt Tryz.f23 10) 2=some (some 36,.nilCheck (.tmp 35),none):=by kernel_rfl
theorem dUY_2:slotB (opsAt Tryz.f23 10) 2=some 36:=by kernel_rfl
theorem sUY_3:say (opsAt Tryz.f23 10) 3=some (some 37,.load 66 (.tmp 36),none):=by kernel_rfl
theorem dUY_3:slotB (opsAt Tryz.f23 10) 3=some 37:=by kernel_rfl
theorem sUY_4:say (opsAt Tryz.f23 10) 4=some (some 38,.buildSlice 31 1 #[(0,.tmp 37)],none):=by kernel_rfl
theorem dUY_4:slotB (opsAt Tryz.f23 10) 4=some 38:=by kernel_rfl
theorem sUY_5:say (opsAt Tryz.f23 10) 5=some (some 39,.call { callee:=.builtin .append,args:=#[.tmp 34,.tmp 38],argTypes:=#[31,31] },none):=by kernel_rfl
theorem dUY_5:slotB (opsAt Tryz.f23 10) 5=some 39:=by kernel_rfl
theorem sUY_6:say (opsAt Tryz.f23 10) 6=some (none,.store 31 (.tmp 6) (.tmp 39),none):=by kernel_rfl
theorem regUY (g o B:Nat) (v v2:Value) (Z:Array Value) (l nn T6:Nat) (wB wC wD:World) (t0:Array Value) (wr:World) {Q:Exit→Act→World→Prop} (ht:t0.size=77) (h6:t0.getD 6 undef=.pointer (some ⟨T6,0,none⟩)) (h8:t0.getD 8 undef=.pointer (some ⟨g,o,none⟩))
  (c0:wr.drew.cell? ⟨T6,0,none⟩=some v) (lz:Lies wr.drew g o Z) (sZ:Z.size=71) (hwB:wr.drew.alloc (.cells Z 66)=wB) (hB0:wr.drew.heap.size=B) (cB:wB.cell? ⟨T6,0,none⟩=some v) (hA:(Builtin.append_ #[31,31] 31 #[v,.slice (some ⟨B,0,none⟩) 1 1]).run Tryz.prog wB=.ok v2 wC) (hv2:∃ p a b,v2=.slice p a b) (cC:wC.cell? ⟨T6,0,none⟩=some v) (fC:wC.frozen? ⟨T6,0,none⟩=false) (hwD:wC.setCell ⟨T6,0,none⟩ v2=wD)
  (hQ:Q .normal ⟨fold (opsAt Tryz.f23 10) (VUY g o B v v2 Z) t0 7,[]⟩ wD):(Code.region 10 (opsAt Tryz.f23 10) true).wpIn (Fence.wide.inRound l) nn Tryz.prog Q ⟨t0,[]⟩ wr:=by
 have hB:dstB (opsAt Tryz.f23 10) t0.size=true:=by rw [ht];exact dstUY
 refine inv_regionIn (by kernel_rfl) (IV (opsAt Tryz.f23 10) (VUY g o B v v2 Z) t0 (fun done w=>w=(if done 6=true then wD else (if done 5=true then wC else (if done 4=true then wB else wr.drew))))) backUY ⟨t0,rfl,⟨rfl,fun _ _=>rfl,fun _ _ _ _ _ h=>by cases h⟩,by simp⟩ ?_ ?_
 rotate_left 1
 ·rintro done a w ⟨t,rfl,hS,hw⟩ hall
  rw [hS.end hB hall,sizeUY]
  rw [hall 6 (by rw [sizeUY];decide),if_pos rfl] at hw
  rw [hw]
  exact hQ
 ·rintro jz op done a w ho ⟨t,rfl,hS,hw⟩ hnd hdep hcl
  have e6:t[6]?.getD undef=.pointer (some ⟨T6,0,none⟩):=(hS.old freeUY6).trans h6
  have e8:t[8]?.getD undef=.pointer (some ⟨g,o,none⟩):=(hS.old freeUY8).trans h8
  have hlt:jz<7:=by rw [← sizeUY];exact (Array.getElem?_eq_some_iff.1 ho).1
  match jz,hlt,ho,hnd,hdep with
  | 0,_,ho,hnd,hdep=>
   obtain ⟨hd,hop,hgd⟩:=say_of sUY_0 ho
   have ny5:done 5=false:=not_yet (k:=0) (j:=5) (by kernel_rfl) hcl hnd
   have ny6:done 6=false:=not_yet (k:=5) (j:=6) (by kernel_rfl) hcl ny5
   refine iv_valI (fun _=>trivial) hB ho (wanted_none hgd) hd hS (by intro c;rw [hop];intro h;cases h) (by simpa [upd] using hw) ?_
   have c6:w.cell? ⟨T6,0,none⟩=some v:=by rw [hw];by_cases h4:done 4=true<;>simp [h4,ny5,ny6,c0,cB]
   unfold execOp
   simp only [hop]
   simp [e6,c6,VUY,go_sem]
  | 1,_,ho,hnd,hdep=>
   obtain ⟨hd,hop,hgd⟩:=say_of sUY_1 ho
   refine iv_valI (fun _=>trivial) hB ho (wanted_none hgd) hd hS (by intro c;rw [hop];intro h;cases h) (by simpa [upd] using hw) ?_
   unfold execOp
   simp only [hop]
   simp [e8,VUY,go_sem]
  | 2,_,ho,hnd,hdep=>
   obtain ⟨hd,hop,hgd⟩:=say_of sUY_2 ho
   have x35:t[35]?.getD undef=_:=hS.at dUY_1 (waits (j:=1) (by kernel_rfl) ho hdep)
   simp only [VUY] at x35
   refine iv_valI (fun _=>trivial) hB ho (wanted_none hgd) hd hS (by intro c;rw [hop];intro h;cases h) (by simpa [upd] using hw) ?_
   unfold execOp
   simp only [hop]
   simp [x35,VUY,go_sem]
  | 3,_,ho,hnd,hdep=>
   obtain ⟨hd,hop,hgd⟩:=say_of sUY_3 ho
   have x36:t[36]?.getD undef=_:=hS.at dUY_2 (waits (j:=2) (by kernel_rfl) ho hdep)
   simp only [VUY] at x36
   have ny4:done 4=false:=not_yet (k:=3) (j:=4) (by kernel_rfl) hcl hnd
   have ny5:done 5=false:=not_yet (k:=4) (j:=5) (by kernel_rfl) hcl ny4
   have ny6:done 6=false:=not_yet (k:=5) (j:=6) (by kernel_rfl) hcl ny5
   have hw0:w=wr.drew:=by rw [hw];simp [ny4,ny5,ny6]
   refine iv_valI (fun _=>trivial) hB ho (wanted_none hgd) hd hS (by intro c;rw [hop];intro h;cases h) (by simpa [upd] using hw) ?_
   exact exec_load (a:=⟨t,[]⟩) 66 _ hop g o (by show t.getD 36 undef=_;rw [Array.getD_eq_getD_getElem?];exact x36) Z _ (by rw [hw0];exact lz) under55 rfl (by rw [size55,sZ])
  | 4,_,ho,hnd,hdep=>
   obtain ⟨hd,hop,hgd⟩:=say_of sUY_4 ho
   have x37:t[37]?.getD undef=_:=hS.at dUY_3 (waits (j:=3) (by kernel_rfl) ho hdep)
   simp only [VUY] at x37
   have ny5:done 5=false:=not_yet (k:=4) (j:=5) (by kernel_rfl) hcl hnd
   have ny6:done 6=false:=not_yet (k:=5) (j:=6) (by kernel_rfl) hcl ny5
   have hw0:w=wr.drew:=by rw [hw];simp [hnd,ny5,ny6]
   subst hw0
   refine iv_valI (fun _=>trivial) (w':=wB) hB ho (wanted_none hgd) hd hS (by intro c;rw [hop];intro h;cases h) (by simp [upd,ny5,ny6]) ?_
   rw [← hwB]
   exact exec_slice55 (a:=⟨t,[]⟩) _ hop Z (by show t.getD 37 undef=_;rw [Array.getD_eq_getD_getElem?];exact x37) sZ _ B hB0
  | 5,_,ho,hnd,hdep=>
   obtain ⟨hd,hop,hgd⟩:=say_of sUY_5 ho
   have x34:t[34]?.getD undef=_:=hS.at dUY_0 (waits (j:=0) (by kernel_rfl) ho hdep)
   simp only [VUY] at x34
   have x38:t[38]?.getD undef=_:=hS.at dUY_4 (waits (j:=4) (by kernel_rfl) ho hdep)
   simp only [VUY] at x38
   have ny6:done 6=false:=not_yet (k:=5) (j:=6) (by kernel_rfl) hcl hnd
   have yes:done 4=true:=waits (j:=4) (by kernel_rfl) ho hdep
   have hw0:w=wB:=by rw [hw];simp [hnd,ny6,yes]
   subst hw0
   refine iv_valI (fun _=>trivial) (w':=wC) hB ho (wanted_none hgd) hd hS (by intro c;rw [hop];intro h;cases h) (by simp [upd,ny6]) ?_
   refine exec_app (a:=⟨t,[]⟩) (v:=v) (src:=.slice (some ⟨B,0,none⟩) 1 1) hop (by show t.getD 34 undef=_;rw [Array.getD_eq_getD_getElem?];exact x34) (by show t.getD 38 undef=_;rw [Array.getD_eq_getD_getElem?];exact x38) ?_
   rw [show op.type=31 from by have:=congrArg (·.map (·.type)) ho;simpa using this.symm.trans (show _=some 31 from by kernel_rfl)]
   exact hA
  | 6,_,ho,hnd,hdep=>
   obtain ⟨hd,hop,hgd⟩:=say_of sUY_6 ho
   have x39:t[39]?.getD undef=_:=hS.at dUY_5 (waits (j:=5) (by kernel_rfl) ho hdep)
   simp only [VUY] at x39
   have yes:done 5=true:=waits (j:=5) (by kernel_rfl) ho hdep
   have hw0:w=wC:=by rw [hw];simp [hnd,yes]
   subst hw0
   refine iv_storeI (fun _=>trivial) (w':=wD) ho (wanted_none hgd) hd hS (by intro c;rw [hop];intro h;cases h) (by simp [upd]) ?_
   obtain ⟨sp,sa,sb,rfl⟩:=hv2
   unfold execOp
   simp only [hop]
   simp [e6,x39,cC,fC,hwD,go_sem]
theorem backUN:backB (opsAt Tryz.f23 11)=true:=by kernel_rfl
theorem dstUN:dstB (opsAt Tryz.f23 11) 77=true:=by kernel_rfl
theorem sizeUN:(opsAt Tryz.f23 11).size=10:=by kernel_rfl
theorem freeUN7:freeB (opsAt Tryz.f23 11) 7=true:=by kernel_rfl
theorem freeUN8:freeB (opsAt Tryz.f23 11) 8=true:=by kernel_rfl
theorem sUN_0:say (opsAt Tryz.f23 11) 0=some (some 41,.move (.tmp 7),none):=by kernel_rfl
theorem dUN_0:slotB (opsAt Tryz.f23 11) 0=some 41:=by kernel_rfl
theorem sUN_1:say (opsAt Tryz.f23 11) 1=some (some 42,.nilCheck (.tmp 41),none):=by kernel_rfl
theorem dUN_1:slotB (opsAt Tryz.f23 11) 1=some 42:=by kernel_rfl
theorem sUN_2:say (opsAt Tryz.f23 11) 2=some (some 43,.fieldAddr 66 (.tmp 42) 2,none):=by kernel_rfl
theorem dUN_2:slotB (opsAt Tryz.f23 11) 2=some 43:=by kernel_rfl
theorem sUN_3:say (opsAt Tryz.f23 11) 3=some (some 44,.load 24 (.tmp 43),none):=by kernel_rfl
theorem dUN_3:slotB (opsAt Tryz.f23 11) 3=some 44:=by kernel_rfl
theorem sUN_4:say (opsAt Tryz.f23 11) 4=some (some 45,.move (.tmp 8),none):=by kernel_rfl
theorem dUN_4:slotB (opsAt Tryz.f23 11) 4=some 45:=by kernel_rfl
theorem sUN_5:say (opsAt Tryz.f23 11) 5=some (some 46,.nilCheck (.tmp 45),none):=by kernel_rfl
theorem dUN_5:slotB (opsAt Tryz.f23 11) 5=some 46:=by kernel_rfl
theorem sUN_6:say (opsAt Tryz.f23 11) 6=some (some 47,.fieldAddr 66 (.tmp 46) 1,none):=by kernel_rfl
theorem dUN_6:slotB (opsAt Tryz.f23 11) 6=some 47:=by kernel_rfl
theorem sUN_7:say (opsAt Tryz.f23 11) 7=some (some 48,.load 24 (.tmp 47),none):=by kernel_rfl
theorem dUN_7:slotB (opsAt Tryz.f23 11) 7=some 48:=by kernel_rfl
theorem sUN_8:say (opsAt Tryz.f23 11) 8=some (some 49,.binOp .neq 24 (.tmp 44) (.tmp 48) 24,none):=by kernel_rfl
theorem dUN_8:slotB (opsAt Tryz.f23 11) 8=some 49:=by kernel_rfl
theorem sUN_9:say (opsAt Tryz.f23 11) 9=some (some 40,.assign (.tmp 49),none):=by kernel_rfl
def VUN (ga oa gb ob:Nat) (YA YB:Array Value) (b:Bool):Nat→Value
 | 0=>.pointer (some ⟨ga,oa,none⟩)
 | 1=>.pointer (some ⟨ga,oa,none⟩)
 | 2=>.pointer (some ⟨ga,oa+36,none⟩)
 | 3=>.agg YA
 | 4=>.pointer (some ⟨gb,ob,none⟩)
 | 5=>.pointer (some ⟨gb,ob,none⟩)
 | 6=>.pointer (some ⟨gb,ob+1,none⟩)
 | 7=>.agg YB
 | 8=>.bool b
 | 9=>.bool b
 | _=>undef
theorem regUN (ga oa gb ob:Nat) (YA YB:Array Value) (b:Bool) (l nn:Nat) (t0:Array Value) (wr:World) {Q:Exit→Act→World→Prop} (ht:t0.size=77) (h7:t0.getD 7 undef=.pointer (some ⟨ga,oa,none⟩)) (h8:t0.getD 8 undef=.pointer (some ⟨gb,ob,none⟩))
  (p q:Vd) (hp:YA=(vx p).toArray) (hq:YB=(vx q).toArray) (hb:(!decide (p=q))=b) (lA:Lies wr ga (oa+36) YA) (lB:Lies wr gb (ob+1) YB)
  (hQ:∀ w,Drew wr w→Q .normal ⟨fold (opsAt Tryz.f23 11) (VUN ga oa gb ob YA YB b) t0 10,[]⟩ w):(Code.region 11 (opsAt Tryz.f23 11) true).wpIn (Fence.wide.inRound l) nn Tryz.prog Q ⟨t0,[]⟩ wr:=by
 have hB:dstB (opsAt Tryz.f23 11) t0.size=true:=by rw [ht];exact dstUN
 have sA:YA.size=35:=by rw [hp];simp [vx_len]
 have sB:YB.size=35:=by rw [hq];simp [vx_len]
 have h0M:Drew wr wr.drew:=⟨1,rfl⟩
 refine inv_regionIn (by kernel_rfl) (IV (opsAt Tryz.f23 11) (VUN ga oa gb ob YA YB b) t0 (fun _ w=>Drew wr w)) backUN ⟨t0,rfl,⟨rfl,fun _ _=>rfl,fun _ _ _ _ _ h=>by cases h⟩,h0M⟩ ?_ ?_
 rotate_left 1
 ·rintro done a w ⟨t,rfl,hS,hw⟩ hall
  rw [hS.end hB hall,sizeUN]
  exact hQ w hw
 ·rintro jz op done a w ho ⟨t,rfl,hS,hw⟩ hnd hdep hcl
  have e7:t[7]?.getD undef=.pointer (some ⟨ga,oa,none⟩):=(hS.old freeUN7).trans h7
  have e8:t[8]?.getD undef=.pointer (some ⟨gb,ob,none⟩):=(hS.old freeUN8).trans h8
  have hlt:jz<10:=by rw [← sizeUN];exact (Array.getElem?_eq_some_iff.1 ho).1
  match jz,hlt,ho,hnd,hdep with
  | 0,_,ho,hnd,hdep=>
   obtain ⟨hd,hop,hgd⟩:=say_of sUN_0 ho
   refine iv_valI (fun _=>trivial) hB ho (wanted_none hgd) hd hS (by intro c;rw [hop];intro h;cases h) hw ?_
   unfold execOp
   simp only [hop]
   simp [e7,VUN,go_sem]
  | 1,_,ho,hnd,hdep=>
   obtain ⟨hd,hop,hgd⟩:=say_of sUN_1 ho
   have x41:t[41]?.getD undef=_:=hS.at dUN_0 (waits (j:=0) (by kernel_rfl) ho hdep)
   simp only [VUN] at x41
   refine iv_valI (fun _=>trivial) hB ho (wanted_none hgd) hd hS (by intro c;rw [hop];intro h;cases h) hw ?_
   unfold execOp
   simp only [hop]
   simp [x41,VUN,go_sem]
  | 2,_,ho,hnd,hdep=>
   obtain ⟨hd,hop,hgd⟩:=say_of sUN_2 ho
   have x42:t[42]?.getD undef=_:=hS.at dUN_1 (waits (j:=1) (by kernel_rfl) ho hdep)
   simp only [VUN] at x42
   refine iv_valI (fun _=>trivial) hB ho (wanted_none hgd) hd hS (by intro c;rw [hop];intro h;cases h) hw ?_
   unfold execOp
   simp only [hop]
   simp [x42,VUN,go_sem]
  | 3,_,ho,hnd,hdep=>
   obtain ⟨hd,hop,hgd⟩:=say_of sUN_3 ho
   have x43:t[43]?.getD undef=_:=hS.at dUN_2 (waits (j:=2) (by kernel_rfl) ho hdep)
   simp only [VUN] at x43
   refine iv_valI (fun _=>trivial) hB ho (wanted_none hgd) hd hS (by intro c;rw [hop];intro h;cases h) hw ?_
   exact exec_load53 (a:=⟨t,[]⟩) _ hop ga (oa+36) (by show t.getD 43 undef=_;rw [Array.getD_eq_getD_getElem?];exact x43) YA sA (lA.drew hw)
  | 4,_,ho,hnd,hdep=>
   obtain ⟨hd,hop,hgd⟩:=say_of sUN_4 ho
   refine iv_valI (fun _=>trivial) hB ho (wanted_none hgd) hd hS (by intro c;rw [hop];intro h;cases h) hw ?_
   unfold execOp
   simp only [hop]
   simp [e8,VUN,go_sem]
  | 5,_,ho,hnd,hdep=>
   obtain ⟨hd,hop,hgd⟩:=say_of sUN_5 ho
   have x45:t[45]?.getD undef=_:=hS.at dUN_4 (waits (j:=4) (by kernel_rfl) ho hdep)
   simp only [VUN] at x45
   refine iv_valI (fun _=>trivial) hB ho (wanted_none hgd) hd hS (by intro c;rw [hop];intro h;cases h) hw ?_
   unfold execOp
   simp only [hop]
   simp [x45,VUN,go_sem]
  | 6,_,ho,hnd,hdep=>
   obtain ⟨hd,hop,hgd⟩:=say_of sUN_6 ho
   have x46:t[46]?.getD undef=_:=hS.at dUN_5 (waits (j:=5) (by kernel_rfl) ho hdep)
   simp only [VUN] at x46
   refine iv_valI (fun _=>trivial) hB ho (wanted_none hgd) hd hS (by intro c;rw [hop];intro h;cases h) hw ?_
   unfold execOp
   simp only [hop]
   simp [x46,VUN,go_sem]
  | 7,_,ho,hnd,hdep=>
   obtain ⟨hd,hop,hgd⟩:=say_of sUN_7 ho
   have x47:t[47]?.getD undef=_:=hS.at dUN_6 (waits (j:=6) (by kernel_rfl) ho hdep)
   simp only [VUN] at x47
   refine iv_valI (fun _=>trivial) hB ho (wanted_none hgd) hd hS (by intro c;rw [hop];intro h;cases h) hw ?_
   exact exec_load53 (a:=⟨t,[]⟩) _ hop gb (ob+1) (by show t.getD 47 undef=_;rw [Array.getD_eq_getD_getElem?];exact x47) YB sB (lB.drew hw)
  | 8,_,ho,hnd,hdep=>
   obtain ⟨hd,hop,hgd⟩:=say_of sUN_8 ho
   have x44:t[44]?.getD undef=_:=hS.at dUN_3 (waits (j:=3) (by kernel_rfl) ho hdep)
   simp only [VUN] at x44
   have x48:t[48]?.getD undef=_:=hS.at dUN_7 (waits (j:=7) (by kernel_rfl) ho hdep)
   simp only [VUN] at x48
   refine iv_valI (fun _=>trivial) hB ho (wanted_none hgd) hd hS (by intro c;rw [hop];intro h;cases h) hw ?_
   exact exec_neq53' (a:=⟨t,[]⟩) _ _ hop YA YB (by show t.getD 44 undef=_;rw [Array.getD_eq_getD_getElem?];exact x44) (by show t.getD 48 undef=_;rw [Array.getD_eq_getD_getElem?];exact x48) p q hp hq _ hb _
  | 9,_,ho,hnd,hdep=>
   obtain ⟨hd,hop,hgd⟩:=say_of sUN_9 ho
   have x49:t[49]?.getD undef=_:=hS.at dUN_8 (waits (j:=8) (by kernel_rfl) ho hdep)
   simp only [VUN] at x49
   refine iv_valI (fun _=>trivial) hB ho (wanted_none hgd) hd hS (by intro c;rw [hop];intro h;cases h) hw ?_
   unfold execOp
   simp only [hop]
   simp [x49,VUN,go_sem]
theorem foldUN (ga oa gb ob:Nat) (YA YB:Array Value) (b:Bool) (t0:Array Value):fold (opsAt Tryz.f23 11) (VUN ga oa gb ob YA YB b) t0 10=((((((((((t0.setIfInBounds 41 (.pointer (some ⟨ga,oa,none⟩))).setIfInBounds 42 (.pointer (some ⟨ga,oa,none⟩))).setIfInBounds 43 (.pointer (some ⟨ga,oa+36,none⟩))).setIfInBounds 44 (.agg YA)).setIfInBounds 45 (.pointer (some ⟨gb,ob,none⟩))).setIfInBounds 46 (.pointer (some ⟨gb,ob,none⟩))).setIfInBounds 47 (.pointer (some ⟨gb,ob+1,none⟩))).setIfInBounds 48 (.agg YB)).setIfInBounds 49 (.bool b)).setIfInBounds 40 (.bool b)):=by kernel_rfl
theorem backUO:backB (opsAt Tryz.f23 13)=true:=by kernel_rfl
theorem dstUO:dstB (opsAt Tryz.f23 13) 77=true:=by kernel_rfl
theorem sizeUO:(opsAt Tryz.f23 13).size=10:=by kernel_rfl
theorem freeUO7:freeB (opsAt Tryz.f23 13) 7=true:=by kernel_rfl
theorem freeUO8:freeB (opsAt Tryz.f23 13) 8=true:=by kernel_rfl
theorem sUO_0:say (opsAt Tryz.f23 13) 0=some (some 51,.move (.tmp 7),none):=by kernel_rfl
theorem dUO_0:slotB (opsAt Tryz.f23 13) 0=some 51:=by kernel_rfl
theorem sUO_1:say (opsAt Tryz.f23 13) 1=some (some 52,.nilCheck (.tmp 51),none):=by kernel_rfl
theorem dUO_1:slotB (opsAt Tryz.f23 13) 1=some 52:=by kernel_rfl
theorem sUO_2:say (opsAt Tryz.f23 13) 2=some (some 53,.fieldAddr 66 (.tmp 52) 1,none):=by kernel_rfl
theorem dUO_2:slotB (opsAt Tryz.f23 13) 2=some 53:=by kernel_rfl
theorem sUO_3:say (opsAt Tryz.f23 13) 3=some (some 54,.load 24 (.tmp 53),none):=by kernel_rfl
theorem dUO_3:slotB (opsAt Tryz.f23 13) 3=some 54:=by kernel_rfl
theorem sUO_4:say (opsAt Tryz.f23 13) 4=some (some 55,.move (.tmp 8),none):=by kernel_rfl
theorem dUO_4:slotB (opsAt Tryz.f23 13) 4=some 55:=by kernel_rfl
theorem sUO_5:say (opsAt Tryz.f23 13) 5=some (some 56,.nilCheck (.tmp 55),none):=by kernel_rfl
theorem dUO_5:slotB (opsAt Tryz.f23 13) 5=some 56:=by kernel_rfl
theorem sUO_6:say (opsAt Tryz.f23 13) 6=some (some 57,.fieldAddr 66 (.tmp 56) 2,none):=by kernel_rfl
theorem dUO_6:slotB (opsAt Tryz.f23 13) 6=some 57:=by kernel_rfl
theorem sUO_7:say (opsAt Tryz.f23 13) 7=some (some 58,.load 24 (.tmp 57),none):=by kernel_rfl
theorem dUO_7:slotB (opsAt Tryz.f23 13) 7=some 58:=by kernel_rfl
theorem sUO_8:say (opsAt Tryz.f23 13) 8=some (some 59,.binOp .neq 24 (.tmp 54) (.tmp 58) 24,none):=by kernel_rfl
theorem dUO_8:slotB (opsAt Tryz.f23 13) 8=some 59:=by kernel_rfl
theorem sUO_9:say (opsAt Tryz.f23 13) 9=some (some 50,.assign (.tmp 59),none):=by kernel_rfl
def VUO (ga oa gb ob:Nat) (YA YB:Array Value) (b:Bool):Nat→Value
 | 0=>.pointer (some ⟨ga,oa,none⟩)
 | 1=>.pointer (some ⟨ga,oa,none⟩)
 | 2=>.pointer (some ⟨ga,oa+1,none⟩)
 | 3=>.agg YA
 | 4=>.pointer (some ⟨gb,ob,none⟩)
 | 5=>.pointer (some ⟨gb,ob,none⟩)
 | 6=>.pointer (some ⟨gb,ob+36,none⟩)
 | 7=>.agg YB
 | 8=>.bool b
 | 9=>.bool b
 | _=>undef
theorem regUO (ga oa gb ob:Nat) (YA YB:Array Value) (b:Bool) (l nn:Nat) (t0:Array Value) (wr:World) {Q:Exit→Act→World→Prop} (ht:t0.size=77) (h7:t0.getD 7 undef=.pointer (some ⟨ga,oa,none⟩)) (h8:t0.getD 8 undef=.pointer (some ⟨gb,ob,none⟩))
  (p q:Vd) (hp:YA=(vx p).toArray) (hq:YB=(vx q).toArray) (hb:(!decide (p=q))=b) (lA:Lies wr ga (oa+1) YA) (lB:Lies wr gb (ob+36) YB)
  (hQ:∀ w,Drew wr w→Q .normal ⟨fold (opsAt Tryz.f23 13) (VUO ga oa gb ob YA YB b) t0 10,[]⟩ w):(Code.region 13 (opsAt Tryz.f23 13) true).wpIn (Fence.wide.inRound l) nn Tryz.prog Q ⟨t0,[]⟩ wr:=by
 have hB:dstB (opsAt Tryz.f23 13) t0.size=true:=by rw [ht];exact dstUO
 have sA:YA.size=35:=by rw [hp];simp [vx_len]
 have sB:YB.size=35:=by rw [hq];simp [vx_len]
 have h0M:Drew wr wr.drew:=⟨1,rfl⟩
 refine inv_regionIn (by kernel_rfl) (IV (opsAt Tryz.f23 13) (VUO ga oa gb ob YA YB b) t0 (fun _ w=>Drew wr w)) backUO ⟨t0,rfl,⟨rfl,fun _ _=>rfl,fun _ _ _ _ _ h=>by cases h⟩,h0M⟩ ?_ ?_
 rotate_left 1
 ·rintro done a w ⟨t,rfl,hS,hw⟩ hall
  rw [hS.end hB hall,sizeUO]
  exact hQ w hw
 ·rintro jz op done a w ho ⟨t,rfl,hS,hw⟩ hnd hdep hcl
  have e7:t[7]?.getD undef=.pointer (some ⟨ga,oa,none⟩):=(hS.old freeUO7).trans h7
  have e8:t[8]?.getD undef=.pointer (some ⟨gb,ob,none⟩):=(hS.old freeUO8).trans h8
  have hlt:jz<10:=by rw [← sizeUO];exact (Array.getElem?_eq_some_iff.1 ho).1
  match jz,hlt,ho,hnd,hdep with
  | 0,_,ho,hnd,hdep=>
   obtain ⟨hd,hop,hgd⟩:=say_of sUO_0 ho
   refine iv_valI (fun _=>trivial) hB ho (wanted_none hgd) hd hS (by intro c;rw [hop];intro h;cases h) hw ?_
   unfold execOp
   simp only [hop]
   simp [e7,VUO,go_sem]
  | 1,_,ho,hnd,hdep=>
   obtain ⟨hd,hop,hgd⟩:=say_of sUO_1 ho
   have x51:t[51]?.getD undef=_:=hS.at dUO_0 (waits (j:=0) (by kernel_rfl) ho hdep)
   simp only [VUO] at x51
   refine iv_valI (fun _=>trivial) hB ho (wanted_none hgd) hd hS (by intro c;rw [hop];intro h;cases h) hw ?_
   unfold execOp
   simp only [hop]
   simp [x51,VUO,go_sem]
  | 2,_,ho,hnd,hdep=>
   obtain ⟨hd,hop,hgd⟩:=say_of sUO_2 ho
   have x52:t[52]?.getD undef=_:=hS.at dUO_1 (waits (j:=1) (by kernel_rfl) ho hdep)
   simp only [VUO] at x52
   refine iv_valI (fun _=>trivial) hB ho (wanted_none hgd) hd hS (by intro c;rw [hop];intro h;cases h) hw ?_
   unfold execOp
   simp only [hop]
   simp [x52,VUO,go_sem]
  | 3,_,ho,hnd,hdep=>
   obtain ⟨hd,hop,hgd⟩:=say_of sUO_3 ho
   have x53:t[53]?.getD undef=_:=hS.at dUO_2 (waits (j:=2) (by kernel_rfl) ho hdep)
   simp only [VUO] at x53
   refine iv_valI (fun _=>trivial) hB ho (wanted_none hgd) hd hS (by intro c;rw [hop];intro h;cases h) hw ?_
   exact exec_load53 (a:=⟨t,[]⟩) _ hop ga (oa+1) (by show t.getD 53 undef=_;rw [Array.getD_eq_getD_getElem?];exact x53) YA sA (lA.drew hw)
  | 4,_,ho,hnd,hdep=>
   obtain ⟨hd,hop,hgd⟩:=say_of sUO_4 ho
   refine iv_valI (fun _=>trivial) hB ho (wanted_none hgd) hd hS (by intro c;rw [hop];intro h;cases h) hw ?_
   unfold execOp
   simp only [hop]
   simp [e8,VUO,go_sem]
  | 5,_,ho,hnd,hdep=>
   obtain ⟨hd,hop,hgd⟩:=say_of sUO_5 ho
   have x55:t[55]?.getD undef=_:=hS.at dUO_4 (waits (j:=4) (by kernel_rfl) ho hdep)
   simp only [VUO] at x55
   refine iv_valI (fun _=>trivial) hB ho (wanted_none hgd) hd hS (by intro c;rw [hop];intro h;cases h) hw ?_
   unfold execOp
   simp only [hop]
   simp [x55,VUO,go_sem]
  | 6,_,ho,hnd,hdep=>
   obtain ⟨hd,hop,hgd⟩:=say_of sUO_6 ho
   have x56:t[56]?.getD undef=_:=hS.at dUO_5 (waits (j:=5) (by kernel_rfl) ho hdep)
   simp only [VUO] at x56
   refine iv_valI (fun _=>trivial) hB ho (wanted_none hgd) hd hS (by intro c;rw [hop];intro h;cases h) hw ?_
   unfold execOp
   simp only [hop]
   simp [x56,VUO,go_sem]
  | 7,_,ho,hnd,hdep=>
   obtain ⟨hd,hop,hgd⟩:=say_of sUO_7 ho
   have x57:t[57]?.getD undef=_:=hS.at dUO_6 (waits (j:=6) (by kernel_rfl) ho hdep)
   simp only [VUO] at x57
   refine iv_valI (fun _=>trivial) hB ho (wanted_none hgd) hd hS (by intro c;rw [hop];intro h;cases h) hw ?_
   exact exec_load53 (a:=⟨t,[]⟩) _ hop gb (ob+36) (by show t.getD 57 undef=_;rw [Array.getD_eq_getD_getElem?];exact x57) YB sB (lB.drew hw)
  | 8,_,ho,hnd,hdep=>
   obtain ⟨hd,hop,hgd⟩:=say_of sUO_8 ho
   have x54:t[54]?.getD undef=_:=hS.at dUO_3 (waits (j:=3) (by kernel_rfl) ho hdep)
   simp only [VUO] at x54
   have x58:t[58]?.getD undef=_:=hS.at dUO_7 (waits (j:=7) (by kernel_rfl) ho hdep)
   simp only [VUO] at x58
   refine iv_valI (fun _=>trivial) hB ho (wanted_none hgd) hd hS (by intro c;rw [hop];intro h;cases h) hw ?_
   exact exec_neq53' (a:=⟨t,[]⟩) _ _ hop YA YB (by show t.getD 54 undef=_;rw [Array.getD_eq_getD_getElem?];exact x54) (by show t.getD 58 undef=_;rw [Array.getD_eq_getD_getElem?];exact x58) p q hp hq _ hb _
  | 9,_,ho,hnd,hdep=>
   obtain ⟨hd,hop,hgd⟩:=say_of sUO_9 ho
   have x59:t[59]?.getD undef=_:=hS.at dUO_8 (waits (j:=8) (by kernel_rfl) ho hdep)
   simp only [VUO] at x59
   refine iv_valI (fun _=>trivial) hB ho (wanted_none hgd) hd hS (by intro c;rw [hop];intro h;cases h) hw ?_
   unfold execOp
   simp only [hop]
   simp [x59,VUO,go_sem]
theorem foldUO (ga oa gb ob:Nat) (YA YB:Array Value) (b:Bool) (t0:Array Value):fold (opsAt Tryz.f23 13) (VUO ga oa gb ob YA YB b) t0 10=((((((((((t0.setIfInBounds 51 (.pointer (some ⟨ga,oa,none⟩))).setIfInBounds 52 (.pointer (some ⟨ga,oa,none⟩))).setIfInBounds 53 (.pointer (some ⟨ga,oa+1,none⟩))).setIfInBounds 54 (.agg YA)).setIfInBounds 55 (.pointer (some ⟨gb,ob,none⟩))).setIfInBounds 56 (.pointer (some ⟨gb,ob,none⟩))).setIfInBounds 57 (.pointer (some ⟨gb,ob+36,none⟩))).setIfInBounds 58 (.agg YB)).setIfInBounds 59 (.bool b)).setIfInBounds 50 (.bool b)):=by kernel_rfl
theorem backUP:backB (opsAt Tryz.f23 14)=true:=by kernel_rfl
theorem dstUP:dstB (opsAt Tryz.f23 14) 77=true:=by kernel_rfl
theorem sizeUP:(opsAt Tryz.f23 14).size=17:=by kernel_rfl
theorem freeUP6:freeB (opsAt Tryz.f23 14) 6=true:=by kernel_rfl
theorem freeUP7:freeB (opsAt Tryz.f23 14) 7=true:=by kernel_rfl
theorem freeUP8:freeB (opsAt Tryz.f23 14) 8=true:=by kernel_rfl
def VUP (ga oa gb ob B:Nat) (v v2:Value) (p:ByteArray) (YO YN Z:Array Value):Nat→Value
 | 0=>v
 | 1=>.pointer (some ⟨ga,oa,none⟩)
 | 2=>.pointer (some ⟨ga,oa,none⟩)
 | 3=>.pointer (some ⟨ga,oa,none⟩)
 | 4=>.string p
 | 5=>.pointer (some ⟨ga,oa,none⟩)
 | 6=>.pointer (some ⟨ga,oa,none⟩)
 | 7=>.pointer (some ⟨ga,oa+1,none⟩)
 | 8=>.agg YO
 | 9=>.pointer (some ⟨gb,ob,none⟩)
 | 10=>.pointer (some ⟨gb,ob,none⟩)
 | 11=>.pointer (some ⟨gb,ob+36,none⟩)
 | 12=>.agg YN
 | 13=>.agg Z
 | 14=>.slice (some ⟨B,0,none⟩) 1 1
 | 15=>v2
 | 16=>undef
 | _=>undef
theorem sUP_0:say (opsAt Tryz.f23 14) 0=some (some 60,.load 31 (.tmp 6),none):=by kernel_rfl
theorem dUP_0:slotB (opsAt Tryz.f23 14) 0=some 60:=by kernel_rfl
theorem sUP_1:say (opsAt Tryz.f23 14) 1=some (some 61,.move (.tmp 7),none):=by kernel_rfl
theorem dUP_1:slotB (opsAt Tryz.f23 14) 1=some 61:=by kernel_rfl
theorem sUP_2:say (opsAt Tryz.f23 14) 2=some (some 62,.nilCheck (.tmp 61),none):=by kernel_rfl
theorem dUP_2:slotB (opsAt Tryz.f23 14) 2=some 62:=by kernel_rfl
theorem sUP_3:say (opsAt Tryz.f23 14) 3=some (some 63,.fieldAddr 66 (.tmp 62) 0,none):=by kernel_rfl
theorem dUP_3:slotB (opsAt Tryz.f23 14) 3=some 63:=by kernel_rfl
theorem sUP_4:say (opsAt Tryz.f23 14) 4=some (some 64,.load 9 (.tmp 63),none):=by kernel_rfl
theorem dUP_4:slotB (opsAt Tryz.f23 14) 4=some 64:=by kernel_rfl
theorem sUP_5:say (opsAt Tryz.f23 14) 5=some (some 65,.move (.tmp 7),none):=by kernel_rfl
theorem dUP_5:slotB (opsAt Tryz.f23 14) 5=some 65:=by kernel_rfl
theorem sUP_6:say (opsAt Tryz.f23 14) 6=some (some 66,.nilCheck (.tmp 65),none):=by kernel_rfl
theorem dUP_6:slotB (opsAt Tryz.f23 14) 6=some 66:=by kernel_rfl
theorem sUP_7:say (opsAt Tryz.f23 14) 7=some (some 67,.fieldAddr 66 (.tmp 66) 1,none):=by kernel_rfl
theorem dUP_7:slotB (opsAt Tryz.f23 14) 7=some 67:=by kernel_rfl
theorem sUP_8:say (opsAt Tryz.f23 14) 8=some (some 68,.load 24 (.tmp 67),none):=by kernel_rfl
theorem dUP_8:slotB (opsAt Tryz.f23 14) 8=some 68:=by kernel_rfl
theorem sUP_9:say (opsAt Tryz.f23 14) 9=some (some 69,.move (.tmp 8),none):=by kernel_rfl
theorem dUP_9:slotB (opsAt Tryz.f23 14) 9=some 69:=by kernel_rfl
theorem sUP_10:say (opsAt Tryz.f23 14) 10=some (some 70,.nilCheck (.tmp 69),none):=by kernel_rfl
theorem dUP_10:slotB (opsAt Tryz.f23 14) 10=some 70:=by kernel_rfl
theorem sUP_11:say (opsAt Tryz.f23 14) 11=some (some 71,.fieldAddr 66 (.tmp 70) 2,none):=by kernel_rfl
theorem dUP_11:slotB (opsAt Tryz.f23 14) 11=some 71:=by kernel_rfl
theorem sUP_12:say (opsAt Tryz.f23 14) 12=some (some 72,.load 24 (.tmp 71),none):=by kernel_rfl
theorem dUP_12:slotB (opsAt Tryz.f23 14) 12=some 72:=by kernel_rfl
theorem sUP_13:say (opsAt Tryz.f23 14) 13=some (some 73,.build 66 #[(0,.tmp 64),(1,.tmp 68),(2,.tmp 72)],none):=by kernel_rfl
theorem dUP_13:slotB (opsAt Tryz.f23 14) 13=some 73:=by kernel_rfl
theorem sUP_14:say (opsAt Tryz.f23 14) 14=some (some 74,.buildSlice 31 1 #[(0,.tmp 73)],none):=by kernel_rfl
theorem dUP_14:slotB (opsAt Tryz.f23 14) 14=some 74:=by kernel_rfl
theorem sUP_15:say (opsAt Tryz.f23 14) 15=some (some 75,.call { callee:=.builtin .append,args:=#[.tmp 60,.tmp 74],argTypes:=#[31,31] },none):=by kernel_rfl
theorem dUP_15:slotB (opsAt Tryz.f23 14) 15=some 75:=by kernel_rfl
theorem sUP_16:say (opsAt Tryz.f23 14) 16=some (none,.store 31 (.tmp 6) (.tmp 75),none):=by kernel_rfl
theorem regUP (ga oa gb ob B:Nat) (v v2:Value) (p:ByteArray) (YO YN Z:Array Value) (l nn T6:Nat) (wB wC wD:World) (t0:Array Value) (wr:World) {Q:Exit→Act→World→Prop} (ht:t0.size=77) (h6:t0.getD 6 undef=.pointer (some ⟨T6,0,none⟩)) (h7:t0.getD 7 undef=.pointer (some ⟨ga,oa,none⟩)) (h8:t0.getD 8 undef=.pointer (some ⟨gb,ob,none⟩))
  (c0:wr.drew.cell? ⟨T6,0,none⟩=some v) (cP:wr.drew.cell? ⟨ga,oa,none⟩=some (.string p)) (lO:Lies wr.drew ga (oa+1) YO) (lN:Lies wr.drew gb (ob+36) YN) (sO:YO.size=35) (sN:YN.size=35) (hZ:∀ {o:Oper} {a:Act} (x y z:Operand),o.op=.build 66 #[(0,x),(1,y),(2,z)]→a.eval x=.string p→a.eval y=.agg YO→a.eval z=.agg YN→∀ w,(execOp a.eval o).run Tryz.prog w=.ok (.value (.agg Z)) w) (sZ:Z.size=71) (hwB:wr.drew.alloc (.cells Z 66)=wB) (hB0:wr.drew.heap.size=B) (cB:wB.cell? ⟨T6,0,none⟩=some v) (hA:(Builtin.append_ #[31,31] 31 #[v,.slice (some ⟨B,0,none⟩) 1 1]).run Tryz.prog wB=.ok v2 wC) (hv2:∃ p a b,v2=.slice p a b) (cC:wC.cell? ⟨T6,0,none⟩=some v) (fC:wC.frozen? ⟨T6,0,none⟩=false) (hwD:wC.setCell ⟨T6,0,none⟩ v2=wD)
  (hQ:Q .normal ⟨fold (opsAt Tryz.f23 14) (VUP ga oa gb ob B v v2 p YO YN Z) t0 17,[]⟩ wD):(Code.region 14 (opsAt Tryz.f23 14) true).wpIn (Fence.wide.inRound l) nn Tryz.prog Q ⟨t0,[]⟩ wr:=by
 have hB:dstB (opsAt Tryz.f23 14) t0.size=true:=by rw [ht];exact dstUP
 refine inv_regionIn (by kernel_rfl) (IV (opsAt Tryz.f23 14) (VUP ga oa gb ob B v v2 p YO YN Z) t0 (fun done w=>w=(if done 16=true then wD else (if done 15=true then wC else (if done 14=true then wB else wr.drew))))) backUP ⟨t0,rfl,⟨rfl,fun _ _=>rfl,fun _ _ _ _ _ h=>by cases h⟩,by simp⟩ ?_ ?_
 rotate_left 1
 ·rintro done a w ⟨t,rfl,hS,hw⟩ hall
  rw [hS.end hB hall,sizeUP]
  rw [hall 16 (by rw [sizeUP];decide),if_pos rfl] at hw
  rw [hw]
  exact hQ
 ·rintro jz op done a w ho ⟨t,rfl,hS,hw⟩ hnd hdep hcl
  have e6:t[6]?.getD undef=.pointer (some ⟨T6,0,none⟩):=(hS.old freeUP6).trans h6
  have e7:t[7]?.getD undef=.pointer (some ⟨ga,oa,none⟩):=(hS.old freeUP7).trans h7
  have e8:t[8]?.getD undef=.pointer (some ⟨gb,ob,none⟩):=(hS.old freeUP8).trans h8
  have hlt:jz<17:=by rw [← sizeUP];exact (Array.getElem?_eq_some_iff.1 ho).1
  match jz,hlt,ho,hnd,hdep with
  | 0,_,ho,hnd,hdep=>
   obtain ⟨hd,hop,hgd⟩:=say_of sUP_0 ho
   have ny15:done 15=false:=not_yet (k:=0) (j:=15) (by kernel_rfl) hcl hnd
   have ny16:done 16=false:=not_yet (k:=15) (j:=16) (by kernel_rfl) hcl ny15
   refine iv_valI (fun _=>trivial) hB ho (wanted_none hgd) hd hS (by intro c;rw [hop];intro h;cases h) (by simpa [upd] using hw) ?_
   have c6:w.cell? ⟨T6,0,none⟩=some v:=by rw [hw];by_cases h4:done 14=true<;>simp [h4,ny15,ny16,c0,cB]
   unfold execOp
   simp only [hop]
   simp [e6,c6,VUP,go_sem]
  | 1,_,ho,hnd,hdep=>
   obtain ⟨hd,hop,hgd⟩:=say_of sUP_1 ho
   refine iv_valI (fun _=>trivial) hB ho (wanted_none hgd) hd hS (by intro c;rw [hop];intro h;cases h) (by simpa [upd] using hw) ?_
   unfold execOp
   simp only [hop]
   simp [e7,VUP,go_sem]
  | 2,_,ho,hnd,hdep=>
   obtain ⟨hd,hop,hgd⟩:=say_of sUP_2 ho
   have x61:t[61]?.getD undef=_:=hS.at dUP_1 (waits (j:=1) (by kernel_rfl) ho hdep)
   simp only [VUP] at x61
   refine iv_valI (fun _=>trivial) hB ho (wanted_none hgd) hd hS (by intro c;rw [hop];intro h;cases h) (by simpa [upd] using hw) ?_
   unfold execOp
   simp only [hop]
   simp [x61,VUP,go_sem]
  | 3,_,ho,hnd,hdep=>
   obtain ⟨hd,hop,hgd⟩:=say_of sUP_3 ho
   have x62:t[62]?.getD undef=_:=hS.at dUP_2 (waits (j:=2) (by kernel_rfl) ho hdep)
   simp only [VUP] at x62
   refine iv_valI (fun _=>trivial) hB ho (wanted_none hgd) hd hS (by intro c;rw [hop];intro h;cases h) (by simpa [upd] using hw) ?_
   unfold execOp
   simp only [hop]
   simp [x62,VUP,go_sem]
  | 4,_,ho,hnd,hdep=>
   obtain ⟨hd,hop,hgd⟩:=say_of sUP_4 ho
   have x63:t[63]?.getD undef=_:=hS.at dUP_3 (waits (j:=3) (by kernel_rfl) ho hdep)
   simp only [VUP] at x63
   have ny13:done 13=false:=not_yet (k:=4) (j:=13) (by kernel_rfl) hcl hnd
   have ny14:done 14=false:=not_yet (k:=13) (j:=14) (by kernel_rfl) hcl ny13
   have ny15:done 15=false:=not_yet (k:=14) (j:=15) (by kernel_rfl) hcl ny14
   have ny16:done 16=false:=not_yet (k:=15) (j:=16) (by kernel_rfl) hcl ny15
   have hw0:w=wr.drew:=by rw [hw];simp [ny14,ny15,ny16]
   refine iv_valI (fun _=>trivial) hB ho (wanted_none hgd) hd hS (by intro c;rw [hop];intro h;cases h) (by simpa [upd] using hw) ?_
   subst hw0
   unfold execOp
   simp only [hop]
   simp [x63,cP,VUP,go_sem]
  | 5,_,ho,hnd,hdep=>
   obtain ⟨hd,hop,hgd⟩:=say_of sUP_5 ho
   refine iv_valI (fun _=>trivial) hB ho (wanted_none hgd) hd hS (by intro c;rw [hop];intro h;cases h) (by simpa [upd] using hw) ?_
   unfold execOp
   simp only [hop]
   simp [e7,VUP,go_sem]
  | 6,_,ho,hnd,hdep=>
   obtain ⟨hd,hop,hgd⟩:=say_of sUP_6 ho
   have x65:t[65]?.getD undef=_:=hS.at dUP_5 (waits (j:=5) (by kernel_rfl) ho hdep)
   simp only [VUP] at x65
   refine iv_valI (fun _=>trivial) hB ho (wanted_none hgd) hd hS (by intro c;rw [hop];intro h;cases h) (by simpa [upd] using hw) ?_
   unfold execOp
   simp only [hop]
   simp [x65,VUP,go_sem]
  | 7,_,ho,hnd,hdep=>
   obtain ⟨hd,hop,hgd⟩:=say_of sUP_7 ho
   have x66:t[66]?.getD undef=_:=hS.at dUP_6 (waits (j:=6) (by kernel_rfl) ho hdep)
   simp only [VUP] at x66
   refine iv_valI (fun _=>trivial) hB ho (wanted_none hgd) hd hS (by intro c;rw [hop];intro h;cases h) (by simpa [upd] using hw) ?_
   unfold execOp
   simp only [hop]
   simp [x66,VUP,go_sem]
  | 8,_,ho,hnd,hdep=>
   obtain ⟨hd,hop,hgd⟩:=say_of sUP_8 ho
   have x67:t[67]?.getD undef=_:=hS.at dUP_7 (waits (j:=7) (by kernel_rfl) ho hdep)
   simp only [VUP] at x67
   have ny13:done 13=false:=not_yet (k:=8) (j:=13) (by kernel_rfl) hcl hnd
   have ny14:done 14=false:=not_yet (k:=13) (j:=14) (by kernel_rfl) hcl ny13
   have ny15:done 15=false:=not_yet (k:=14) (j:=15) (by kernel_rfl) hcl ny14
   have ny16:done 16=false:=not_yet (k:=15) (j:=16) (by kernel_rfl) hcl ny15
   have hw0:w=wr.drew:=by rw [hw];simp [ny14,ny15,ny16]
   refine iv_valI (fun _=>trivial) hB ho (wanted_none hgd) hd hS (by intro c;rw [hop];intro h;cases h) (by simpa [upd] using hw) ?_
   exact exec_load53 (a:=⟨t,[]⟩) _ hop ga (oa+1) (by show t.getD 67 undef=_;rw [Array.getD_eq_getD_getElem?];exact x67) YO sO (by rw [hw0];exact lO)
  | 9,_,ho,hnd,hdep=>
   obtain ⟨hd,hop,hgd⟩:=say_of sUP_9 ho
   refine iv_valI (fun _=>trivial) hB ho (wanted_none hgd) hd hS (by intro c;rw [hop];intro h;cases h) (by simpa [upd] using hw) ?_
   unfold execOp
   simp only [hop]
   simp [e8,VUP,go_sem]
  | 10,_,ho,hnd,hdep=>
   obtain ⟨hd,hop,hgd⟩:=say_of sUP_10 ho
   have x69:t[69]?.getD undef=_:=hS.at dUP_9 (waits (j:=9) (by kernel_rfl) ho hdep)
   simp only [VUP] at x69
   refine iv_valI (fun _=>trivial) hB ho (wanted_none hgd) hd hS (by intro c;rw [hop];intro h;cases h) (by simpa [upd] using hw) ?_
   unfold execOp
   simp only [hop]
   simp [x69,VUP,go_sem]
  | 11,_,ho,hnd,hdep=>
   obtain ⟨hd,hop,hgd⟩:=say_of sUP_11 ho
   have x70:t[70]?.getD undef=_:=hS.at dUP_10 (waits (j:=10) (by kernel_rfl) ho hdep)
   simp only [VUP] at x70
   refine iv_valI (fun _=>trivial) hB ho (wanted_none hgd) hd hS (by intro c;rw [hop];intro h;cases h) (by simpa [upd] using hw) ?_
   unfold execOp
   simp only [hop]
   simp [x70,VUP,go_sem]
  | 12,_,ho,hnd,hdep=>
   obtain ⟨hd,hop,hgd⟩:=say_of sUP_12 ho
   have x71:t[71]?.getD undef=_:=hS.at dUP_11 (waits (j:=11) (by kernel_rfl) ho hdep)
   simp only [VUP] at x71
   have ny13:done 13=false:=not_yet (k:=12) (j:=13) (by kernel_rfl) hcl hnd
   have ny14:done 14=false:=not_yet (k:=13) (j:=14) (by kernel_rfl) hcl ny13
   have ny15:done 15=false:=not_yet (k:=14) (j:=15) (by kernel_rfl) hcl ny14
   have ny16:done 16=false:=not_yet (k:=15) (j:=16) (by kernel_rfl) hcl ny15
   have hw0:w=wr.drew:=by rw [hw];simp [ny14,ny15,ny16]
   refine iv_valI (fun _=>trivial) hB ho (wanted_none hgd) hd hS (by intro c;rw [hop];intro h;cases h) (by simpa [upd] using hw) ?_
   exact exec_load53 (a:=⟨t,[]⟩) _ hop gb (ob+36) (by show t.getD 71 undef=_;rw [Array.getD_eq_getD_getElem?];exact x71) YN sN (by rw [hw0];exact lN)
  | 13,_,ho,hnd,hdep=>
   obtain ⟨hd,hop,hgd⟩:=say_of sUP_13 ho
   have x64:t[64]?.getD undef=_:=hS.at dUP_4 (waits (j:=4) (by kernel_rfl) ho hdep)
   simp only [VUP] at x64
   have x68:t[68]?.getD undef=_:=hS.at dUP_8 (waits (j:=8) (by kernel_rfl) ho hdep)
   simp only [VUP] at x68
   have x72:t[72]?.getD undef=_:=hS.at dUP_12 (waits (j:=12) (by kernel_rfl) ho hdep)
   simp only [VUP] at x72
   refine iv_valI (fun _=>trivial) hB ho (wanted_none hgd) hd hS (by intro c;rw [hop];intro h;cases h) (by simpa [upd] using hw) ?_
   exact hZ (a:=⟨t,[]⟩) _ _ _ hop (by show t.getD 64 undef=_;rw [Array.getD_eq_getD_getElem?];exact x64) (by show t.getD 68 undef=_;rw [Array.getD_eq_getD_getElem?];exact x68) (by show t.getD 72 undef=_;rw [Array.getD_eq_getD_getElem?];exact x72) _
  | 14,_,ho,hnd,hdep=>
   obtain ⟨hd,hop,hgd⟩:=say_of sUP_14 ho
   have x73:t[73]?.getD undef=_:=hS.at dUP_13 (waits (j:=13) (by kernel_rfl) ho hdep)
   simp only [VUP] at x73
   have ny15:done 15=false:=not_yet (k:=14) (j:=15) (by kernel_rfl) hcl hnd
   have ny16:done 16=false:=not_yet (k:=15) (j:=16) (by kernel_rfl) hcl ny15
   have hw0:w=wr.drew:=by rw [hw];simp [hnd,ny15,ny16]
   subst hw0
   refine iv_valI (fun _=>trivial) (w':=wB) hB ho (wanted_none hgd) hd hS (by intro c;rw [hop];intro h;cases h) (by simp [upd,ny15,ny16]) ?_
   rw [← hwB]
   exact exec_slice55 (a:=⟨t,[]⟩) _ hop Z (by show t.getD 73 undef=_;rw [Array.getD_eq_getD_getElem?];exact x73) sZ _ B hB0
  | 15,_,ho,hnd,hdep=>
   obtain ⟨hd,hop,hgd⟩:=say_of sUP_15 ho
   have x60:t[60]?.getD undef=_:=hS.at dUP_0 (waits (j:=0) (by kernel_rfl) ho hdep)
   simp only [VUP] at x60
   have x74:t[74]?.getD undef=_:=hS.at dUP_14 (waits (j:=14) (by kernel_rfl) ho hdep)
   simp only [VUP] at x74
   have ny16:done 16=false:=not_yet (k:=15) (j:=16) (by kernel_rfl) hcl hnd
   have yes:done 14=true:=waits (j:=14) (by kernel_rfl) ho hdep
   have hw0:w=wB:=by rw [hw];simp [hnd,ny16,yes]
   subst hw0
   refine iv_valI (fun _=>trivial) (w':=wC) hB ho (wanted_none hgd) hd hS (by intro c;rw [hop];intro h;cases h) (by simp [upd,ny16]) ?_
   refine exec_app (a:=⟨t,[]⟩) (v:=v) (src:=.slice (some ⟨B,0,none⟩) 1 1) hop (by show t.getD 60 undef=_;rw [Array.getD_eq_getD_getElem?];exact x60) (by show t.getD 74 undef=_;rw [Array.getD_eq_getD_getElem?];exact x74) ?_
   rw [show op.type=31 from by have:=congrArg (·.map (·.type)) ho;simpa using this.symm.trans (show _=some 31 from by kernel_rfl)]
   exact hA
  | 16,_,ho,hnd,hdep=>
   obtain ⟨hd,hop,hgd⟩:=say_of sUP_16 ho
   have x75:t[75]?.getD undef=_:=hS.at dUP_15 (waits (j:=15) (by kernel_rfl) ho hdep)
   simp only [VUP] at x75
   have yes:done 15=true:=waits (j:=15) (by kernel_rfl) ho hdep
   have hw0:w=wC:=by rw [hw];simp [hnd,yes]
   subst hw0
   refine iv_storeI (fun _=>trivial) (w':=wD) ho (wanted_none hgd) hd hS (by intro c;rw [hop];intro h;cases h) (by simp [upd]) ?_
   obtain ⟨sp,sa,sb,rfl⟩:=hv2
   unfold execOp
   simp only [hop]
   simp [e6,x75,cC,fC,hwD,go_sem]
end Go.Proofs.YthfcanpkhjgomaaGreat.Th
