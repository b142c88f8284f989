import Derived.Test.YthfcanpkhjgomaaGreatVf
set_option maxRecDepth 100000
set_option maxHeartbeats 8000000
namespace Go.Proofs.YthfcanpkhjgomaaGreat
open Go.RowKit Ch
theorem was {ops:Array Oper} {k j:Nat} {done:Nat→Bool} (h:waitB ops k j=true) (hc:Closed ops done) (hk:done k=true):done j=true:=by
 cases hj:done j with
 | true=>rfl
 | false=>rw [not_yet h hc hj] at hk;cases hk
def MD (F:Bool→World→Prop) (wr:World) (r:Bool) (done:Nat→Bool) (w:World):Prop:=(done 10=false→Below wr.heap.size wr w)∧(done 10=true→F r w)
theorem MD.step {F:Bool→World→Prop} {wr:World} {r:Bool} {done:Nat→Bool} {w:World} (h:MD F wr r done w) {j:Nat} (h1:j≠10):MD F wr r (upd done j) w:=by
 unfold MD at *
 rw [upd_ne done (Ne.symm h1)]
 exact h
theorem backD:backB (opsAt Tryz.f59 4)=true:=by kernel_rfl
theorem dstD:dstB (opsAt Tryz.f59 4) 57=true:=by kernel_rfl
theorem sizeD:(opsAt Tryz.f59 4).size=13:=by kernel_rfl
theorem freeD4:freeB (opsAt Tryz.f59 4) 4=true:=by kernel_rfl
theorem freeD7:freeB (opsAt Tryz.f59 4) 7=true:=by kernel_rfl
theorem freeD9:freeB (opsAt Tryz.f59 4) 9=true:=by kernel_rfl
theorem freeD10:freeB (opsAt Tryz.f59 4) 10=true:=by kernel_rfl
theorem sD_0:say (opsAt Tryz.f59 4) 0=some (some 20,.load 24 (.tmp 9),none):=by kernel_rfl
theorem dD_0:slotB (opsAt Tryz.f59 4) 0=some 20:=by kernel_rfl
theorem sD_1:say (opsAt Tryz.f59 4) 1=some (some 21,.load 24 (.tmp 10),none):=by kernel_rfl
theorem dD_1:slotB (opsAt Tryz.f59 4) 1=some 21:=by kernel_rfl
theorem sD_2:say (opsAt Tryz.f59 4) 2=some (some 22,.binOp .neq 24 (.tmp 20) (.tmp 21) 24,none):=by kernel_rfl
theorem dD_2:slotB (opsAt Tryz.f59 4) 2=some 22:=by kernel_rfl
theorem sD_3:say (opsAt Tryz.f59 4) 3=some (some 23,.move (.tmp 22),none):=by kernel_rfl
theorem dD_3:slotB (opsAt Tryz.f59 4) 3=some 23:=by kernel_rfl
theorem sD_4:say (opsAt Tryz.f59 4) 4=some (some 24,.load 106 (.tmp 7),some (3,true)):=by kernel_rfl
theorem dD_4:slotB (opsAt Tryz.f59 4) 4=some 24:=by kernel_rfl
theorem sD_5:say (opsAt Tryz.f59 4) 5=some (some 25,.load 130 (.tmp 4),some (3,true)):=by kernel_rfl
theorem dD_5:slotB (opsAt Tryz.f59 4) 5=some 25:=by kernel_rfl
theorem sD_6:say (opsAt Tryz.f59 4) 6=some (some 26,.call { callee:=.value (.func 92),args:=#[.tmp 25],argTypes:=#[130] },some (3,true)):=by kernel_rfl
theorem dD_6:slotB (opsAt Tryz.f59 4) 6=some 26:=by kernel_rfl
theorem sD_7:say (opsAt Tryz.f59 4) 7=some (some 27,.load 24 (.tmp 9),some (3,true)):=by kernel_rfl
theorem dD_7:slotB (opsAt Tryz.f59 4) 7=some 27:=by kernel_rfl
theorem sD_8:say (opsAt Tryz.f59 4) 8=some (some 28,.load 24 (.tmp 10),some (3,true)):=by kernel_rfl
theorem dD_8:slotB (opsAt Tryz.f59 4) 8=some 28:=by kernel_rfl
theorem sD_9:say (opsAt Tryz.f59 4) 9=some (some 29,.build 66 #[(0,.tmp 26),(1,.tmp 27),(2,.tmp 28)],some (3,true)):=by kernel_rfl
theorem dD_9:slotB (opsAt Tryz.f59 4) 9=some 29:=by kernel_rfl
theorem sD_10:say (opsAt Tryz.f59 4) 10=some (some 30,.call { callee:=.value (.tmp 24),args:=#[.tmp 29],argTypes:=#[66] },some (3,true)):=by kernel_rfl
theorem dD_10:slotB (opsAt Tryz.f59 4) 10=some 30:=by kernel_rfl
theorem sD_11:say (opsAt Tryz.f59 4) 11=some (some 31,.unOp .not 4 (.tmp 30),some (3,true)):=by kernel_rfl
theorem dD_11:slotB (opsAt Tryz.f59 4) 11=some 31:=by kernel_rfl
theorem sD_12:say (opsAt Tryz.f59 4) 12=some (some 32,.pick (.tmp 23) (.tmp 31) (.const (.bool false)),none):=by kernel_rfl
def VD (_B _B1 _T _T1:Nat) (v:Value) (vo vn:Vd) (pp:ByteArray) (fv:Value) (r:Bool):Nat→Value
 | 0=>.agg (vx vo).toArray
 | 1=>.agg (vx vn).toArray
 | 2=>.bool true
 | 3=>.bool true
 | 4=>fv
 | 5=>v
 | 6=>.string pp
 | 7=>.agg (vx vo).toArray
 | 8=>.agg (vx vn).toArray
 | 9=>.agg (cc ⟨pp,cvV vo,cvV vn⟩)
 | 10=>.bool r
 | 11=>.bool (!r)
 | 12=>.bool (!r)
 | _=>undef
theorem regD (B B1 T T1:Nat) (v:Value) (vo vn:Vd) (pp:ByteArray) (fv:Value) (n0 gf:Nat) (cap:Array Value) (L:List ByteArray) (F:Bool→World→Prop) (t0:Array Value) (wr:World) {Q:Exit→Act→World→Prop} (ht:t0.size=57) (h4:t0.getD 4 undef=.pointer (some ⟨B,0,none⟩)) (h7:t0.getD 7 undef=.pointer (some ⟨B1,0,none⟩)) (h9:t0.getD 9 undef=.pointer (some ⟨T,0,none⟩)) (h10:t0.getD 10 undef=.pointer (some ⟨T1,0,none⟩))
  (hfv:fv=.func (.func gf) #[] cap) (eg:∀ args w,(callFunc gf args).run Tryz.prog w=.ok (.enter gf args) w) (hne:vo≠vn) (l9:Ch.Lies wr T 0 (vx vo).toArray) (l10:Ch.Lies wr T1 0 (vx vn).toArray) (c4:wr.cell? ⟨B,0,none⟩=some v) (c7:wr.cell? ⟨B1,0,none⟩=some fv)
  (hL:HasT wr v L) (hl:L.length≤1048577) (hj:(joinL (L.map tl)).length≤1048576) (hpp:ofB (joinL (L.map tl))=pp)
  (hC:∀ w,Below wr.heap.size wr w→Calls Tryz.prog gf (#[.agg (cc ⟨pp,cvV vo,cvV vn⟩)]++cap) w fun e w'=>∃ g,e=.returned (.bool g)∧F g w')
  (hQ:∀ r w,F r w→Q .normal ⟨fold (opsAt Tryz.f59 4) (VD B B1 T T1 v vo vn pp fv r) t0 13,[]⟩ w):(Code.region 4 (opsAt Tryz.f59 4) true).wpIn Fence.wide n0 Tryz.prog Q ⟨t0,[]⟩ wr:=by
 have hB:dstB (opsAt Tryz.f59 4) t0.size=true:=by rw [ht];exact dstD
 refine inv_regionIn (by kernel_rfl) (IE (opsAt Tryz.f59 4) (VD B B1 T T1 v vo vn pp fv) t0 (MD F wr)) backD ⟨true,t0,rfl,⟨rfl,fun _ _=>rfl,fun _ _ _ _ _ h=>by cases h⟩,(fun _=>Below.drews (Below.refl _ wr) ⟨1,rfl⟩),(fun h=>by cases h)⟩ ?_ ?_
 rotate_left 1
 ·rintro done a w ⟨r,t,rfl,hS,hM⟩ hall
  rw [hS.end hB hall,sizeD]
  exact hQ r w (hM.2 (hall 10 (by rw [sizeD];decide)))
 ·rintro jz op done a w ho ⟨r,t,rfl,hS,hM⟩ hnd hdep hcl
  have e4:t[4]?.getD undef=.pointer (some ⟨B,0,none⟩):=(hS.old freeD4).trans h4
  have e7:t[7]?.getD undef=.pointer (some ⟨B1,0,none⟩):=(hS.old freeD7).trans h7
  have e9:t[9]?.getD undef=.pointer (some ⟨T,0,none⟩):=(hS.old freeD9).trans h9
  have e10:t[10]?.getD undef=.pointer (some ⟨T1,0,none⟩):=(hS.old freeD10).trans h10
  have hlt:jz<13:=by rw [← sizeD];exact (Array.getElem?_eq_some_iff.1 ho).1
  match jz,hlt,ho,hnd,hdep with
  | 0,_,ho,hnd,hdep=>
   obtain ⟨hd,hop,hgd⟩:=say_of sD_0 ho
   have ny2:done 2=false:=not_yet (k:=0) (j:=2) (by kernel_rfl) hcl hnd
   have ny3:done 3=false:=not_yet (k:=2) (j:=3) (by kernel_rfl) hcl ny2
   have ny10:done 10=false:=not_yet (k:=3) (j:=10) (by kernel_rfl) hcl ny3
   refine ie_valI r (fun _=>trivial) hB ho (wanted_none hgd) hd hS (by intro c;rw [hop];intro h;cases h) (hM.step (by decide)) ?_
   have hb:=hM.1 ny10
   exact Ch.exec_load 24 _ hop T 0 (by show t.getD 9 undef=_;rw [Array.getD_eq_getD_getElem?];exact e9) (vx vo).toArray _ (l9.below hb) under24v rfl (by rw [size24v];simp [vx_len])
  | 1,_,ho,hnd,hdep=>
   obtain ⟨hd,hop,hgd⟩:=say_of sD_1 ho
   have ny2:done 2=false:=not_yet (k:=1) (j:=2) (by kernel_rfl) hcl hnd
   have ny3:done 3=false:=not_yet (k:=2) (j:=3) (by kernel_rfl) hcl ny2
   have ny10:done 10=false:=not_yet (k:=3) (j:=10) (by kernel_rfl) hcl ny3
   refine ie_valI r (fun _=>trivial) hB ho (wanted_none hgd) hd hS (by intro c;rw [hop];intro h;cases h) (hM.step (by decide)) ?_
   have hb:=hM.1 ny10
   exact Ch.exec_load 24 _ hop T1 0 (by show t.getD 10 undef=_;rw [Array.getD_eq_getD_getElem?];exact e10) (vx vn).toArray _ (l10.below hb) under24v rfl (by rw [size24v];simp [vx_len])
  | 2,_,ho,hnd,hdep=>
   obtain ⟨hd,hop,hgd⟩:=say_of sD_2 ho
   have x20:t[20]?.getD undef=_:=hS.at dD_0 (waits (j:=0) (by kernel_rfl) ho hdep)
   simp only [VD] at x20
   have x21:t[21]?.getD undef=_:=hS.at dD_1 (waits (j:=1) (by kernel_rfl) ho hdep)
   simp only [VD] at x21
   refine ie_valI r (fun _=>trivial) hB ho (wanted_none hgd) hd hS (by intro c;rw [hop];intro h;cases h) (hM.step (by decide)) ?_
   exact exec_neq24' _ _ hop _ _ (by show t.getD 20 undef=_;rw [Array.getD_eq_getD_getElem?];exact x20) (by show t.getD 21 undef=_;rw [Array.getD_eq_getD_getElem?];exact x21) vo vn rfl rfl true (by simp [hne]) _
  | 3,_,ho,hnd,hdep=>
   obtain ⟨hd,hop,hgd⟩:=say_of sD_3 ho
   have x22:t[22]?.getD undef=_:=hS.at dD_2 (waits (j:=2) (by kernel_rfl) ho hdep)
   simp only [VD] at x22
   refine ie_valI r (fun _=>trivial) hB ho (wanted_none hgd) hd hS (by intro c;rw [hop];intro h;cases h) (hM.step (by decide)) ?_
   unfold execOp
   simp only [hop]
   simp [x22,VD,go_sem]
  | 4,_,ho,hnd,hdep=>
   obtain ⟨hd,hop,hgd⟩:=say_of sD_4 ho
   have gx:t[23]?.getD undef=_:=hS.at dD_3 (waits (j:=3) (by kernel_rfl) ho hdep)
   simp only [VD] at gx
   have ny10:done 10=false:=not_yet (k:=4) (j:=10) (by kernel_rfl) hcl hnd
   refine ie_valI r (fun _=>trivial) hB ho (wanted_yes hgd dD_3 gx) hd hS (by intro c;rw [hop];intro h;cases h) (hM.step (by decide)) ?_
   have hb:=hM.1 ny10
   have cz:=(hb.cell (p:=⟨B1,0,none⟩) (World.block_lt_of_cell? wr _ c7)).trans c7
   unfold execOp
   simp only [hop]
   simp [e7,cz,VD,go_sem]
  | 5,_,ho,hnd,hdep=>
   obtain ⟨hd,hop,hgd⟩:=say_of sD_5 ho
   have gx:t[23]?.getD undef=_:=hS.at dD_3 (waits (j:=3) (by kernel_rfl) ho hdep)
   simp only [VD] at gx
   have ny6:done 6=false:=not_yet (k:=5) (j:=6) (by kernel_rfl) hcl hnd
   have ny10:done 10=false:=not_yet (k:=6) (j:=10) (by kernel_rfl) hcl ny6
   refine ie_valI r (fun _=>trivial) hB ho (wanted_yes hgd dD_3 gx) hd hS (by intro c;rw [hop];intro h;cases h) (hM.step (by decide)) ?_
   have hb:=hM.1 ny10
   have cz:=(hb.cell (p:=⟨B,0,none⟩) (World.block_lt_of_cell? wr _ c4)).trans c4
   unfold execOp
   simp only [hop]
   simp [e4,cz,VD,go_sem]
  | 6,_,ho,hnd,hdep=>
   obtain ⟨hd,hop,hgd⟩:=say_of sD_6 ho
   have gx:t[23]?.getD undef=_:=hS.at dD_3 (waits (j:=3) (by kernel_rfl) ho hdep)
   simp only [VD] at gx
   have x25:t[25]?.getD undef=_:=hS.at dD_5 (waits (j:=5) (by kernel_rfl) ho hdep)
   simp only [VD] at x25
   have ny10:done 10=false:=not_yet (k:=6) (j:=10) (by kernel_rfl) hcl hnd
   refine ie_callI r 92 #[v] (fun _=>trivial) (fun h=>by cases h) hB ho (wanted_yes hgd dD_3 gx) hd hS (by intro c;rw [hop];intro h;cases h) ?_ ?_
   ·skip
    unfold execOp
    simp only [hop]
    simp [x25,go_sem]
   ·skip
    have hb:=hM.1 ny10
    refine (callsIn_wide.2 (pathJoin_any v L w (hL.below hb) hl hj)).mono ?_
    rintro e w2 ⟨rfl,b2⟩
    refine ⟨r,by rw [hpp];rfl,fun _ _=>rfl,fun _=>hb.trans (b2.mono hb.size),fun h=>?_⟩
    rw [show upd done 6 10=done 10 from rfl,ny10] at h
    cases h
  | 7,_,ho,hnd,hdep=>
   obtain ⟨hd,hop,hgd⟩:=say_of sD_7 ho
   have gx:t[23]?.getD undef=_:=hS.at dD_3 (waits (j:=3) (by kernel_rfl) ho hdep)
   simp only [VD] at gx
   have ny9:done 9=false:=not_yet (k:=7) (j:=9) (by kernel_rfl) hcl hnd
   have ny10:done 10=false:=not_yet (k:=9) (j:=10) (by kernel_rfl) hcl ny9
   refine ie_valI r (fun _=>trivial) hB ho (wanted_yes hgd dD_3 gx) hd hS (by intro c;rw [hop];intro h;cases h) (hM.step (by decide)) ?_
   have hb:=hM.1 ny10
   exact Ch.exec_load 24 _ hop T 0 (by show t.getD 9 undef=_;rw [Array.getD_eq_getD_getElem?];exact e9) (vx vo).toArray _ (l9.below hb) under24v rfl (by rw [size24v];simp [vx_len])
  | 8,_,ho,hnd,hdep=>
   obtain ⟨hd,hop,hgd⟩:=say_of sD_8 ho
   have gx:t[23]?.getD undef=_:=hS.at dD_3 (waits (j:=3) (by kernel_rfl) ho hdep)
   simp only [VD] at gx
   have ny9:done 9=false:=not_yet (k:=8) (j:=9) (by kernel_rfl) hcl hnd
   have ny10:done 10=false:=not_yet (k:=9) (j:=10) (by kernel_rfl) hcl ny9
   refine ie_valI r (fun _=>trivial) hB ho (wanted_yes hgd dD_3 gx) hd hS (by intro c;rw [hop];intro h;cases h) (hM.step (by decide)) ?_
   have hb:=hM.1 ny10
   exact Ch.exec_load 24 _ hop T1 0 (by show t.getD 10 undef=_;rw [Array.getD_eq_getD_getElem?];exact e10) (vx vn).toArray _ (l10.below hb) under24v rfl (by rw [size24v];simp [vx_len])
  | 9,_,ho,hnd,hdep=>
   obtain ⟨hd,hop,hgd⟩:=say_of sD_9 ho
   have gx:t[23]?.getD undef=_:=hS.at dD_3 (waits (j:=3) (by kernel_rfl) ho hdep)
   simp only [VD] at gx
   have x26:t[26]?.getD undef=_:=hS.at dD_6 (waits (j:=6) (by kernel_rfl) ho hdep)
   simp only [VD] at x26
   have x27:t[27]?.getD undef=_:=hS.at dD_7 (waits (j:=7) (by kernel_rfl) ho hdep)
   simp only [VD] at x27
   have x28:t[28]?.getD undef=_:=hS.at dD_8 (waits (j:=8) (by kernel_rfl) ho hdep)
   simp only [VD] at x28
   have ny10:done 10=false:=not_yet (k:=9) (j:=10) (by kernel_rfl) hcl hnd
   refine ie_valI r (fun _=>trivial) hB ho (wanted_yes hgd dD_3 gx) hd hS (by intro c;rw [hop];intro h;cases h) (hM.step (by decide)) ?_
   exact Ch.exec_build55 _ _ _ hop pp (cvV vo) (cvV vn) (by show t.getD 26 undef=_;rw [Array.getD_eq_getD_getElem?];exact x26) (by show t.getD 27 undef=_;rw [Array.getD_eq_getD_getElem?];exact x27) (by show t.getD 28 undef=_;rw [Array.getD_eq_getD_getElem?];exact x28) _
  | 10,_,ho,hnd,hdep=>
   obtain ⟨hd,hop,hgd⟩:=say_of sD_10 ho
   have gx:t[23]?.getD undef=_:=hS.at dD_3 (waits (j:=3) (by kernel_rfl) ho hdep)
   simp only [VD] at gx
   have x24:t[24]?.getD undef=_:=hS.at dD_4 (waits (j:=4) (by kernel_rfl) ho hdep)
   simp only [VD] at x24
   have x29:t[29]?.getD undef=_:=hS.at dD_9 (waits (j:=9) (by kernel_rfl) ho hdep)
   simp only [VD] at x29
   have ny11:done 11=false:=not_yet (k:=10) (j:=11) (by kernel_rfl) hcl hnd
   have ny12:done 12=false:=not_yet (k:=11) (j:=12) (by kernel_rfl) hcl ny11
   refine ie_callI r gf (#[.agg (cc ⟨pp,cvV vo,cvV vn⟩)]++cap) (fun _=>trivial) (fun h=>by cases h) hB ho (wanted_yes hgd dD_3 gx) hd hS (by intro c;rw [hop];intro h;cases h) ?_ ?_
   ·skip
    unfold execOp
    simp only [hop]
    simp [x24,x29,hfv,eg,go_sem]
   ·skip
    have hb:=hM.1 hnd
    refine (callsIn_wide.2 (hC w hb)).mono ?_
    rintro e w2 ⟨g,rfl,hF⟩
    refine ⟨g,rfl,fun k hk=>?_,fun h=>(by cases h),fun _=>hF⟩
    have h1:k≠10:=fun e=>by rw [e,hnd] at hk;cases hk
    have h2:k≠11:=fun e=>by rw [e,ny11] at hk;cases hk
    have h3:k≠12:=fun e=>by rw [e,ny12] at hk;cases hk
    unfold VD
    split<;>first | rfl | exact absurd rfl h1 | exact absurd rfl h2 | exact absurd rfl h3
  | 11,_,ho,hnd,hdep=>
   obtain ⟨hd,hop,hgd⟩:=say_of sD_11 ho
   have gx:t[23]?.getD undef=_:=hS.at dD_3 (waits (j:=3) (by kernel_rfl) ho hdep)
   simp only [VD] at gx
   have x30:t[30]?.getD undef=_:=hS.at dD_10 (waits (j:=10) (by kernel_rfl) ho hdep)
   simp only [VD] at x30
   refine ie_valI r (fun _=>trivial) hB ho (wanted_yes hgd dD_3 gx) hd hS (by intro c;rw [hop];intro h;cases h) (hM.step (by decide)) ?_
   unfold execOp
   simp only [hop]
   simp [x30,VD,go_sem]
  | 12,_,ho,hnd,hdep=>
   obtain ⟨hd,hop,hgd⟩:=say_of sD_12 ho
   have x23:t[23]?.getD undef=_:=hS.at dD_3 (waits (j:=3) (by kernel_rfl) ho hdep)
   simp only [VD] at x23
   have x31:t[31]?.getD undef=_:=hS.at dD_11 (waits (j:=11) (by kernel_rfl) ho hdep)
   simp only [VD] at x31
   refine ie_valI r (fun _=>trivial) hB ho (wanted_none hgd) hd hS (by intro c;rw [hop];intro h;cases h) (hM.step (by decide)) ?_
   unfold execOp
   simp only [hop]
   simp [x23,x31,VD,go_sem]
theorem foldD (B B1 T T1:Nat) (v:Value) (vo vn:Vd) (pp:ByteArray) (fv:Value) (r:Bool) (t0:Array Value):fold (opsAt Tryz.f59 4) (VD B B1 T T1 v vo vn pp fv r) t0 13=(((((((((((((t0.setIfInBounds 20 (.agg (vx vo).toArray)).setIfInBounds 21 (.agg (vx vn).toArray)).setIfInBounds 22 (.bool true)).setIfInBounds 23 (.bool true)).setIfInBounds 24 (fv)).setIfInBounds 25 (v)).setIfInBounds 26 (.string pp)).setIfInBounds 27 (.agg (vx vo).toArray)).setIfInBounds 28 (.agg (vx vn).toArray)).setIfInBounds 29 (.agg (cc ⟨pp,cvV vo,cvV vn⟩))).setIfInBounds 30 (.bool r)).setIfInBounds 31 (.bool (!r))).setIfInBounds 32 (.bool (!r))):=by kernel_rfl
def VS (_T _T1:Nat) (vo:Vd) (_r:Unit):Nat→Value
 | 0=>.agg (vx vo).toArray
 | 1=>.agg (vx vo).toArray
 | 2=>.bool false
 | 3=>.bool false
 | 4=>undef
 | 5=>undef
 | 6=>undef
 | 7=>undef
 | 8=>undef
 | 9=>undef
 | 10=>undef
 | 11=>undef
 | 12=>.bool false
 | _=>undef
theorem regS (T T1:Nat) (vo:Vd) (n0:Nat) (t0:Array Value) (wr:World) {Q:Exit→Act→World→Prop} (ht:t0.size=57) (h9:t0.getD 9 undef=.pointer (some ⟨T,0,none⟩)) (h10:t0.getD 10 undef=.pointer (some ⟨T1,0,none⟩))
  (l9:Ch.Lies wr T 0 (vx vo).toArray) (l10:Ch.Lies wr T1 0 (vx vo).toArray)
  (hQ:∀ (r:Unit) w,Drew wr w→Q .normal ⟨fold (opsAt Tryz.f59 4) (VS T T1 vo r) t0 13,[]⟩ w):(Code.region 4 (opsAt Tryz.f59 4) true).wpIn Fence.wide n0 Tryz.prog Q ⟨t0,[]⟩ wr:=by
 have hB:dstB (opsAt Tryz.f59 4) t0.size=true:=by rw [ht];exact dstD
 refine inv_regionIn (by kernel_rfl) (IE (opsAt Tryz.f59 4) (VS T T1 vo) t0 ((fun (_:Unit) (_:Nat→Bool) (w:World)=>Drew wr w) )) backD ⟨(),t0,rfl,⟨rfl,fun _ _=>rfl,fun _ _ _ _ _ h=>by cases h⟩,⟨1,rfl⟩⟩ ?_ ?_
 rotate_left 1
 ·rintro done a w ⟨r,t,rfl,hS,hM⟩ hall
  rw [hS.end hB hall,sizeD]
  exact hQ r w hM
 ·rintro jz op done a w ho ⟨r,t,rfl,hS,hM⟩ hnd hdep hcl
  have e9:t[9]?.getD undef=.pointer (some ⟨T,0,none⟩):=(hS.old freeD9).trans h9
  have e10:t[10]?.getD undef=.pointer (some ⟨T1,0,none⟩):=(hS.old freeD10).trans h10
  have hlt:jz<13:=by rw [← sizeD];exact (Array.getElem?_eq_some_iff.1 ho).1
  match jz,hlt,ho,hnd,hdep with
  | 0,_,ho,hnd,hdep=>
   obtain ⟨hd,hop,hgd⟩:=say_of sD_0 ho
   refine ie_valI r (fun _=>trivial) hB ho (wanted_none hgd) hd hS (by intro c;rw [hop];intro h;cases h) hM ?_
   exact Ch.exec_load 24 _ hop T 0 (by show t.getD 9 undef=_;rw [Array.getD_eq_getD_getElem?];exact e9) (vx vo).toArray _ (l9.drew hM) under24v rfl (by rw [size24v];simp [vx_len])
  | 1,_,ho,hnd,hdep=>
   obtain ⟨hd,hop,hgd⟩:=say_of sD_1 ho
   refine ie_valI r (fun _=>trivial) hB ho (wanted_none hgd) hd hS (by intro c;rw [hop];intro h;cases h) hM ?_
   exact Ch.exec_load 24 _ hop T1 0 (by show t.getD 10 undef=_;rw [Array.getD_eq_getD_getElem?];exact e10) (vx vo).toArray _ (l10.drew hM) under24v rfl (by rw [size24v];simp [vx_len])
  | 2,_,ho,hnd,hdep=>
   obtain ⟨hd,hop,hgd⟩:=say_of sD_2 ho
   have x20:t[20]?.getD undef=_:=hS.at dD_0 (waits (j:=0) (by kernel_rfl) ho hdep)
   simp only [VS] at x20
   have x21:t[21]?.getD undef=_:=hS.at dD_1 (waits (j:=1) (by kernel_rfl) ho hdep)
   simp only [VS] at x21
   refine ie_valI r (fun _=>trivial) hB ho (wanted_none hgd) hd hS (by intro c;rw [hop];intro h;cases h) hM ?_
   exact exec_neq24' _ _ hop _ _ (by show t.getD 20 undef=_;rw [Array.getD_eq_getD_getElem?];exact x20) (by show t.getD 21 undef=_;rw [Array.getD_eq_getD_getElem?];exact x21) vo vo rfl rfl false (by simp) _
  | 3,_,ho,hnd,hdep=>
   obtain ⟨hd,hop,hgd⟩:=say_of sD_3 ho
   have x22:t[22]?.getD undef=_:=hS.at dD_2 (waits (j:=2) (by kernel_rfl) ho hdep)
   simp only [VS] at x22
   refine ie_valI r (fun _=>trivial) hB ho (wanted_none hgd) hd hS (by intro c;rw [hop];intro h;cases h) hM ?_
   unfold execOp
   simp only [hop]
   simp [x22,VS,go_sem]
  | 4,_,ho,hnd,hdep=>
   obtain ⟨hd,hop,hgd⟩:=say_of sD_4 ho
   have gx:t[23]?.getD undef=_:=hS.at dD_3 (waits (j:=3) (by kernel_rfl) ho hdep)
   simp only [VS] at gx
   exact ie_skipI r (fun _=>trivial) hB ho (wanted_no hgd dD_3 gx rfl) hd hS hM rfl
  | 5,_,ho,hnd,hdep=>
   obtain ⟨hd,hop,hgd⟩:=say_of sD_5 ho
   have gx:t[23]?.getD undef=_:=hS.at dD_3 (waits (j:=3) (by kernel_rfl) ho hdep)
   simp only [VS] at gx
   exact ie_skipI r (fun _=>trivial) hB ho (wanted_no hgd dD_3 gx rfl) hd hS hM rfl
  | 6,_,ho,hnd,hdep=>
   obtain ⟨hd,hop,hgd⟩:=say_of sD_6 ho
   have gx:t[23]?.getD undef=_:=hS.at dD_3 (waits (j:=3) (by kernel_rfl) ho hdep)
   simp only [VS] at gx
   exact ie_skipI r (fun _=>trivial) hB ho (wanted_no hgd dD_3 gx rfl) hd hS hM rfl
  | 7,_,ho,hnd,hdep=>
   obtain ⟨hd,hop,hgd⟩:=say_of sD_7 ho
   have gx:t[23]?.getD undef=_:=hS.at dD_3 (waits (j:=3) (by kernel_rfl) ho hdep)
   simp only [VS] at gx
   exact ie_skipI r (fun _=>trivial) hB ho (wanted_no hgd dD_3 gx rfl) hd hS hM rfl
  | 8,_,ho,hnd,hdep=>
   obtain ⟨hd,hop,hgd⟩:=say_of sD_8 ho
   have gx:t[23]?.getD undef=_:=hS.at dD_3 (waits (j:=3) (by kernel_rfl) ho hdep)
   simp only [VS] at gx
   exact ie_skipI r (fun _=>trivial) hB ho (wanted_no hgd dD_3 gx rfl) hd hS hM rfl
  | 9,_,ho,hnd,hdep=>
   obtain ⟨hd,hop,hgd⟩:=say_of sD_9 ho
   have gx:t[23]?.getD undef=_:=hS.at dD_3 (waits (j:=3) (by kernel_rfl) ho hdep)
   simp only [VS] at gx
   exact ie_skipI r (fun _=>trivial) hB ho (wanted_no hgd dD_3 gx rfl) hd hS hM rfl
  | 10,_,ho,hnd,hdep=>
   obtain ⟨hd,hop,hgd⟩:=say_of sD_10 ho
   have gx:t[23]?.getD undef=_:=hS.at dD_3 (waits (j:=3) (by kernel_rfl) ho hdep)
   simp only [VS] at gx
   exact ie_skipI r (fun _=>trivial) hB ho (wanted_no hgd dD_3 gx rfl) hd hS hM rfl
  | 11,_,ho,hnd,hdep=>
   obtain ⟨hd,hop,hgd⟩:=say_of sD_11 ho
   have gx:t[23]?.getD undef=_:=hS.at dD_3 (waits (j:=3) (by kernel_rfl) ho hdep)
   simp only [VS] at gx
   exact ie_skipI r (fun _=>trivial) hB ho (wanted_no hgd dD_3 gx rfl) hd hS hM rfl
  | 12,_,ho,hnd,hdep=>
   obtain ⟨hd,hop,hgd⟩:=say_of sD_12 ho
   have x23:t[23]?.getD undef=_:=hS.at dD_3 (waits (j:=3) (by kernel_rfl) ho hdep)
   simp only [VS] at x23
   have x31:t[31]?.getD undef=_:=hS.at dD_11 (waits (j:=11) (by kernel_rfl) ho hdep)
   simp only [VS] at x31
   refine ie_valI r (fun _=>trivial) hB ho (wanted_none hgd) hd hS (by intro c;rw [hop];intro h;cases h) hM ?_
   unfold execOp
   simp only [hop]
   simp [x23,x31,VS,go_sem]
theorem foldS (T T1:Nat) (vo:Vd) (r:Unit) (t0:Array Value):fold (opsAt Tryz.f59 4) (VS T T1 vo r) t0 13=(((((((((((((t0.setIfInBounds 20 (.agg (vx vo).toArray)).setIfInBounds 21 (.agg (vx vo).toArray)).setIfInBounds 22 (.bool false)).setIfInBounds 23 (.bool false)).setIfInBounds 24 (undef)).setIfInBounds 25 (undef)).setIfInBounds 26 (undef)).setIfInBounds 27 (undef)).setIfInBounds 28 (undef)).setIfInBounds 29 (undef)).setIfInBounds 30 (undef)).setIfInBounds 31 (undef)).setIfInBounds 32 (.bool false)):=by kernel_rfl
structure Lw where
 g:Bool
 w:World
def MW (F:Lw→Prop) (w1 w2 w3 wr:World) (r:Lw) (done:Nat→Bool) (w:World):Prop:=(done 15=true→F r)∧w=(if done 15=true then r.w else if done 9=true then w3 else if done 8=true then w2 else if done 3=true then w1 else wr.drew)
theorem MW.step {F:Lw→Prop} {w1 w2 w3 wr:World} {r:Lw} {done:Nat→Bool} {w:World} (h:MW F w1 w2 w3 wr r done w) {j:Nat} (h1:j≠15) (h2:j≠9) (h3:j≠8) (h4:j≠3):MW F w1 w2 w3 wr r (upd done j) w:=by
 unfold MW at *
 rw [upd_ne done (Ne.symm h1),upd_ne done (Ne.symm h2),upd_ne done (Ne.symm h3),upd_ne done (Ne.symm h4)]
 exact h
theorem backW:backB (opsAt Tryz.f59 9)=true:=by kernel_rfl
theorem dstW:dstB (opsAt Tryz.f59 9) 57=true:=by kernel_rfl
theorem sizeW:(opsAt Tryz.f59 9).size=17:=by kernel_rfl
theorem freeW4:freeB (opsAt Tryz.f59 9) 4=true:=by kernel_rfl
theorem freeW7:freeB (opsAt Tryz.f59 9) 7=true:=by kernel_rfl
theorem freeW11:freeB (opsAt Tryz.f59 9) 11=true:=by kernel_rfl
theorem freeW12:freeB (opsAt Tryz.f59 9) 12=true:=by kernel_rfl
theorem sW_0:say (opsAt Tryz.f59 9) 0=some (some 40,.load 130 (.tmp 4),none):=by kernel_rfl
theorem dW_0:slotB (opsAt Tryz.f59 9) 0=some 40:=by kernel_rfl
theorem sW_1:say (opsAt Tryz.f59 9) 1=some (some 41,.move (.tmp 11),none):=by kernel_rfl
theorem dW_1:slotB (opsAt Tryz.f59 9) 1=some 41:=by kernel_rfl
theorem sW_2:say (opsAt Tryz.f59 9) 2=some (some 42,.move (.tmp 12),none):=by kernel_rfl
theorem dW_2:slotB (opsAt Tryz.f59 9) 2=some 42:=by kernel_rfl
theorem sW_3:say (opsAt Tryz.f59 9) 3=some (some 43,.buildSlice 213 2 #[(0,.tmp 41),(1,.tmp 42)],none):=by kernel_rfl
theorem dW_3:slotB (opsAt Tryz.f59 9) 3=some 43:=by kernel_rfl
theorem sW_4:say (opsAt Tryz.f59 9) 4=some (some 44,.call { callee:=.value (.func 96),args:=#[.tmp 43],argTypes:=#[213] },none):=by kernel_rfl
theorem dW_4:slotB (opsAt Tryz.f59 9) 4=some 44:=by kernel_rfl
theorem sW_5:say (opsAt Tryz.f59 9) 5=some (some 45,.nilCheck (.tmp 44),none):=by kernel_rfl
theorem dW_5:slotB (opsAt Tryz.f59 9) 5=some 45:=by kernel_rfl
theorem sW_6:say (opsAt Tryz.f59 9) 6=some (some 46,.fieldAddr 183 (.tmp 45) 0,none):=by kernel_rfl
theorem dW_6:slotB (opsAt Tryz.f59 9) 6=some 46:=by kernel_rfl
theorem sW_7:say (opsAt Tryz.f59 9) 7=some (some 47,.load 9 (.tmp 46),none):=by kernel_rfl
theorem dW_7:slotB (opsAt Tryz.f59 9) 7=some 47:=by kernel_rfl
theorem sW_8:say (opsAt Tryz.f59 9) 8=some (some 48,.buildSlice 130 1 #[(0,.tmp 47)],none):=by kernel_rfl
theorem dW_8:slotB (opsAt Tryz.f59 9) 8=some 48:=by kernel_rfl
theorem sW_9:say (opsAt Tryz.f59 9) 9=some (some 49,.call { callee:=.builtin .append,args:=#[.tmp 40,.tmp 48],argTypes:=#[130,130] },none):=by kernel_rfl
theorem dW_9:slotB (opsAt Tryz.f59 9) 9=some 49:=by kernel_rfl
theorem sW_10:say (opsAt Tryz.f59 9) 10=some (some 50,.move (.tmp 11),none):=by kernel_rfl
theorem dW_10:slotB (opsAt Tryz.f59 9) 10=some 50:=by kernel_rfl
theorem sW_11:say (opsAt Tryz.f59 9) 11=some (some 51,.call { callee:=.value (.func 97),args:=#[.tmp 50],argTypes:=#[187] },none):=by kernel_rfl
theorem dW_11:slotB (opsAt Tryz.f59 9) 11=some 51:=by kernel_rfl
theorem sW_12:say (opsAt Tryz.f59 9) 12=some (some 52,.move (.tmp 12),none):=by kernel_rfl
theorem dW_12:slotB (opsAt Tryz.f59 9) 12=some 52:=by kernel_rfl
theorem sW_13:say (opsAt Tryz.f59 9) 13=some (some 53,.call { callee:=.value (.func 97),args:=#[.tmp 52],argTypes:=#[187] },none):=by kernel_rfl
theorem dW_13:slotB (opsAt Tryz.f59 9) 13=some 53:=by kernel_rfl
theorem sW_14:say (opsAt Tryz.f59 9) 14=some (some 54,.load 106 (.tmp 7),none):=by kernel_rfl
theorem dW_14:slotB (opsAt Tryz.f59 9) 14=some 54:=by kernel_rfl
theorem sW_15:say (opsAt Tryz.f59 9) 15=some (some 55,.call { callee:=.value (.func 59),args:=#[.tmp 49,.tmp 51,.tmp 53,.tmp 54],argTypes:=#[130,34,34,106] },none):=by kernel_rfl
theorem dW_15:slotB (opsAt Tryz.f59 9) 15=some 55:=by kernel_rfl
theorem sW_16:say (opsAt Tryz.f59 9) 16=some (some 56,.unOp .not 4 (.tmp 55),none):=by kernel_rfl
def VW (_B _B1 D E g o:Nat) (v v3 fv sx sy:Value) (p1 p2:Option Addr) (nm:ByteArray) (r:Lw):Nat→Value
 | 0=>v
 | 1=>.pointer p1
 | 2=>.pointer p2
 | 3=>.slice (some ⟨D,0,none⟩) 2 2
 | 4=>.pointer (some ⟨g,o,none⟩)
 | 5=>.pointer (some ⟨g,o,none⟩)
 | 6=>.pointer (some ⟨g,o,none⟩)
 | 7=>.string nm
 | 8=>.slice (some ⟨E,0,none⟩) 1 1
 | 9=>v3
 | 10=>.pointer p1
 | 11=>sx
 | 12=>.pointer p2
 | 13=>sy
 | 14=>fv
 | 15=>.bool r.g
 | 16=>.bool (!r.g)
 | _=>undef
theorem regW (B B1 D E g o:Nat) (v v3 fv sx sy:Value) (p1 p2:Option Addr) (nm:ByteArray) (l n0:Nat) (w1 w2 w3:World) (F:Lw→Prop) (t0:Array Value) (wr:World) {Q:Exit→Act→World→Prop} (ht:t0.size=57) (h4:t0.getD 4 undef=.pointer (some ⟨B,0,none⟩)) (h7:t0.getD 7 undef=.pointer (some ⟨B1,0,none⟩)) (h11:t0.getD 11 undef=.pointer p1) (h12:t0.getD 12 undef=.pointer p2)
  (c40:wr.drew.cell? ⟨B,0,none⟩=some v) (c41:w1.cell? ⟨B,0,none⟩=some v) (c42:w2.cell? ⟨B,0,none⟩=some v) (d0:wr.drew.cell? ⟨B1,0,none⟩=some fv) (d1:w1.cell? ⟨B1,0,none⟩=some fv) (d2:w2.cell? ⟨B1,0,none⟩=some fv) (d3:w3.cell? ⟨B1,0,none⟩=some fv)
  (hb3:∀ (op:Oper) (a:Act),op.op=.buildSlice 213 2 #[(0,.tmp 41),(1,.tmp 42)]→a.eval (.tmp 41)=.pointer p1→a.eval (.tmp 42)=.pointer p2→(execOp a.eval op).run Tryz.prog wr.drew=.ok (.value (.slice (some ⟨D,0,none⟩) 2 2)) w1)
  (hb8:∀ (op:Oper) (a:Act),op.op=.buildSlice 130 1 #[(0,.tmp 47)]→a.eval (.tmp 47)=.string nm→(execOp a.eval op).run Tryz.prog w1=.ok (.value (.slice (some ⟨E,0,none⟩) 1 1)) w2)
  (m0:w1.cell? ⟨D,0,none⟩=some (.pointer p1)) (m1:w1.cell? ⟨D,1,none⟩=some (.pointer p2)) (hor:orP p1 p2=some ⟨g,o,none⟩) (cn:w1.cell? ⟨g,o,none⟩=some (.string nm))
  (ha9:(Builtin.append_ #[130,130] 130 #[v,.slice (some ⟨E,0,none⟩) 1 1]).run Tryz.prog w2=.ok v3 w3)
  (hS1:Calls Tryz.prog 97 #[.pointer p1] w3 fun e w'=>e=.returned sx∧w'=w3) (hS2:Calls Tryz.prog 97 #[.pointer p2] w3 fun e w'=>e=.returned sy∧w'=w3)
  (hC:Calls Tryz.prog 59 #[v3,sx,sy,fv] w3 fun e w'=>∃ r:Lw,e=.returned (.bool r.g)∧r.w=w'∧F r)
  (hQ:∀ r,F r→Q .normal ⟨fold (opsAt Tryz.f59 9) (VW B B1 D E g o v v3 fv sx sy p1 p2 nm r) t0 17,[]⟩ r.w):(Code.region 9 (opsAt Tryz.f59 9) true).wpIn (Fence.wide.inRound l) n0 Tryz.prog Q ⟨t0,[]⟩ wr:=by
 have hB:dstB (opsAt Tryz.f59 9) t0.size=true:=by rw [ht];exact dstW
 refine inv_regionIn (by kernel_rfl) (IE (opsAt Tryz.f59 9) (VW B B1 D E g o v v3 fv sx sy p1 p2 nm) t0 (MW F w1 w2 w3 wr)) backW ⟨⟨true,wr⟩,t0,rfl,⟨rfl,fun _ _=>rfl,fun _ _ _ _ _ h=>by cases h⟩,(fun h=>by cases h),by simp⟩ ?_ ?_
 rotate_left 1
 ·rintro done a w ⟨r,t,rfl,hS,hM⟩ hall
  rw [hS.end hB hall,sizeW]
  have a15:=hall 15 (by rw [sizeW];decide)
  have hw:=hM.2
  rw [a15,if_pos rfl] at hw
  rw [hw]
  exact hQ r (hM.1 a15)
 ·rintro jz op done a w ho ⟨r,t,rfl,hS,hM⟩ hnd hdep hcl
  have e4:t[4]?.getD undef=.pointer (some ⟨B,0,none⟩):=(hS.old freeW4).trans h4
  have e7:t[7]?.getD undef=.pointer (some ⟨B1,0,none⟩):=(hS.old freeW7).trans h7
  have e11:t[11]?.getD undef=.pointer p1:=(hS.old freeW11).trans h11
  have e12:t[12]?.getD undef=.pointer p2:=(hS.old freeW12).trans h12
  have hlt:jz<17:=by rw [← sizeW];exact (Array.getElem?_eq_some_iff.1 ho).1
  match jz,hlt,ho,hnd,hdep with
  | 0,_,ho,hnd,hdep=>
   obtain ⟨hd,hop,hgd⟩:=say_of sW_0 ho
   have ny9:done 9=false:=not_yet (k:=0) (j:=9) (by kernel_rfl) hcl hnd
   have ny15:done 15=false:=not_yet (k:=9) (j:=15) (by kernel_rfl) hcl ny9
   have cz:w.cell? ⟨B,0,none⟩=some v:=by
    rw [hM.2]
    simp only [ny15,ny9,Bool.false_eq_true,if_false]
    split
    ·exact c42
    ·split
     ·exact c41
     ·exact c40
   refine ie_valI r (fun _=>trivial) hB ho (wanted_none hgd) hd hS (by intro c;rw [hop];intro h;cases h) (hM.step (by decide) (by decide) (by decide) (by decide)) ?_
   unfold execOp
   simp only [hop]
   simp [e4,VW,cz,go_sem]
  | 1,_,ho,hnd,hdep=>
   obtain ⟨hd,hop,hgd⟩:=say_of sW_1 ho
   refine ie_valI r (fun _=>trivial) hB ho (wanted_none hgd) hd hS (by intro c;rw [hop];intro h;cases h) (hM.step (by decide) (by decide) (by decide) (by decide)) ?_
   unfold execOp
   simp only [hop]
   simp [e11,VW,go_sem]
  | 2,_,ho,hnd,hdep=>
   obtain ⟨hd,hop,hgd⟩:=say_of sW_2 ho
   refine ie_valI r (fun _=>trivial) hB ho (wanted_none hgd) hd hS (by intro c;rw [hop];intro h;cases h) (hM.step (by decide) (by decide) (by decide) (by decide)) ?_
   unfold execOp
   simp only [hop]
   simp [e12,VW,go_sem]
  | 3,_,ho,hnd,hdep=>
   obtain ⟨hd,hop,hgd⟩:=say_of sW_3 ho
   have x41:t[41]?.getD undef=_:=hS.at dW_1 (waits (j:=1) (by kernel_rfl) ho hdep)
   simp only [VW] at x41
   have x42:t[42]?.getD undef=_:=hS.at dW_2 (waits (j:=2) (by kernel_rfl) ho hdep)
   simp only [VW] at x42
   have ny4:done 4=false:=not_yet (k:=3) (j:=4) (by kernel_rfl) hcl hnd
   have ny5:done 5=false:=not_yet (k:=4) (j:=5) (by kernel_rfl) hcl ny4
   have ny6:done 6=false:=not_yet (k:=5) (j:=6) (by kernel_rfl) hcl ny5
   have ny7:done 7=false:=not_yet (k:=6) (j:=7) (by kernel_rfl) hcl ny6
   have ny8:done 8=false:=not_yet (k:=7) (j:=8) (by kernel_rfl) hcl ny7
   have ny9:done 9=false:=not_yet (k:=4) (j:=9) (by kernel_rfl) hcl ny4
   have ny15:done 15=false:=not_yet (k:=9) (j:=15) (by kernel_rfl) hcl ny9
   have hw0:w=wr.drew:=by rw [hM.2];simp [ny8,ny9,ny15,hnd]
   subst hw0
   refine ie_valI (w':=w1) r (fun _=>trivial) hB ho (wanted_none hgd) hd hS (by intro c;rw [hop];intro h;cases h) ⟨fun h=>by simp [upd,ny15] at h,by simp [upd,ny8,ny9,ny15]⟩ ?_
   exact hb3 _ (Act.mk t []) hop (by show t.getD 41 undef=_;rw [Array.getD_eq_getD_getElem?];exact x41) (by show t.getD 42 undef=_;rw [Array.getD_eq_getD_getElem?];exact x42)
  | 4,_,ho,hnd,hdep=>
   obtain ⟨hd,hop,hgd⟩:=say_of sW_4 ho
   have x43:t[43]?.getD undef=_:=hS.at dW_3 (waits (j:=3) (by kernel_rfl) ho hdep)
   simp only [VW] at x43
   have ny5:done 5=false:=not_yet (k:=4) (j:=5) (by kernel_rfl) hcl hnd
   have ny6:done 6=false:=not_yet (k:=5) (j:=6) (by kernel_rfl) hcl ny5
   have ny7:done 7=false:=not_yet (k:=6) (j:=7) (by kernel_rfl) hcl ny6
   have ny8:done 8=false:=not_yet (k:=7) (j:=8) (by kernel_rfl) hcl ny7
   have ny9:done 9=false:=not_yet (k:=4) (j:=9) (by kernel_rfl) hcl hnd
   have ny15:done 15=false:=not_yet (k:=9) (j:=15) (by kernel_rfl) hcl ny9
   have a3:done 3=true:=waits (j:=3) (by kernel_rfl) ho hdep
   have hw0:w=w1:=by rw [hM.2];simp [ny8,ny9,ny15,a3]
   subst hw0
   refine ie_callI r 96 #[.slice (some ⟨D,0,none⟩) 2 2] (fun _=>trivial) (fun h=>by cases h) hB ho (wanted_none hgd) hd hS (by intro c;rw [hop];intro h;cases h) ?_ ?_
   ·skip
    unfold execOp
    simp only [hop]
    simp [x43,go_sem]
   ·skip
    refine (callsIn_wide.2 (cmpOr_any D p1 p2 _ m0 m1)).mono ?_
    rintro e w9 ⟨rfl,e9⟩
    rw [e9]
    exact ⟨r,by rw [hor];rfl,fun _ _=>rfl,hM.step (by decide) (by decide) (by decide) (by decide)⟩
  | 5,_,ho,hnd,hdep=>
   obtain ⟨hd,hop,hgd⟩:=say_of sW_5 ho
   have x44:t[44]?.getD undef=_:=hS.at dW_4 (waits (j:=4) (by kernel_rfl) ho hdep)
   simp only [VW] at x44
   refine ie_valI r (fun _=>trivial) hB ho (wanted_none hgd) hd hS (by intro c;rw [hop];intro h;cases h) (hM.step (by decide) (by decide) (by decide) (by decide)) ?_
   unfold execOp
   simp only [hop]
   simp [x44,VW,go_sem]
  | 6,_,ho,hnd,hdep=>
   obtain ⟨hd,hop,hgd⟩:=say_of sW_6 ho
   have x45:t[45]?.getD undef=_:=hS.at dW_5 (waits (j:=5) (by kernel_rfl) ho hdep)
   simp only [VW] at x45
   refine ie_valI r (fun _=>trivial) hB ho (wanted_none hgd) hd hS (by intro c;rw [hop];intro h;cases h) (hM.step (by decide) (by decide) (by decide) (by decide)) ?_
   unfold execOp
   simp only [hop]
   simp [x45,VW,go_sem]
  | 7,_,ho,hnd,hdep=>
   obtain ⟨hd,hop,hgd⟩:=say_of sW_7 ho
   have x46:t[46]?.getD undef=_:=hS.at dW_6 (waits (j:=6) (by kernel_rfl) ho hdep)
   simp only [VW] at x46
   have ny8:done 8=false:=not_yet (k:=7) (j:=8) (by kernel_rfl) hcl hnd
   have ny9:done 9=false:=not_yet (k:=8) (j:=9) (by kernel_rfl) hcl ny8
   have ny15:done 15=false:=not_yet (k:=9) (j:=15) (by kernel_rfl) hcl ny9
   have a6:done 6=true:=waits (j:=6) (by kernel_rfl) ho hdep
   have a5:done 5=true:=was (k:=6) (j:=5) (by kernel_rfl) hcl a6
   have a4:done 4=true:=was (k:=5) (j:=4) (by kernel_rfl) hcl a5
   have a3:done 3=true:=was (k:=4) (j:=3) (by kernel_rfl) hcl a4
   have hw0:w=w1:=by rw [hM.2];simp [ny8,ny9,ny15,a3]
   subst hw0
   refine ie_valI r (fun _=>trivial) hB ho (wanted_none hgd) hd hS (by intro c;rw [hop];intro h;cases h) (hM.step (by decide) (by decide) (by decide) (by decide)) ?_
   unfold execOp
   simp only [hop]
   simp [x46,VW,cn,go_sem]
  | 8,_,ho,hnd,hdep=>
   obtain ⟨hd,hop,hgd⟩:=say_of sW_8 ho
   have x47:t[47]?.getD undef=_:=hS.at dW_7 (waits (j:=7) (by kernel_rfl) ho hdep)
   simp only [VW] at x47
   have ny9:done 9=false:=not_yet (k:=8) (j:=9) (by kernel_rfl) hcl hnd
   have ny15:done 15=false:=not_yet (k:=9) (j:=15) (by kernel_rfl) hcl ny9
   have a7:done 7=true:=waits (j:=7) (by kernel_rfl) ho hdep
   have a6:done 6=true:=was (k:=7) (j:=6) (by kernel_rfl) hcl a7
   have a5:done 5=true:=was (k:=6) (j:=5) (by kernel_rfl) hcl a6
   have a4:done 4=true:=was (k:=5) (j:=4) (by kernel_rfl) hcl a5
   have a3:done 3=true:=was (k:=4) (j:=3) (by kernel_rfl) hcl a4
   have hw0:w=w1:=by rw [hM.2];simp [hnd,ny9,ny15,a3]
   subst hw0
   refine ie_valI (w':=w2) r (fun _=>trivial) hB ho (wanted_none hgd) hd hS (by intro c;rw [hop];intro h;cases h) ⟨fun h=>by simp [upd,ny15] at h,by simp [upd,ny9,ny15]⟩ ?_
   exact hb8 _ (Act.mk t []) hop (by show t.getD 47 undef=_;rw [Array.getD_eq_getD_getElem?];exact x47)
  | 9,_,ho,hnd,hdep=>
   obtain ⟨hd,hop,hgd⟩:=say_of sW_9 ho
   have x40:t[40]?.getD undef=_:=hS.at dW_0 (waits (j:=0) (by kernel_rfl) ho hdep)
   simp only [VW] at x40
   have x48:t[48]?.getD undef=_:=hS.at dW_8 (waits (j:=8) (by kernel_rfl) ho hdep)
   simp only [VW] at x48
   have ny15:done 15=false:=not_yet (k:=9) (j:=15) (by kernel_rfl) hcl hnd
   have a8:done 8=true:=waits (j:=8) (by kernel_rfl) ho hdep
   have a4:done 4=true:=waits (j:=4) (by kernel_rfl) ho hdep
   have a3:done 3=true:=was (k:=4) (j:=3) (by kernel_rfl) hcl a4
   have hw0:w=w2:=by rw [hM.2];simp [hnd,ny15,a8]
   subst hw0
   refine ie_valI (w':=w3) r (fun _=>trivial) hB ho (wanted_none hgd) hd hS (by intro c;rw [hop];intro h;cases h) ⟨fun h=>by simp [upd,ny15] at h,by simp [upd,ny15]⟩ ?_
   unfold execOp
   have ht2:op.type=130:=by have:=congrArg (·.map (·.type)) ho;simpa using this.symm.trans (show _=some 130 from by kernel_rfl)
   simp only [hop,ht2,resolve,invoke,builtin,Sem.run_bind,Sem.run_pure,Result.andThen_ok,List.map_toArray,List.map_cons,List.map_nil]
   have ex:(Act.mk t []).eval (.tmp 40)=v:=(by show t.getD 40 undef=_;rw [Array.getD_eq_getD_getElem?];exact x40)
   have ey:(Act.mk t []).eval (.tmp 48)=.slice (some ⟨E,0,none⟩) 1 1:=(by show t.getD 48 undef=_;rw [Array.getD_eq_getD_getElem?];exact x48)
   rw [ex,ey,ha9]
   rfl
  | 10,_,ho,hnd,hdep=>
   obtain ⟨hd,hop,hgd⟩:=say_of sW_10 ho
   refine ie_valI r (fun _=>trivial) hB ho (wanted_none hgd) hd hS (by intro c;rw [hop];intro h;cases h) (hM.step (by decide) (by decide) (by decide) (by decide)) ?_
   unfold execOp
   simp only [hop]
   simp [e11,VW,go_sem]
  | 11,_,ho,hnd,hdep=>
   obtain ⟨hd,hop,hgd⟩:=say_of sW_11 ho
   have x50:t[50]?.getD undef=_:=hS.at dW_10 (waits (j:=10) (by kernel_rfl) ho hdep)
   simp only [VW] at x50
   have ny15:done 15=false:=not_yet (k:=11) (j:=15) (by kernel_rfl) hcl hnd
   have a9:done 9=true:=waits (j:=9) (by kernel_rfl) ho hdep
   have hw0:w=w3:=by rw [hM.2];simp [ny15,a9]
   subst hw0
   refine ie_callI r 97 #[.pointer p1] (fun _=>trivial) (fun h=>by cases h) hB ho (wanted_none hgd) hd hS (by intro c;rw [hop];intro h;cases h) ?_ ?_
   ·skip
    unfold execOp
    simp only [hop]
    simp [x50,go_sem]
   ·skip
    refine (callsIn_wide.2 hS1).mono ?_
    rintro e w9 ⟨rfl,e9⟩
    rw [e9]
    exact ⟨r,rfl,fun _ _=>rfl,hM.step (by decide) (by decide) (by decide) (by decide)⟩
  | 12,_,ho,hnd,hdep=>
   obtain ⟨hd,hop,hgd⟩:=say_of sW_12 ho
   refine ie_valI r (fun _=>trivial) hB ho (wanted_none hgd) hd hS (by intro c;rw [hop];intro h;cases h) (hM.step (by decide) (by decide) (by decide) (by decide)) ?_
   unfold execOp
   simp only [hop]
   simp [e12,VW,go_sem]
  | 13,_,ho,hnd,hdep=>
   obtain ⟨hd,hop,hgd⟩:=say_of sW_13 ho
   have x52:t[52]?.getD undef=_:=hS.at dW_12 (waits (j:=12) (by kernel_rfl) ho hdep)
   simp only [VW] at x52
   have ny15:done 15=false:=not_yet (k:=13) (j:=15) (by kernel_rfl) hcl hnd
   have a11:done 11=true:=waits (j:=11) (by kernel_rfl) ho hdep
   have a9:done 9=true:=was (k:=11) (j:=9) (by kernel_rfl) hcl a11
   have hw0:w=w3:=by rw [hM.2];simp [ny15,a9]
   subst hw0
   refine ie_callI r 97 #[.pointer p2] (fun _=>trivial) (fun h=>by cases h) hB ho (wanted_none hgd) hd hS (by intro c;rw [hop];intro h;cases h) ?_ ?_
   ·skip
    unfold execOp
    simp only [hop]
    simp [x52,go_sem]
   ·skip
    refine (callsIn_wide.2 hS2).mono ?_
    rintro e w9 ⟨rfl,e9⟩
    rw [e9]
    exact ⟨r,rfl,fun _ _=>rfl,hM.step (by decide) (by decide) (by decide) (by decide)⟩
  | 14,_,ho,hnd,hdep=>
   obtain ⟨hd,hop,hgd⟩:=say_of sW_14 ho
   have ny15:done 15=false:=not_yet (k:=14) (j:=15) (by kernel_rfl) hcl hnd
   have cz:w.cell? ⟨B1,0,none⟩=some fv:=by
    rw [hM.2]
    simp only [ny15,Bool.false_eq_true,if_false]
    split
    ·exact d3
    ·split
     ·exact d2
     ·split
      ·exact d1
      ·exact d0
   refine ie_valI r (fun _=>trivial) hB ho (wanted_none hgd) hd hS (by intro c;rw [hop];intro h;cases h) (hM.step (by decide) (by decide) (by decide) (by decide)) ?_
   unfold execOp
   simp only [hop]
   simp [e7,VW,cz,go_sem]
  | 15,_,ho,hnd,hdep=>
   obtain ⟨hd,hop,hgd⟩:=say_of sW_15 ho
   have x49:t[49]?.getD undef=_:=hS.at dW_9 (waits (j:=9) (by kernel_rfl) ho hdep)
   simp only [VW] at x49
   have x51:t[51]?.getD undef=_:=hS.at dW_11 (waits (j:=11) (by kernel_rfl) ho hdep)
   simp only [VW] at x51
   have x53:t[53]?.getD undef=_:=hS.at dW_13 (waits (j:=13) (by kernel_rfl) ho hdep)
   simp only [VW] at x53
   have x54:t[54]?.getD undef=_:=hS.at dW_14 (waits (j:=14) (by kernel_rfl) ho hdep)
   simp only [VW] at x54
   have ny16:done 16=false:=not_yet (k:=15) (j:=16) (by kernel_rfl) hcl hnd
   have a9:done 9=true:=waits (j:=9) (by kernel_rfl) ho hdep
   have hw0:w=w3:=by rw [hM.2];simp [hnd,a9]
   subst hw0
   refine ie_callI r 59 #[v3,sx,sy,fv] (fun _=>trivial) (fun h=>by cases h) hB ho (wanted_none hgd) hd hS (by intro c;rw [hop];intro h;cases h) ?_ ?_
   ·skip
    unfold execOp
    simp only [hop]
    simp [x49,x51,x53,x54,go_sem]
   ·skip
    refine (callsIn_wide.2 hC).mono ?_
    rintro e w' ⟨r',rfl,rfl,hF⟩
    refine ⟨r',rfl,fun k hk=>?_,fun _=>hF,by simp [upd]⟩
    have h1:k≠15:=fun e=>by rw [e,hnd] at hk;cases hk
    have h2:k≠16:=fun e=>by rw [e,ny16] at hk;cases hk
    unfold VW
    split<;>first | rfl | exact absurd rfl h1 | exact absurd rfl h2
  | 16,_,ho,hnd,hdep=>
   obtain ⟨hd,hop,hgd⟩:=say_of sW_16 ho
   have x55:t[55]?.getD undef=_:=hS.at dW_15 (waits (j:=15) (by kernel_rfl) ho hdep)
   simp only [VW] at x55
   refine ie_valI r (fun _=>trivial) hB ho (wanted_none hgd) hd hS (by intro c;rw [hop];intro h;cases h) (hM.step (by decide) (by decide) (by decide) (by decide)) ?_
   unfold execOp
   simp only [hop]
   simp [x55,VW,go_sem]
theorem foldW (B B1 D E g o:Nat) (v v3 fv sx sy:Value) (p1 p2:Option Addr) (nm:ByteArray) (r:Lw) (t0:Array Value):fold (opsAt Tryz.f59 9) (VW B B1 D E g o v v3 fv sx sy p1 p2 nm r) t0 17=(((((((((((((((((t0.setIfInBounds 40 (v)).setIfInBounds 41 (.pointer p1)).setIfInBounds 42 (.pointer p2)).setIfInBounds 43 (.slice (some ⟨D,0,none⟩) 2 2)).setIfInBounds 44 (.pointer (some ⟨g,o,none⟩))).setIfInBounds 45 (.pointer (some ⟨g,o,none⟩))).setIfInBounds 46 (.pointer (some ⟨g,o,none⟩))).setIfInBounds 47 (.string nm)).setIfInBounds 48 (.slice (some ⟨E,0,none⟩) 1 1)).setIfInBounds 49 (v3)).setIfInBounds 50 (.pointer p1)).setIfInBounds 51 (sx)).setIfInBounds 52 (.pointer p2)).setIfInBounds 53 (sy)).setIfInBounds 54 (fv)).setIfInBounds 55 (.bool r.g)).setIfInBounds 56 (.bool (!r.g))):=by kernel_rfl
theorem valueOf_si (x:Si) (w:World) (h:SiAt w x):Calls Tryz.prog 91 #[siP x] w fun e w'=>e=.returned (.agg (vx (siV x)).toArray)∧Below w.heap.size w w':=by
 cases x with
 | none=>exact valueOf_none w
 | some q=>exact valueOf_some q.p q.v q.m q.k w (h q rfl).1
theorem kidsOf_si (x:Si) (w:World) (h:SiAt w x) (hs:siZ x≤100000):Calls Tryz.prog 94 #[siP x] w fun e w'=>∃ u,e=.returned u∧w'.ownsRow w.heap.size 183 2 u (siI x).length (kcs (siI x))∧Below w.heap.size w w':=by
 cases x with
 | none=>
  refine (kidsOf_none w).mono ?_
  rintro e w' ⟨rfl,rfl⟩
  exact ⟨_,rfl,World.ownsRow_nil _ _ _ _,Below.refl _ _⟩
 | some q=>
  refine (kidsOf_any q.p q.v q.m q.k w (h q rfl).1 (by simp only [siZ] at hs;omega)).mono ?_
  rintro e w' ⟨u,rfl,h1,h2⟩
  exact ⟨u,rfl,h1,h2⟩
theorem kcs_at:∀ {A:List Kid} {i:Nat} {a:Kid} {j:Nat},A[i]?=some a→j<2→(kcs A)[i*2+j]?=(kdC a)[j]?
 | [],_,_,_,h,_=>by simp at h
 | x::A,0,a,j,h,hj=>by
  simp at h
  subst h
  rw [kcs,List.getElem?_append_left (by simp [kdC];omega)]
  simp
 | x::A,i+1,a,j,h,hj=>by
  rw [kcs,List.getElem?_append_right (by simp [kdC];omega)]
  have h2:=kcs_at (A:=A) (i:=i) (a:=a) (j:=j) (by simpa using h) hj
  rw [← h2]
  congr 1
  simp [kdC]
  omega
theorem kids_place {w:World} {lo:Nat} {u:Value} {A:List Kid} (h:w.ownsRow lo 183 2 u A.length (kcs A)):∃ ao cp ga,u=.slice ao A.length cp∧∀ i a,A[i]?=some a→ao=some ⟨ga,0,none⟩∧lo≤ga∧ga<w.heap.size∧Ch.Lies w ga (0+i*2) (kA a):=by
 have h0:=h
 have hlt:=World.ownsRow.lt h
 obtain ⟨h1,⟨rfl,e⟩ | ⟨g,cp,cur,rfl,hg,r⟩⟩:=h
 ·refine ⟨none,0,0,by rw [e],fun i a hi=>?_⟩
  have:=(List.getElem?_eq_some_iff.1 hi).1
  omega
 ·refine ⟨_,cp,g,rfl,fun i a hi=>⟨rfl,hg,(hlt g rfl).2,fun j v hj=>?_⟩⟩
  have hj2:j<2:=by have:=(Array.getElem?_eq_some_iff.1 hj).1;simpa [kA,kdC] using this
  have hi2:=(List.getElem?_eq_some_iff.1 hi).1
  have:=World.ownsRow.cellAt h0 (i*2+j) (by omega)
  rw [Nat.zero_add,this,kcs_at hi hj2]
  simpa [kA] using hj
theorem At.item {w:World}:∀ {k:K} {u:Value},At w k u→∀ a∈k.items,AtT w a.p a.v a.m a.k
 | .nil,_,_,_,h=>by cases h
 | .node _ _ _ _ _ _ _ _,_,⟨_,pk,pa,pb,⟨_,h3⟩,h4,h5,h6⟩,a,ha=>by
  rw [K.items] at ha
  rcases List.mem_append.1 ha with ha | ha
  ·exact At.item h5 a ha
  ·rcases List.mem_cons.1 ha with rfl | ha
   ·exact ⟨pk,h3,h4⟩
   ·exact At.item h6 a ha
theorem K.plain_item {w:World}:∀ {k:K},k.plain w→∀ a∈k.items,a.k.plain w∧Tr w a.p
 | .nil,_,_,h=>by cases h
 | .node _ _ _ _ _ _ _ _,⟨h1,h2,h3,h4⟩,a,ha=>by
  rw [K.items] at ha
  rcases List.mem_append.1 ha with ha | ha
  ·exact K.plain_item h3 a ha
  ·rcases List.mem_cons.1 ha with rfl | ha
   ·exact ⟨h2,h1⟩
   ·exact K.plain_item h4 a ha
theorem SiAt.item {w:World} {x:Si} (h:SiAt w x) (i:Option Nat):SiAt w (pX (siI x) i):=by
 intro q hq
 cases i with
 | none=>cases hq
 | some i=>
  cases x with
  | none=>simp [pX,siI] at hq
  | some p=>
   obtain ⟨⟨pk,_,h2⟩,h3,_⟩:=h p rfl
   exact ⟨h2.item q (List.mem_of_getElem? hq),K.plain_item h3 q (List.mem_of_getElem? hq)⟩
def siW (x:Si):Nat:=(siF x).weight
theorem kidsF_at:∀ {A:List Kid} {i:Nat} {a:Kid},A[i]?=some a→a.k.flat.size+1≤(kidsF A).size∧a.k.flat.weight+1+a.nm.size≤(kidsF A).weight
 | [],_,_,h=>by simp at h
 | x::A,0,a,h=>by
  simp at h
  subst h
  simp only [kidsF,F.size,F.weight]
  omega
 | x::A,i+1,a,h=>by
  have:=kidsF_at (A:=A) (i:=i) (a:=a) (by simpa using h)
  simp only [kidsF,F.size,F.weight]
  omega
theorem item_small {x:Si} {i:Nat} {a:Kid} (h:(siI x)[i]?=some a):siZ (some a)+1≤siZ x∧siW (some a)+1+a.nm.size≤siW x:=by
 have h1:=kidsF_at h
 rw [siF_items] at h1
 cases x with
 | none=>simp [siI] at h
 | some q=>
  simp only [siF] at h1
  simp only [siZ,siW,siF]
  omega
theorem grownT {w w':World} {lo:Nat} {v:Value} {L:List ByteArray} (h:OwnsT w lo v L) {S:Nat→Prop} (hk:Kp S w w') (hn:∀ b,v.ownBlock=some b→¬ S b):OwnsT w' lo v L:=by
 have hlt:=World.ownsRow.lt h
 obtain ⟨h1,q | ⟨g,cap,cur,rfl,hb,hh,hr⟩⟩:=h
 ·exact ⟨h1,.inl q⟩
 ·exact ⟨h1,.inr ⟨g,cap,cur,rfl,hb,(hk.block g (hlt g rfl).2 (hn g rfl)).trans hh,hr⟩⟩
theorem Kp.put (w:World) (b:Nat) (o:Obj):Kp (fun c=>c=b) w (w.putObj b o):=⟨rfl,rfl,rfl,by simp,fun c _ hn=>World.putObj_heap_other hn⟩
structure WkS (lo:Nat) (J:Ys) (w0 W:World) (M:Nat→Prop) (v fv:Value) (L:List ByteArray) (B:Nat) (g:Bool) (MT:Nat→Prop) (pr:List Cd) (X:World):Prop where
 j:J g pr MT X
 kp:Kp (fun b=>M b∨v.ownBlock=some b) W X
 mt:∀ b,MT b→M b∨B≤b
 ow:OwnsT X lo v L
 nv:∀ b,v.ownBlock=some b→¬ MT b
 b4:Bx X B 130 v
 b7:Bx X (B+1) 106 fv
 b8:Bx X (B+2) 4 (.bool false)
 n4:∀ b,B≤b→b<B+3→¬ MT b
 n5:∀ b,v.ownBlock=some b→b<B
 bel:Below w0.heap.size w0 X
 l0:lo≤B
theorem Ch.Bx.lt {w:World} {b t:Nat} {v:Value} (h:Bx w b t v):b<w.heap.size:=(Array.getElem?_eq_some_iff.1 h).1
section
variable {lo:Nat} {J:Ys} {w0 W:World} {M:Nat→Prop} {v fv:Value} {L:List ByteArray} {B:Nat} {g:Bool} {MT:Nat→Prop} {pr:List Cd} {X:World}
theorem WkS.step (_hJ:Yd lo J) (hlo:w0.heap.size=lo) (hB:W.heap.size=B) (h:WkS lo J w0 W M v fv L B g MT pr X) {X':World} {S:Nat→Prop} (hk:Kp S X X') (hS:∀ b,b<X.heap.size→S b→MT b∨v.ownBlock=some b) (hS0:∀ b,S b→lo≤b)
  {g':Bool} {M':Nat→Prop} {pr':List Cd} (hm:∀ b,M' b→MT b∨X.heap.size≤b) (hj:J g' pr' M' X') (how:OwnsT X' lo v L):WkS lo J w0 W M v fv L B g' M' pr' X':=by
 have hs:=h.kp.size
 have key:∀ b,B≤b→b<B+3→b<X.heap.size→¬ S b:=fun b h1 h2 h3 e=>by
  rcases hS b h3 e with e | e
  ·exact h.n4 b h1 h2 e
  ·have:=h.n5 b e;omega
 have l4:=h.b4.lt
 have l7:=h.b7.lt
 have l8:=h.b8.lt
 refine ⟨hj,h.kp.trans hk fun b hb e=>?_,fun b hb=>?_,how,fun b hb hm'=>?_,(hk.block B l4 (key B (by omega) (by omega) l4)).trans h.b4,(hk.block _ l7 (key _ (by omega) (by omega) l7)).trans h.b7,(hk.block _ l8 (key _ (by omega) (by omega) l8)).trans h.b8,fun b h1 h2 hm'=>?_,h.n5,?_,h.l0⟩
 ·rcases hS b (by omega) e with e | e
  ·rcases h.mt b e with e | e
   ·exact .inl e
   ·omega
  ·exact .inr e
 ·rcases hm b hb with e | e
  ·exact h.mt b e
  ·exact .inr (by omega)
 ·rcases hm b hm' with e | e
  ·exact h.nv b hb e
  ·have:=h.n5 b hb;omega
 ·rcases hm b hm' with e | e
  ·exact h.n4 b h1 h2 e
  ·omega
 ·exact h.bel.trans (hk.below h.bel.size fun b e=>by have:=hS0 b e;omega)
theorem WkS.up (hJ:Yd lo J) (hlo:w0.heap.size=lo) (hB:W.heap.size=B) (h:WkS lo J w0 W M v fv L B g MT pr X) {X':World} (hb:Below X.heap.size X X'):WkS lo J w0 W M v fv L B g MT pr X':=
 h.step hJ hlo hB (Kp.of (S:=fun _=>False) hb) (fun _ _ e=>e.elim) (fun _ e=>e.elim) (fun _ e=>.inl e) (hJ.up h.j hb) (grownT h.ow (Kp.of (S:=fun _=>False) hb) (fun _ _ e=>e))
theorem WkS.yield (hJ:Yd lo J) (hlo:w0.heap.size=lo) (hB:W.heap.size=B) (h:WkS lo J w0 W M v fv L B g MT pr X) {X':World} (hk:Kp MT X X') {g':Bool} {M':Nat→Prop} {pr':List Cd} (hm:∀ b,M' b→MT b∨X.heap.size≤b) (hj:J g' pr' M' X'):WkS lo J w0 W M v fv L B g' M' pr' X':=
 h.step hJ hlo hB hk (fun _ _ e=>.inl e) (fun _ e=>(hJ.own h.j e).1) hm hj (grownT h.ow hk h.nv)
theorem WkS.side (hJ:Yd lo J) (hlo:w0.heap.size=lo) (hB:W.heap.size=B) (h:WkS lo J w0 W M v fv L B g MT pr X) {X':World} {S:Nat→Prop} (hk:Kp S X X') (hS:∀ b,S b→B≤b∧(b<X.heap.size→∃ o:Obj,X.heap[b]?=some o∧o.isCells=false)):WkS lo J w0 W M v fv L B g MT pr X':=by
 have hs:=h.kp.size
 have hs2:=h.bel.size
 have nm:∀ b,S b→¬ MT b:=fun b hb e=>by
  obtain ⟨_,o,ho,hc⟩:=hJ.own h.j e
  obtain ⟨o',ho',hc'⟩:=(hS b hb).2 (Array.getElem?_eq_some_iff.1 ho).1
  rw [ho] at ho'
  cases ho'
  rw [hc] at hc'
  cases hc'
 have nb:∀ b t u,Bx X b t u→¬ S b:=fun b t u hx hb=>by
  obtain ⟨o',ho',hc'⟩:=(hS b hb).2 hx.lt
  rw [show X.heap[b]?=_ from hx] at ho'
  cases ho'
  cases hc'
 have hl:=h.l0
 refine ⟨hJ.keep S h.j hk nm fun b hb=>by have:=(hS b hb).1;omega,h.kp.trans hk (fun b hb e=>by have:=(hS b e).1;omega),h.mt,grownT h.ow hk (fun b hb e=>by have:=(hS b e).1;have:=h.n5 b hb;omega),h.nv,(hk.block _ h.b4.lt (nb _ _ _ h.b4)).trans h.b4,(hk.block _ h.b7.lt (nb _ _ _ h.b7)).trans h.b7,(hk.block _ h.b8.lt (nb _ _ _ h.b8)).trans h.b8,h.n4,h.n5,h.bel.trans (hk.below h.bel.size fun b e=>by have:=(hS b e).1;omega),h.l0⟩
end
def WPost (lo:Nat) (J:Ys) (v:Value) (L:List ByteArray) (W:World) (M:Nat→Prop) (pre D:List Cd) (g:Bool) (X:World):Prop:=
 ∃ M' qs,J g (pre++qs) M' X∧(g=true→qs=D)∧qs <+: D∧Kp (fun b=>M b∨v.ownBlock=some b) W X∧(∀ b,M' b→M b∨W.heap.size≤b)∧OwnsT X lo v L
theorem names_app (w2:World) (lo:Nat) (v:Value) (L:List ByteArray) (nm:ByteArray) (E:Nat) (h:OwnsT w2 lo v L) (hE:w2.cell? ⟨E,0,none⟩=some (.string nm)) (hlo:lo≤w2.heap.size) (hn:L.length≤100000):
  ∃ v3 w3,(Builtin.append_ #[130,130] 130 #[v,.slice (some ⟨E,0,none⟩) 1 1]).run Tryz.prog w2=.ok v3 w3∧OwnsT w3 lo v3 (L++[nm])∧w2.grownBy w3 v.ownBlock∧Behind w2 v v3∧OwnsT w3 lo v L:=by
 obtain ⟨i0,hi,hz0,hz1,hz2⟩:=info_parts Tryz.info9
 obtain ⟨v3,w3,h1,h2,h3,h4,h5⟩:=run_append_both (P:=Tryz.prog) w2 lo 130 130 9 i0 (.string ⟨#[]⟩) 1 16 Tryz.underlying130 hi hz0 hz1 hz2 rfl (by decide) v L.length (L.map Value.string) h ⟨E,0,none⟩ 1 1 [.string nm] rfl (fun j u hj=>by
  match j,hj with
  | 0,hj=>simp at hj;subst hj;simpa [Addr.add] using hE) (by simp [Value.oneCell']) (by unfold maxLen;omega) (by omega) hlo (by omega)
 refine ⟨v3,w3,h1,?_,h3,h4,h5⟩
 unfold OwnsT
 rw [List.length_append,List.map_append]
 exact h2
theorem exec_two {o:Oper} {a:Act} (ho:o.op=.buildSlice 213 2 #[(0,.tmp 41),(1,.tmp 42)]) (p1 p2:Option Addr) (h1:a.eval (.tmp 41)=.pointer p1) (h2:a.eval (.tmp 42)=.pointer p2) (w:World) (D:Nat) (hD:w.heap.size=D):
  (execOp a.eval o).run Tryz.prog w=.ok (.value (.slice (some ⟨D,0,none⟩) 2 2)) (w.alloc (.cells #[.pointer p1,.pointer p2] 187)):=by
 subst hD
 have e1:a.tmps[41]?.getD undef=.pointer p1:=by rw [← Array.getD_eq_getD_getElem?];exact h1
 have e2:a.tmps[42]?.getD undef=.pointer p2:=by rw [← Array.getD_eq_getD_getElem?];exact h2
 unfold execOp
 simp only [ho]
 simp [e1,e2,go_sem]
theorem exec_oneT {o:Oper} {a:Act} (ho:o.op=.buildSlice 130 1 #[(0,.tmp 47)]) (nm:ByteArray) (h1:a.eval (.tmp 47)=.string nm) (w:World) (D:Nat) (hD:w.heap.size=D):
  (execOp a.eval o).run Tryz.prog w=.ok (.value (.slice (some ⟨D,0,none⟩) 1 1)) (w.alloc (.cells #[.string nm] 9)):=by
 subst hD
 have e1:a.tmps[47]?.getD undef=.string nm:=by rw [← Array.getD_eq_getD_getElem?];exact h1
 unfold execOp
 simp only [ho]
 simp [e1,go_sem]
theorem owns_shorter2 {w w1 w2:World} {lo:Nat} {v v':Value} {L N:List ByteArray} {S:Nat→Prop} (h:OwnsT w1 lo v L) (hb:Behind w v v') (hk:Kp S w1 w2) (hS:v'.ownBlock=some w.heap.size→∀ b,v.ownBlock=some b→¬ S b) (h2:OwnsT w2 lo v' (L++N)):OwnsT w2 lo v L:=by
 rcases hb with ⟨g,n,m,cap,rfl,rfl⟩ | hb
 ·have hn:n=L.length:=by
   obtain ⟨_,q | ⟨g',cap',cur,hv,_⟩⟩:=h
   ·cases q.1
   ·injection hv
  have hm:n+m=(L++N).length:=by
   obtain ⟨_,q | ⟨g',cap',cur,hv,_⟩⟩:=h2
   ·cases q.1
   ·injection hv
  unfold OwnsT at h2 ⊢
  rw [← hm,List.map_append] at h2
  rw [← hn]
  exact ownsRow_shorter h2 (by simp;omega)
 ·exact grownT h hk (hS hb)
section
variable {lo:Nat} {J:Ys} {w0 W:World} {M:Nat→Prop} {v fv:Value} {L:List ByteArray} {B:Nat} {g:Bool} {MT:Nat→Prop} {pr:List Cd} {X:World}
theorem WkS.after (hJ:Yd lo J) (hlo:w0.heap.size=lo) (hB:W.heap.size=B) (h:WkS lo J w0 W M v fv L B true MT pr X) {v3:Value} {w2 w3 X':World} {nm:ByteArray} {D:List Cd} {g':Bool} (hk:Kp (fun b=>v.ownBlock=some b) X w3) (hb:Behind w2 v v3) (hs:X.heap.size≤w2.heap.size) (o3:OwnsT w3 lo v L)
  (hp:WPost lo J v3 (L++[nm]) w3 MT pr D g' X'):∃ M' qs,WkS lo J w0 W M v fv L B g' M' (pr++qs) X'∧(g'=true→qs=D)∧qs <+: D∧Kp (fun b=>MT b∨v.ownBlock=some b) X X'∧∀ b,M' b→MT b∨X.heap.size≤b:=by
 obtain ⟨M',qs,j1,h1,h2,k1,m1,o1⟩:=hp
 have hlt:=World.ownsRow.lt h.ow
 have kk:Kp (fun b=>MT b∨v.ownBlock=some b) X X':=(hk.mono (S':=fun b=>MT b∨v.ownBlock=some b) fun _ _ e=>.inr e).trans k1 fun b hb' e=>by
  rcases e with e | e
  ·exact .inl e
  ·rcases hb.block with q | q
   ·rw [q] at e;exact .inr e
   ·rw [q] at e
    injection e with e
    omega
 have mm:∀ b,M' b→MT b∨X.heap.size≤b:=fun b e=>by
  rcases m1 b e with e | e
  ·exact .inl e
  ·have:=hk.size;exact .inr (by omega)
 have ow:OwnsT X' lo v L:=owns_shorter2 o3 hb k1 (fun q b hb' e=>by
  rcases e with e | e
  ·exact h.nv b hb' e
  ·rw [q] at e
   injection e with e
   have:=(hlt b hb').2
   omega) o1
 exact ⟨M',qs,h.step hJ hlo hB kk (fun _ _ e=>e) (fun b e=>by
  rcases e with e | e
  ·exact (hJ.own h.j e).1
  ·exact (hlt b e).1) mm j1 ow,h1,h2,kk,mm⟩
theorem WkS.others (hJ:Yd lo J) (h:WkS lo J w0 W M v fv L B g MT pr X) {X':World} (hk:Kp (fun b=>MT b∨v.ownBlock=some b) X X'):KeepsOthers X X':=by
 refine ⟨hk.size,fun k o hk' ho=>(hk.block k (Array.getElem?_eq_some_iff.1 hk').1 fun e=>?_).trans hk'⟩
 rcases e with e | e
 ·obtain ⟨_,o',ho',hc⟩:=hJ.own h.j e
  rw [hk'] at ho'
  cases ho'
  rw [ho] at hc
  cases hc
 ·obtain ⟨_,q | ⟨g',cap,cur,rfl,_,hh,_⟩⟩:=h.ow
  ·rw [q.1] at e;cases e
  ·cases e
   rw [hk'] at hh
   cases hh
   cases ho
theorem WkS.fin (hJ:Yd lo J) (hB:W.heap.size=B) (h:WkS lo J w0 W M v fv L B g MT pr X) {X':World} {S:Nat→Prop} (hk:Kp S X X') (hS:∀ b,S b→b=B+2∨(B≤b∧(b<X.heap.size→∃ o:Obj,X.heap[b]?=some o∧o.isCells=false))) {pre D qs:List Cd} (he:pr=pre++qs) (hq:g=true→qs=D) (hq2:qs <+: D):WPost lo J v L W M pre D g X':=by
 subst he
 have hl:=h.l0
 refine ⟨MT,qs,hJ.keep S h.j hk (fun b hb e=>?_) (fun b hb=>?_),hq,hq2,h.kp.trans hk (fun b hb e=>?_),fun b e=>?_,grownT h.ow hk fun b hb e=>?_⟩
 ·rcases hS b hb with rfl | ⟨_,q⟩
  ·exact h.n4 _ (by omega) (by omega) e
  ·obtain ⟨_,o,ho,hc⟩:=hJ.own h.j e
   obtain ⟨o',ho',hc'⟩:=q (Array.getElem?_eq_some_iff.1 ho).1
   rw [ho] at ho'
   cases ho'
   rw [hc] at hc'
   cases hc'
 ·rcases hS b hb with rfl | ⟨q,_⟩<;>omega
 ·rcases hS b e with rfl | ⟨q,_⟩<;>omega
 ·rcases h.mt b e with e | e
  ·exact .inl e
  ·exact .inr (by omega)
 ·have:=h.n5 b hb
  rcases hS b e with rfl | ⟨q,_⟩<;>omega
end
theorem WkS.start {lo:Nat} {J:Ys} (hJ:Yd lo J) {w0 W:World} {M:Nat→Prop} {v:Value} {L:List ByteArray} {B:Nat} {pre:List Cd} (fv:Value) (hlo:w0.heap.size=lo) (hB:W.heap.size=B) (hj:J true pre M W) (ow:OwnsT W lo v L) (nv:∀ b,v.ownBlock=some b→¬ M b) (bel:Below w0.heap.size w0 W):
  WkS lo J w0 W M v fv L B true M pre (((W.alloc (.cells #[v] 130)).alloc (.cells #[fv] 106)).alloc (.cells #[.bool false] 4)):=by
 have hb:Below W.heap.size W (((W.alloc (.cells #[v] 130)).alloc (.cells #[fv] 106)).alloc (.cells #[.bool false] 4)):=(((Below.refl _ W).alloc (Nat.le_refl _) _).alloc (by simp) _).alloc (by simp;omega) _
 have hlt:=World.ownsRow.lt ow
 refine ⟨hJ.up hj hb,Kp.of hb,fun _ e=>.inl e,grownT ow (Kp.of (S:=fun _=>False) hb) (fun _ _ e=>e),nv,?_,?_,?_,fun b h1 _ e=>by have:=hJ.lt hj e;omega,fun b e=>by have:=(hlt b e).2;omega,bel.trans (hb.mono bel.size),by have:=bel.size;omega⟩
 ·subst hB
  exact (heap_alloc_old _ _ (by simp;omega)).trans ((heap_alloc_old _ _ (by simp)).trans (heap_alloc_new _ _))
 ·subst hB
  refine (heap_alloc_old _ _ (by simp)).trans ?_
  have:=heap_alloc_new (W.alloc (.cells #[v] 130)) (.cells #[fv] 106)
  rwa [World.size_alloc] at this
 ·subst hB
  have:=heap_alloc_new ((W.alloc (.cells #[v] 130)).alloc (.cells #[fv] 106)) (.cells #[.bool false] 4)
  rwa [World.size_alloc,World.size_alloc] at this
end Go.Proofs.YthfcanpkhjgomaaGreat
