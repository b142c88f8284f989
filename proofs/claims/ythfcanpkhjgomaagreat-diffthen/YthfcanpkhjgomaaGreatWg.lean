import Derived.Test.YthfcanpkhjgomaaGreatWc
set_option maxRecDepth 100000
set_option maxHeartbeats 8000000
namespace Go.Proofs.YthfcanpkhjgomaaGreat
open Go.RowKit
def bD:ByteArray:=⟨#[100]⟩
def bF:ByteArray:=⟨#[102]⟩
def bP:ByteArray:=⟨#[100,47,102]⟩
def kV (k m s:Int):Vd:=⟨k,m,s,List.replicate 32 0,List.length_replicate ..⟩
def fT:F:=.cons bD (kV 1 5 0) Md.zero (.cons bF (kV 2 6 1) Md.zero .nil .nil) .nil
def fU:F:=.cons bD (kV 2 6 2) Md.zero .nil .nil
def tT:T3:=(kV 1 7 0,Md.zero,fT)
def tU:T3:=(kV 1 7 0,Md.zero,fU)
def dA:Ch.Cd:=⟨bD,cvV (kV 1 5 0),cvV (kV 2 6 2)⟩
def dB:Ch.Cd:=⟨bP,cvV (kV 2 6 1),Ch.vz⟩
theorem dif_TU:difT tT tU=[dA,dB]:=by kernel_rfl
theorem good_T:Good tT:=⟨by kernel_rfl⟩
theorem good_U:Good tU:=⟨by kernel_rfl⟩
theorem ap_A:apE tT [dA]=132:=by kernel_rfl
theorem ap_BA:apE tT [dB,dA]=130:=by kernel_rfl
theorem we_T:fT.weight≤6000:=by decide +kernel
theorem we_U:fU.weight≤6000:=by decide +kernel
def cF:Array Value:=nc bF (kV 2 6 1) Md.zero (.slice none 0 0)
def cD (R:Nat):Array Value:=nc bD (kV 1 5 0) Md.zero (.slice (some ⟨R,0,none⟩) 1 1)
def cE:Array Value:=nc bD (kV 2 6 2) Md.zero (.slice none 0 0)
def cN (R:Nat):Array Value:=nc ⟨#[]⟩ (kV 1 7 0) Md.zero (.slice (some ⟨R,0,none⟩) 1 1)
theorem bu_F:Tryz.prog.built 30 [(0,.string bF),(1,.agg (vx (kV 2 6 1)).toArray)]=some cF:=by kernel_rfl
theorem bu_E:Tryz.prog.built 30 [(0,.string bD),(1,.agg (vx (kV 2 6 2)).toArray)]=some cE:=by kernel_rfl
theorem bu_D (R:Nat):Tryz.prog.built 30 [(0,.string bD),(1,.agg (vx (kV 1 5 0)).toArray),(3,.slice (some ⟨R,0,none⟩) 1 1)]=some (cD R):=by kernel_rfl
theorem bu_N (R:Nat):Tryz.prog.built 30 [(1,.agg (vx (kV 1 7 0)).toArray),(3,.slice (some ⟨R,0,none⟩) 1 1)]=some (cN R):=by kernel_rfl
theorem bu_A:Tryz.prog.built 66 [(0,.string bD),(1,.agg (vx (kV 1 5 0)).toArray),(2,.agg (vx (kV 2 6 2)).toArray)]=some (Ch.cc dA):=by kernel_rfl
theorem bu_B:Tryz.prog.built 66 [(0,.string bP),(1,.agg (vx (kV 2 6 1)).toArray)]=some (Ch.cc dB):=by kernel_rfl
theorem bu_1:Tryz.prog.built 24 [(0,.int .i64 2),(1,.int .i64 6),(2,.int .i64 1)]=some (vx (kV 2 6 1)).toArray:=by kernel_rfl
theorem bu_2:Tryz.prog.built 24 [(0,.int .i64 2),(1,.int .i64 6),(2,.int .i64 2)]=some (vx (kV 2 6 2)).toArray:=by kernel_rfl
theorem bu_3:Tryz.prog.built 24 [(0,.int .i64 1),(1,.int .i64 5)]=some (vx (kV 1 5 0)).toArray:=by kernel_rfl
theorem bu_4:Tryz.prog.built 24 [(0,.int .i64 1),(1,.int .i64 7)]=some (vx (kV 1 7 0)).toArray:=by kernel_rfl
theorem has_T (w:World) (R:Nat) (h1:Lies w R 0 cF) (h2:Lies w (R+1) 0 (cD R)):HasN w (cN (R+1)) ⟨#[]⟩ (kV 1 7 0) Md.zero fT:=
 ⟨_,rfl,_,1,rfl,Nat.le_refl _,.inr ⟨R+1,0,rfl,⟨_,1,h2,Nat.le_refl _,.inr ⟨R,0,rfl,⟨none,0,h1,Nat.le_refl _,.inl rfl⟩,trivial⟩⟩,trivial⟩⟩
theorem has_U (w:World) (R:Nat) (h:Lies w R 0 cE):HasN w (cN R) ⟨#[]⟩ (kV 1 7 0) Md.zero fU:=
 ⟨_,rfl,_,1,rfl,Nat.le_refl _,.inr ⟨R,0,rfl,⟨none,0,h,Nat.le_refl _,.inl rfl⟩,trivial⟩⟩
theorem exec_bld {o:Oper} {a:Act} (ty:TypeId) (parts:Array (Nat × Operand)) (ho:o.op=.build ty parts) (ps:List (Nat × Value)) (hp:parts.toList.map (fun (p:Nat × Operand)=>(p.1,a.eval p.2))=ps) (c:Array Value) (hb:Tryz.prog.built ty ps=some c) (w:World):
  (execOp a.eval o).run Tryz.prog w=.ok (.value (.agg c)) w:=by
 unfold execOp
 simp only [ho]
 have:(parts.map fun (x:Nat × Operand)=>match x with | (i,x)=>(i,a.eval x))=ps.toArray:=by subst hp;apply Array.ext';simp
 rw [this]
 simp only [Sem.run_bind,run_build (P:=Tryz.prog) w ty ps.toArray c hb,Result.andThen_ok,Sem.run_pure]
theorem exec_twoC {o:Oper} {a:Act} (x y:Operand) (ho:o.op=.buildSlice 31 2 #[(0,x),(1,y)]) (c d:Array Value) (hx:a.eval x=.agg c) (hy:a.eval y=.agg d) (hs:c.size=71) (hd:d.size=71) (w:World) (b:Nat) (hb:w.heap.size=b):
  (execOp a.eval o).run Tryz.prog w=.ok (.value (.slice (some ⟨b,0,none⟩) 2 2)) (w.alloc (.cells (c++d) 66)):=by
 subst hb
 obtain ⟨i0,hi,hz0,hz1,hz2⟩:=info_parts Ch.info55
 have hf:Instr.fill (fun i=>some (i*71,71)) ((Array.range (2*71)).map (Ch.z55[·%Ch.z55.size]!)) [(0,.agg c),(1,.agg d)]=some (c++d):=by
  obtain ⟨z,hz,hzl⟩:∃ z:List Value,((Array.range (2*71)).map (Ch.z55[·%Ch.z55.size]!))=z.toArray∧z.length=142:=⟨((Array.range (2*71)).map (Ch.z55[·%Ch.z55.size]!)).toList,Array.toArray_toList.symm,by simp⟩
  have h1:(Ch.over z 0 c.toList).length=142:=by simp [Ch.over,hs];omega
  rw [hz,Ch.fill_cons _ z 0 0 71 _ c.toList _ rfl (by simp [Value.cells]) (by simpa using hs) (by omega),Ch.fill_cons _ _ 1 71 71 _ d.toList _ rfl (by simp [Value.cells]) (by simpa using hd) (by omega),Instr.fill]
  have e:Ch.over (Ch.over z 0 c.toList) 71 d.toList=c.toList++d.toList:=by
   have h71:c.toList.length=71:=by simpa using hs
   have h72:d.toList.length=71:=by simpa using hd
   unfold Ch.over
   rw [List.take_zero,List.nil_append,Nat.zero_add,h71,h72]
   rw [List.take_append_of_le_length (by omega),List.take_of_length_le (by omega),List.drop_append,List.drop_of_length_le (l:=c.toList) (by omega),h71,List.drop_drop,List.drop_of_length_le (l:=z) (by omega)]
   simp
  rw [e]
  congr 1
  cases c
  cases d
  simp
 have hsz:(sizeOf 66).run Tryz.prog w=.ok 71 w:=by simp [sizeOf,typeInfo,hi,hz1]
 have hzv:=Ch.run_zeroT 66 Ch.z55 Ch.zero55 w
 generalize Ch.z55=zz at hf hzv
 have hb:(Instr.buildSlice 31 2 #[(0,.agg c),(1,.agg d)]).run Tryz.prog w=.ok (.slice (some ⟨w.heap.size,0,none⟩) 2 2) (w.alloc (.cells (c++d) 66)):=by
  unfold Instr.buildSlice
  simp only [Sem.run_bind,run_underlying Tryz.underlying31,Result.andThen_ok,hsz]
  have h1:¬ (2*71 > 2 ^ 24):=by omega
  have h2:¬ (2*71=0):=by omega
  simp only [h1,h2,if_false,Sem.run_bind,Sem.run_pure,Result.andThen_ok,hzv,Value.cells,hf]
  rfl
 unfold execOp
 simp only [ho]
 have hmap:(#[(0,x),(1,y)].map fun (p:Nat × Operand)=>match p with | (i,x)=>(i,a.eval x))=#[(0,.agg c),(1,.agg d)]:=by simp [hx,hy]
 rw [hmap]
 simp only [Sem.run_bind,hb,Result.andThen_ok,Sem.run_pure]
theorem has_two (w:World) (c d:Ch.Cd) (b:Nat) (hb:w.heap.size=b):Ch.HasA (w.alloc (.cells (Ch.cc c++Ch.cc d) 66)) (.slice (some ⟨b,0,none⟩) 2 2) [c,d]:=by
 subst hb
 have hl:=lies_new w (Ch.cc c++Ch.cc d) 66
 have hc:=Ch.cc_size c
 refine .inr ⟨_,0,2,rfl,Nat.le_refl _,fun i x hi=>?_⟩
 match i with
 | 0=>
  cases hi
  exact fun j u hj=>hl j u (by rw [Array.getElem?_append_left (Array.getElem?_eq_some_iff.1 hj).1];exact hj)
 | 1=>
  cases hi
  intro j u hj
  have:=hl (71+j) u (by rw [Array.getElem?_append_right (by omega),hc];simpa using hj)
  rwa [Nat.zero_add] at this
theorem var_new (w:World) (c:Array Value):G w ((w.alloc (.cells (vx Vd.zero).toArray 24)).setRow w.heap.size c)∧Var24 ((w.alloc (.cells (vx Vd.zero).toArray 24)).setRow w.heap.size c) w.heap.size c:=
 ⟨(Ch.new_varT w 24 _ c).1,(Ch.new_varT w 24 _ c).2.1⟩
theorem ap_no {p:Nat} {t:T3} {ao:Option Addr} {cp:Nat} {L:List Ch.Cd} {w:World} {E:Int} (ht:T1 w p t) (gt:Good t) (h:Ch.HasA w (.slice ao L.length cp) L) (hn:L.length≤50000) (hb:t.2.2.size≤50000) (hp:∀ c∈L,c.path.size≤1048576) (hE:apE t L=E) (h0:E≠0):
  Calls Tryz.prog 11 #[.pointer (some ⟨p,0,none⟩),.slice ao L.length cp] w fun e w'=>e=.returned (.tuple #[.pointer none,.int .i64 E])∧G w w':=by
 refine (apply_any p t ao cp L w ht gt.rises h hn hb hp).mono ?_
 rintro e w' ⟨u,rfl,hg,hu,_⟩
 rw [hE] at hu ⊢
 rw [hu h0]
 exact ⟨rfl,hg⟩
theorem exec_cut {o:Oper} {a:Act} {x:Operand} (ho:o.op=.slice 31 x none (some (.const (.int .i64 1))) none) (g oo cp:Nat) (hx:a.eval x=.slice (some ⟨g,oo,none⟩) 2 cp) (hc:2≤cp) (w:World):
  (execOp a.eval o).run Tryz.prog w=.ok (.value (.slice (some ⟨g,oo,none⟩) 1 cp)) w:=by
 have hr:(Instr.sliceAt 31 (.slice (some ⟨g,oo,none⟩) 2 cp) none (some (.int .i64 1)) none).run Tryz.prog w=.ok (.slice (some ⟨g,oo,none⟩) 1 cp) w:=by
  have h1:¬ cp=0:=by omega
  have h2:¬ (cp:Int)<1:=by omega
  simp [go_sem,Tryz.underlying31,h1,h2]
 unfold execOp
 simp only [ho,Option.map_some,Option.map_none,hx,show a.eval (.const (.int .i64 1))=.int .i64 1 from rfl,Sem.run_bind,hr,Sem.run_pure,Result.andThen_ok]
theorem HasA.two {w:World} {ao:Option Addr} {cp:Nat} {c d:Ch.Cd} (h:Ch.HasA w (.slice ao 2 cp) [c,d]):∃ g o,ao=some ⟨g,o,none⟩∧2≤cp∧Ch.Lies w g o (Ch.cc c)∧Ch.Lies w g (o+71) (Ch.cc d):=by
 rcases h with ⟨_,e⟩ | ⟨g,o,cap,e,hc,h⟩
 ·cases e
 ·injection e with e1 e2 e3
  subst e1;subst e3
  exact ⟨g,o,rfl,hc,by simpa using h 0 c rfl,by simpa using h 1 d rfl⟩
theorem HasA.mk1 {w:World} {g o cp:Nat} {c:Ch.Cd} (hc:1≤cp) (h:Ch.Lies w g o (Ch.cc c)):Ch.HasA w (.slice (some ⟨g,o,none⟩) 1 cp) [c]:=
 .inr ⟨g,o,cp,rfl,hc,fun i x hi=>by
  match i with
  | 0=>cases hi;simpa using h⟩
theorem ap_1 {p1 g o cp:Nat} {w:World} (hcp:2≤cp) (ht:T1 w p1 tT) (lA:Ch.Lies w g o (Ch.cc dA)):Calls Tryz.prog 11 #[.pointer (some ⟨p1,0,none⟩),.slice (some ⟨g,o,none⟩) 1 cp] w fun e w'=>e=.returned (.tuple #[.pointer none,.int .i64 132])∧G w w':=
 ap_no (t:=tT) (L:=[dA]) (E:=132) ht good_T (HasA.mk1 (by omega) lA) (by decide) (by decide +kernel) (by decide +kernel) ap_A (by decide)
theorem ap_2 {p1 b:Nat} {w:World} (ht:T1 w p1 tT) (h:Ch.HasA w (.slice (some ⟨b,0,none⟩) 2 2) [dB,dA]):Calls Tryz.prog 11 #[.pointer (some ⟨p1,0,none⟩),.slice (some ⟨b,0,none⟩) 2 2] w fun e w'=>e=.returned (.tuple #[.pointer none,.int .i64 130])∧G w w':=
 ap_no (t:=tT) (L:=[dB,dA]) (E:=130) ht good_T h (by decide) (by decide +kernel) (by decide +kernel) ap_BA (by decide)
open Ch
def MK (b:Nat) (wr:World) (_r:Unit) (done:Nat→Bool) (w:World):Prop:=G wr w∧(done 7=false→w.heap.size=b)∧(done 7=true→HasA w (.slice (some ⟨b,0,none⟩) 2 2) [dB,dA])
theorem MK.step {b:Nat} {wr:World} {r:Unit} {done:Nat→Bool} {w:World} (h:MK b wr r done w) {j:Nat} (h1:j≠7):MK b wr r (upd done j) w:=by
 unfold MK at *
 rw [upd_ne done (Ne.symm h1)]
 exact h
theorem MK.grow {b:Nat} {wr:World} {r:Unit} {done:Nat→Bool} {w w2:World} (h:MK b wr r done w) (hd:done 7=true) (hb:G w w2):MK b wr r done w2:=
 ⟨h.1.trans hb,(fun q=>by rw [hd] at q;cases q),fun q=>(h.2.2 q).below hb⟩
theorem MK.made {b:Nat} {wr:World} {r:Unit} {done:Nat→Bool} {w:World} (h:MK b wr r done w) (hd:done 7=false):MK b wr r (upd done 7) (w.alloc (.cells (cc dB++cc dA) 66)):=
 ⟨h.1.trans (G.alloc _ _),(fun q=>by rw [upd_same] at q;cases q),fun _=>has_two w dB dA b (h.2.1 hd)⟩
theorem backK:backB (opsAt Tryz.f18 13)=true:=by kernel_rfl
theorem dstK:dstB (opsAt Tryz.f18 13) 115=true:=by kernel_rfl
theorem sizeK:(opsAt Tryz.f18 13).size=14:=by kernel_rfl
theorem freeK5:freeB (opsAt Tryz.f18 13) 5=true:=by kernel_rfl
theorem freeK9:freeB (opsAt Tryz.f18 13) 9=true:=by kernel_rfl
theorem sK_0:say (opsAt Tryz.f18 13) 0=some (some 76,.move (.tmp 5),none):=by kernel_rfl
theorem dK_0:slotB (opsAt Tryz.f18 13) 0=some 76:=by kernel_rfl
theorem sK_1:say (opsAt Tryz.f18 13) 1=some (some 77,.move (.tmp 9),none):=by kernel_rfl
theorem dK_1:slotB (opsAt Tryz.f18 13) 1=some 77:=by kernel_rfl
theorem sK_2:say (opsAt Tryz.f18 13) 2=some (some 78,.indexAddr 31 (.tmp 77) (.const (.int .i64 1)),none):=by kernel_rfl
theorem dK_2:slotB (opsAt Tryz.f18 13) 2=some 78:=by kernel_rfl
theorem sK_3:say (opsAt Tryz.f18 13) 3=some (some 79,.load 66 (.tmp 78),none):=by kernel_rfl
theorem dK_3:slotB (opsAt Tryz.f18 13) 3=some 79:=by kernel_rfl
theorem sK_4:say (opsAt Tryz.f18 13) 4=some (some 80,.move (.tmp 9),none):=by kernel_rfl
theorem dK_4:slotB (opsAt Tryz.f18 13) 4=some 80:=by kernel_rfl
theorem sK_5:say (opsAt Tryz.f18 13) 5=some (some 81,.indexAddr 31 (.tmp 80) (.const (.int .i64 0)),none):=by kernel_rfl
theorem dK_5:slotB (opsAt Tryz.f18 13) 5=some 81:=by kernel_rfl
theorem sK_6:say (opsAt Tryz.f18 13) 6=some (some 82,.load 66 (.tmp 81),none):=by kernel_rfl
theorem dK_6:slotB (opsAt Tryz.f18 13) 6=some 82:=by kernel_rfl
theorem sK_7:say (opsAt Tryz.f18 13) 7=some (some 83,.buildSlice 31 2 #[(0,.tmp 79),(1,.tmp 82)],none):=by kernel_rfl
theorem dK_7:slotB (opsAt Tryz.f18 13) 7=some 83:=by kernel_rfl
theorem sK_8:say (opsAt Tryz.f18 13) 8=some (some 84,.call { callee:=.value (.func 11),args:=#[.tmp 76,.tmp 83],argTypes:=#[34,31] },none):=by kernel_rfl
theorem dK_8:slotB (opsAt Tryz.f18 13) 8=some 84:=by kernel_rfl
theorem sK_9:say (opsAt Tryz.f18 13) 9=some (some 75,.move (.tmp 84),none):=by kernel_rfl
theorem dK_9:slotB (opsAt Tryz.f18 13) 9=some 75:=by kernel_rfl
theorem sK_10:say (opsAt Tryz.f18 13) 10=some (some 85,.extract (.tmp 75) 0,none):=by kernel_rfl
theorem dK_10:slotB (opsAt Tryz.f18 13) 10=some 85:=by kernel_rfl
theorem sK_11:say (opsAt Tryz.f18 13) 11=some (some 86,.extract (.tmp 75) 1,none):=by kernel_rfl
theorem dK_11:slotB (opsAt Tryz.f18 13) 11=some 86:=by kernel_rfl
theorem sK_12:say (opsAt Tryz.f18 13) 12=some (some 13,.assign (.tmp 85),none):=by kernel_rfl
theorem sK_13:say (opsAt Tryz.f18 13) 13=some (some 14,.assign (.tmp 86),none):=by kernel_rfl
def VK (p1 g o cp b:Nat) (_r:Unit):Nat→Value
 | 0=>.pointer (some ⟨p1,0,none⟩)
 | 1=>.slice (some ⟨g,o,none⟩) 2 cp
 | 2=>.pointer (some ⟨g,o+71,none⟩)
 | 3=>.agg (cc dB)
 | 4=>.slice (some ⟨g,o,none⟩) 2 cp
 | 5=>.pointer (some ⟨g,o,none⟩)
 | 6=>.agg (cc dA)
 | 7=>.slice (some ⟨b,0,none⟩) 2 2
 | 8=>.tuple #[.pointer none,.int .i64 130]
 | 9=>.tuple #[.pointer none,.int .i64 130]
 | 10=>.pointer none
 | 11=>.int .i64 130
 | 12=>.pointer none
 | 13=>.int .i64 130
 | _=>undef
theorem regK (p1 g o cp b:Nat)  (t0:Array Value) (wr:World) {Q:Exit→Act→World→Prop} (ht:t0.size=115) (h5:t0.getD 5 undef=.pointer (some ⟨p1,0,none⟩)) (h9:t0.getD 9 undef=.slice (some ⟨g,o,none⟩) 2 cp)
  (hb:wr.heap.size=b) (lA:Ch.Lies wr g o (cc dA)) (lB:Ch.Lies wr g (o+71) (cc dB))
  (hC:∀ w,G wr w→HasA w (.slice (some ⟨b,0,none⟩) 2 2) [dB,dA]→Calls Tryz.prog 11 #[.pointer (some ⟨p1,0,none⟩),.slice (some ⟨b,0,none⟩) 2 2] w fun e w'=>e=.returned (.tuple #[.pointer none,.int .i64 130])∧G w w')
  (hQ:∀ r w,G wr w→Q .normal ⟨fold (opsAt Tryz.f18 13) (VK p1 g o cp b r) t0 14,[]⟩ w):(Code.region 13 (opsAt Tryz.f18 13) true).wp Tryz.prog Q ⟨t0,[]⟩ wr:=by
 have hB:dstB (opsAt Tryz.f18 13) t0.size=true:=by rw [ht];exact dstK
 refine inv_region (by kernel_rfl) (IE (opsAt Tryz.f18 13) (VK p1 g o cp b) t0 (MK b wr)) backK ⟨(),t0,rfl,⟨rfl,fun _ _=>rfl,fun _ _ _ _ _ h=>by cases h⟩,Below.drews (Below.refl _ wr) ⟨1,rfl⟩,(fun _=>hb),(fun h=>by cases h)⟩ ?_ ?_
 rotate_left 1
 ·rintro done a w ⟨r,t,rfl,hS,hM⟩ hall
  rw [hS.end hB hall,sizeK]
  exact hQ r w hM.1
 ·rintro jz op done a w ho ⟨r,t,rfl,hS,hM⟩ hnd hdep hcl
  have e5:t[5]?.getD undef=.pointer (some ⟨p1,0,none⟩):=(hS.old freeK5).trans h5
  have e9:t[9]?.getD undef=.slice (some ⟨g,o,none⟩) 2 cp:=(hS.old freeK9).trans h9
  have hlt:jz<14:=by rw [← sizeK];exact (Array.getElem?_eq_some_iff.1 ho).1
  match jz,hlt,ho,hnd,hdep with
  | 0,_,ho,hnd,hdep=>
   obtain ⟨hd,hop,hgd⟩:=say_of sK_0 ho
   refine ie_val r hB ho (wanted_none hgd) hd hS (hM.step (by decide)) ?_
   unfold execOp
   simp only [hop]
   simp [e5,VK,go_sem]
  | 1,_,ho,hnd,hdep=>
   obtain ⟨hd,hop,hgd⟩:=say_of sK_1 ho
   refine ie_val r hB ho (wanted_none hgd) hd hS (hM.step (by decide)) ?_
   unfold execOp
   simp only [hop]
   simp [e9,VK,go_sem]
  | 2,_,ho,hnd,hdep=>
   obtain ⟨hd,hop,hgd⟩:=say_of sK_2 ho
   have x77:t[77]?.getD undef=_:=hS.at dK_1 (waits (j:=1) (by kernel_rfl) ho hdep)
   simp only [VK] at x77
   refine ie_val r hB ho (wanted_none hgd) hd hS (hM.step (by decide)) ?_
   unfold execOp
   simp only [hop]
   simp [x77,VK,go_sem]
  | 3,_,ho,hnd,hdep=>
   obtain ⟨hd,hop,hgd⟩:=say_of sK_3 ho
   have x78:t[78]?.getD undef=_:=hS.at dK_2 (waits (j:=2) (by kernel_rfl) ho hdep)
   simp only [VK] at x78
   refine ie_val r hB ho (wanted_none hgd) hd hS (hM.step (by decide)) ?_
   exact exec_load55 (a:=⟨t,[]⟩) _ hop g (o+71) (by show t.getD 78 undef=_;rw [Array.getD_eq_getD_getElem?];exact x78) dB (lB.below hM.1)
  | 4,_,ho,hnd,hdep=>
   obtain ⟨hd,hop,hgd⟩:=say_of sK_4 ho
   refine ie_val r hB ho (wanted_none hgd) hd hS (hM.step (by decide)) ?_
   unfold execOp
   simp only [hop]
   simp [e9,VK,go_sem]
  | 5,_,ho,hnd,hdep=>
   obtain ⟨hd,hop,hgd⟩:=say_of sK_5 ho
   have x80:t[80]?.getD undef=_:=hS.at dK_4 (waits (j:=4) (by kernel_rfl) ho hdep)
   simp only [VK] at x80
   refine ie_val r hB ho (wanted_none hgd) hd hS (hM.step (by decide)) ?_
   unfold execOp
   simp only [hop]
   simp [x80,VK,go_sem]
  | 6,_,ho,hnd,hdep=>
   obtain ⟨hd,hop,hgd⟩:=say_of sK_6 ho
   have x81:t[81]?.getD undef=_:=hS.at dK_5 (waits (j:=5) (by kernel_rfl) ho hdep)
   simp only [VK] at x81
   refine ie_val r hB ho (wanted_none hgd) hd hS (hM.step (by decide)) ?_
   exact exec_load55 (a:=⟨t,[]⟩) _ hop g o (by show t.getD 81 undef=_;rw [Array.getD_eq_getD_getElem?];exact x81) dA (lA.below hM.1)
  | 7,_,ho,hnd,hdep=>
   obtain ⟨hd,hop,hgd⟩:=say_of sK_7 ho
   have x79:t[79]?.getD undef=_:=hS.at dK_3 (waits (j:=3) (by kernel_rfl) ho hdep)
   simp only [VK] at x79
   have x82:t[82]?.getD undef=_:=hS.at dK_6 (waits (j:=6) (by kernel_rfl) ho hdep)
   simp only [VK] at x82
   refine ie_val (w':=w.alloc (.cells (cc dB++cc dA) 66)) r hB ho (wanted_none hgd) hd hS (hM.made hnd) ?_
   exact exec_twoC (a:=⟨t,[]⟩) _ _ hop (cc dB) (cc dA) (by show t.getD 79 undef=_;rw [Array.getD_eq_getD_getElem?];exact x79) (by show t.getD 82 undef=_;rw [Array.getD_eq_getD_getElem?];exact x82) (cc_size _) (cc_size _) w b (hM.2.1 hnd)
  | 8,_,ho,hnd,hdep=>
   obtain ⟨hd,hop,hgd⟩:=say_of sK_8 ho
   have x76:t[76]?.getD undef=_:=hS.at dK_0 (waits (j:=0) (by kernel_rfl) ho hdep)
   simp only [VK] at x76
   have x83:t[83]?.getD undef=_:=hS.at dK_7 (waits (j:=7) (by kernel_rfl) ho hdep)
   simp only [VK] at x83
   have a7:done 7=true:=waits (j:=7) (by kernel_rfl) ho hdep
   refine ie_call r 11 #[.pointer (some ⟨p1,0,none⟩),.slice (some ⟨b,0,none⟩) 2 2] hB ho (wanted_none hgd) hd hS ?_ ?_
   ·skip
    unfold execOp
    simp only [hop]
    simp [x76,x83,go_sem]
   ·skip
    refine (hC w hM.1 (hM.2.2 a7)).mono ?_
    rintro e w' ⟨rfl,hg'⟩
    exact ⟨r,rfl,fun _ _=>rfl,(hM.grow a7 hg').step (by decide)⟩
  | 9,_,ho,hnd,hdep=>
   obtain ⟨hd,hop,hgd⟩:=say_of sK_9 ho
   have x84:t[84]?.getD undef=_:=hS.at dK_8 (waits (j:=8) (by kernel_rfl) ho hdep)
   simp only [VK] at x84
   refine ie_val r hB ho (wanted_none hgd) hd hS (hM.step (by decide)) ?_
   unfold execOp
   simp only [hop]
   simp [x84,VK,go_sem]
  | 10,_,ho,hnd,hdep=>
   obtain ⟨hd,hop,hgd⟩:=say_of sK_10 ho
   have x75:t[75]?.getD undef=_:=hS.at dK_9 (waits (j:=9) (by kernel_rfl) ho hdep)
   simp only [VK] at x75
   refine ie_val r hB ho (wanted_none hgd) hd hS (hM.step (by decide)) ?_
   unfold execOp
   simp only [hop]
   simp [x75,VK,go_sem]
  | 11,_,ho,hnd,hdep=>
   obtain ⟨hd,hop,hgd⟩:=say_of sK_11 ho
   have x75:t[75]?.getD undef=_:=hS.at dK_9 (waits (j:=9) (by kernel_rfl) ho hdep)
   simp only [VK] at x75
   refine ie_val r hB ho (wanted_none hgd) hd hS (hM.step (by decide)) ?_
   unfold execOp
   simp only [hop]
   simp [x75,VK,go_sem]
  | 12,_,ho,hnd,hdep=>
   obtain ⟨hd,hop,hgd⟩:=say_of sK_12 ho
   have x85:t[85]?.getD undef=_:=hS.at dK_10 (waits (j:=10) (by kernel_rfl) ho hdep)
   simp only [VK] at x85
   refine ie_val r hB ho (wanted_none hgd) hd hS (hM.step (by decide)) ?_
   unfold execOp
   simp only [hop]
   simp [x85,VK,go_sem]
  | 13,_,ho,hnd,hdep=>
   obtain ⟨hd,hop,hgd⟩:=say_of sK_13 ho
   have x86:t[86]?.getD undef=_:=hS.at dK_11 (waits (j:=11) (by kernel_rfl) ho hdep)
   simp only [VK] at x86
   refine ie_val r hB ho (wanted_none hgd) hd hS (hM.step (by decide)) ?_
   unfold execOp
   simp only [hop]
   simp [x86,VK,go_sem]
theorem foldK (p1 g o cp b:Nat) (r:Unit) (t0:Array Value):fold (opsAt Tryz.f18 13) (VK p1 g o cp b r) t0 14=((((((((((((((t0.setIfInBounds 76 (.pointer (some ⟨p1,0,none⟩))).setIfInBounds 77 (.slice (some ⟨g,o,none⟩) 2 cp)).setIfInBounds 78 (.pointer (some ⟨g,o+71,none⟩))).setIfInBounds 79 (.agg (cc dB))).setIfInBounds 80 (.slice (some ⟨g,o,none⟩) 2 cp)).setIfInBounds 81 (.pointer (some ⟨g,o,none⟩))).setIfInBounds 82 (.agg (cc dA))).setIfInBounds 83 (.slice (some ⟨b,0,none⟩) 2 2)).setIfInBounds 84 (.tuple #[.pointer none,.int .i64 130])).setIfInBounds 75 (.tuple #[.pointer none,.int .i64 130])).setIfInBounds 85 (.pointer none)).setIfInBounds 86 (.int .i64 130)).setIfInBounds 13 (.pointer none)).setIfInBounds 14 (.int .i64 130)):=by kernel_rfl
end Go.Proofs.YthfcanpkhjgomaaGreat
namespace Go.Proofs.YthfcanpkhjgomaaGreat
open Go.RowKit
theorem known_any (w:World):Calls Tryz.prog 18 #[] w fun e w'=>e=.returned (.bool true)∧G w w':=by
 have HG:=hid (G.refl w)
 obtain ⟨w0,hw0⟩:∃ w0,w=w0:=⟨_,rfl⟩
 rw [show (fun e w'=>e=Ending.returned (.bool true)∧G w w')=fun e w'=>e=Ending.returned (.bool true)∧G w0 w' by rw [hw0]]
 rw [hw0] at HG
 have H0:Hid (G w0 w):=by rw [hw0];exact HG.out
 clear HG hw0
 go_enter Tryz.func18,Tryz.ntmps18
 obtain ⟨n1,m1⟩:=var_new w (vx (kV 2 6 1)).toArray
 have H1:Hid (Var24 ((w.alloc (.cells (vx Vd.zero).toArray 24)).setRow w.heap.size (vx (kV 2 6 1)).toArray) w.heap.size (vx (kV 2 6 1)).toArray∧G w0 ((w.alloc (.cells (vx Vd.zero).toArray 24)).setRow w.heap.size (vx (kV 2 6 1)).toArray)):=⟨m1,(H0.out).trans n1⟩
 clear n1 m1 H0
 go_upto_region 2 with (first
  | ((with_reducible refine wpList_exec (.agg (vx (kV 2 6 1)).toArray) ?_ ?_ ?_);exact exec_bld 24 _ rfl _ rfl _ bu_1 _;kernel_rfl)
  | ((with_reducible refine wpList_execW (.pointer (some ⟨w.heap.size,0,none⟩)) (w.alloc (.cells (vx Vd.zero).toArray 24)) ?_ ?_ ?_);exact exec_alloc24 rfl _;kernel_rfl)
  | ((with_reducible refine wpList_skipW ((w.alloc (.cells (vx Vd.zero).toArray 24)).setRow w.heap.size (vx (kV 2 6 1)).toArray) ?_ ?_ ?_);exact exec_store24 _ _ rfl w.heap.size _ (vx Vd.zero).toArray rfl rfl _ (World.alloc_heap_new _ _) (vx_size _) (vx_size _) (vx_one _);kernel_rfl))
 try simp only [Act.put,sA,sB,sC]
 generalize ((w.alloc (.cells (vx Vd.zero).toArray 24)).setRow w.heap.size (vx (kV 2 6 1)).toArray)=w1 at *
 generalize w.heap.size=b1 at *
 obtain ⟨n2,m2⟩:=var_new w1 (vx (kV 2 6 2)).toArray
 have H2:Hid (Var24 ((w1.alloc (.cells (vx Vd.zero).toArray 24)).setRow w1.heap.size (vx (kV 2 6 2)).toArray) b1 (vx (kV 2 6 1)).toArray∧Var24 ((w1.alloc (.cells (vx Vd.zero).toArray 24)).setRow w1.heap.size (vx (kV 2 6 2)).toArray) w1.heap.size (vx (kV 2 6 2)).toArray∧G w0 ((w1.alloc (.cells (vx Vd.zero).toArray 24)).setRow w1.heap.size (vx (kV 2 6 2)).toArray)):=⟨(H1.out.1).grow n2,m2,(H1.out.2).trans n2⟩
 clear n2 m2 H1
 go_upto_region 3 with (first
  | ((with_reducible refine wpList_exec (.agg (vx (kV 2 6 2)).toArray) ?_ ?_ ?_);exact exec_bld 24 _ rfl _ rfl _ bu_2 _;kernel_rfl)
  | ((with_reducible refine wpList_execW (.pointer (some ⟨w1.heap.size,0,none⟩)) (w1.alloc (.cells (vx Vd.zero).toArray 24)) ?_ ?_ ?_);exact exec_alloc24 rfl _;kernel_rfl)
  | ((with_reducible refine wpList_skipW ((w1.alloc (.cells (vx Vd.zero).toArray 24)).setRow w1.heap.size (vx (kV 2 6 2)).toArray) ?_ ?_ ?_);exact exec_store24 _ _ rfl w1.heap.size _ (vx Vd.zero).toArray rfl rfl _ (World.alloc_heap_new _ _) (vx_size _) (vx_size _) (vx_one _);kernel_rfl))
 try simp only [Act.put,sA,sB,sC]
 generalize ((w1.alloc (.cells (vx Vd.zero).toArray 24)).setRow w1.heap.size (vx (kV 2 6 2)).toArray)=w2 at *
 generalize w1.heap.size=b2 at *
 obtain ⟨n3,m3⟩:=var_new w2 (vx (kV 1 5 0)).toArray
 have H3:Hid (Var24 ((w2.alloc (.cells (vx Vd.zero).toArray 24)).setRow w2.heap.size (vx (kV 1 5 0)).toArray) b1 (vx (kV 2 6 1)).toArray∧Var24 ((w2.alloc (.cells (vx Vd.zero).toArray 24)).setRow w2.heap.size (vx (kV 1 5 0)).toArray) b2 (vx (kV 2 6 2)).toArray∧Var24 ((w2.alloc (.cells (vx Vd.zero).toArray 24)).setRow w2.heap.size (vx (kV 1 5 0)).toArray) w2.heap.size (vx (kV 1 5 0)).toArray∧G w0 ((w2.alloc (.cells (vx Vd.zero).toArray 24)).setRow w2.heap.size (vx (kV 1 5 0)).toArray)):=⟨(H2.out.1).grow n3,(H2.out.2.1).grow n3,m3,(H2.out.2.2).trans n3⟩
 clear n3 m3 H2
 go_upto_region 4 with (first
  | ((with_reducible refine wpList_exec (.agg (vx (kV 1 5 0)).toArray) ?_ ?_ ?_);exact exec_bld 24 _ rfl _ rfl _ bu_3 _;kernel_rfl)
  | ((with_reducible refine wpList_execW (.pointer (some ⟨w2.heap.size,0,none⟩)) (w2.alloc (.cells (vx Vd.zero).toArray 24)) ?_ ?_ ?_);exact exec_alloc24 rfl _;kernel_rfl)
  | ((with_reducible refine wpList_skipW ((w2.alloc (.cells (vx Vd.zero).toArray 24)).setRow w2.heap.size (vx (kV 1 5 0)).toArray) ?_ ?_ ?_);exact exec_store24 _ _ rfl w2.heap.size _ (vx Vd.zero).toArray rfl rfl _ (World.alloc_heap_new _ _) (vx_size _) (vx_size _) (vx_one _);kernel_rfl))
 try simp only [Act.put,sA,sB,sC]
 generalize ((w2.alloc (.cells (vx Vd.zero).toArray 24)).setRow w2.heap.size (vx (kV 1 5 0)).toArray)=w3 at *
 generalize w2.heap.size=b3 at *
 obtain ⟨n4,m4⟩:=var_new w3 (vx (kV 1 7 0)).toArray
 have H4:Hid (Var24 ((w3.alloc (.cells (vx Vd.zero).toArray 24)).setRow w3.heap.size (vx (kV 1 7 0)).toArray) b1 (vx (kV 2 6 1)).toArray∧Var24 ((w3.alloc (.cells (vx Vd.zero).toArray 24)).setRow w3.heap.size (vx (kV 1 7 0)).toArray) b2 (vx (kV 2 6 2)).toArray∧Var24 ((w3.alloc (.cells (vx Vd.zero).toArray 24)).setRow w3.heap.size (vx (kV 1 7 0)).toArray) b3 (vx (kV 1 5 0)).toArray∧Var24 ((w3.alloc (.cells (vx Vd.zero).toArray 24)).setRow w3.heap.size (vx (kV 1 7 0)).toArray) w3.heap.size (vx (kV 1 7 0)).toArray∧G w0 ((w3.alloc (.cells (vx Vd.zero).toArray 24)).setRow w3.heap.size (vx (kV 1 7 0)).toArray)):=⟨(H3.out.1).grow n4,(H3.out.2.1).grow n4,(H3.out.2.2.1).grow n4,m4,(H3.out.2.2.2).trans n4⟩
 clear n4 m4 H3
 go_upto_region 5 with (first
  | ((with_reducible refine wpList_exec (.agg (vx (kV 1 7 0)).toArray) ?_ ?_ ?_);exact exec_bld 24 _ rfl _ rfl _ bu_4 _;kernel_rfl)
  | ((with_reducible refine wpList_execW (.pointer (some ⟨w3.heap.size,0,none⟩)) (w3.alloc (.cells (vx Vd.zero).toArray 24)) ?_ ?_ ?_);exact exec_alloc24 rfl _;kernel_rfl)
  | ((with_reducible refine wpList_skipW ((w3.alloc (.cells (vx Vd.zero).toArray 24)).setRow w3.heap.size (vx (kV 1 7 0)).toArray) ?_ ?_ ?_);exact exec_store24 _ _ rfl w3.heap.size _ (vx Vd.zero).toArray rfl rfl _ (World.alloc_heap_new _ _) (vx_size _) (vx_size _) (vx_one _);kernel_rfl))
 try simp only [Act.put,sA,sB,sC]
 generalize ((w3.alloc (.cells (vx Vd.zero).toArray 24)).setRow w3.heap.size (vx (kV 1 7 0)).toArray)=w4 at *
 generalize w3.heap.size=b4 at *
 obtain ⟨R,hR⟩:∃ R,w4.heap.size=R:=⟨_,rfl⟩
 obtain ⟨w5,hw5⟩:∃ w5,(w4.alloc (.cells cF 30)).alloc (.cells (cD R) 30)=w5:=⟨_,rfl⟩
 have g5:G w4 w5:=by rw [← hw5];exact (G.alloc _ _).trans (G.alloc _ _)
 have hR1:(w4.alloc (.cells cF 30)).heap.size=R+1:=by rw [World.size_alloc,hR]
 have hN5:HasN w5 (cN (R+1)) ⟨#[]⟩ (kV 1 7 0) Md.zero fT:=by
  refine has_T w5 R ?_ ?_
  ·have h1:=lies_new w4 cF 30
   rw [hR] at h1
   rw [← hw5]
   exact (G.alloc _ _).lies h1
  ·have h2:=lies_new (w4.alloc (.cells cF 30)) (cD R) 30
   rw [hR1] at h2
   rw [← hw5]
   exact h2
 have C5:=hid (grown5_any (cN (R+1)) ⟨#[]⟩ (kV 1 7 0) Md.zero fT w5 hN5 we_T good_T.c)
 have HW5:=hid (And.intro hR (And.intro hR1 (And.intro hw5 g5)))
 clear hN5 hR hR1 hw5 g5
 go_upto_region 6 with (first
  | ((with_reducible refine wpList_exec (.agg (vx (kV 1 7 0)).toArray) ?_ ?_ ?_);exact exec_load24 _ rfl b4 0 rfl _ (vx_size _) (H4.out.2.2.2.1).lies;kernel_rfl)
  | ((with_reducible refine wpList_exec (.agg (vx (kV 1 5 0)).toArray) ?_ ?_ ?_);exact exec_load24 _ rfl b3 0 rfl _ (vx_size _) (H4.out.2.2.1).lies;kernel_rfl)
  | ((with_reducible refine wpList_exec (.agg (vx (kV 2 6 1)).toArray) ?_ ?_ ?_);exact exec_load24 _ rfl b1 0 rfl _ (vx_size _) (H4.out.1).lies;kernel_rfl)
  | ((with_reducible refine wpList_exec (.agg cF) ?_ ?_ ?_);exact exec_bld 30 _ rfl [(0,.string bF),(1,.agg (vx (kV 2 6 1)).toArray)] rfl _ bu_F _;kernel_rfl)
  | ((with_reducible refine wpList_execW (.slice (some ⟨R,0,none⟩) 1 1) (w4.alloc (.cells cF 30)) ?_ ?_ ?_);exact exec_slice1e _ rfl cF rfl (nc_size ..) _ R HW5.out.1;kernel_rfl)
  | ((with_reducible refine wpList_exec (.agg (cD R)) ?_ ?_ ?_);exact exec_bld 30 _ rfl [(0,.string bD),(1,.agg (vx (kV 1 5 0)).toArray),(3,.slice (some ⟨R,0,none⟩) 1 1)] rfl _ (bu_D R) _;kernel_rfl)
  | ((with_reducible refine wpList_execW (.slice (some ⟨R+1,0,none⟩) 1 1) w5 ?_ ?_ ?_);(rw [← HW5.out.2.2.1];exact exec_slice1e _ rfl (cD R) rfl (nc_size ..) _ (R+1) HW5.out.2.1);kernel_rfl)
  | ((with_reducible refine wpList_exec (.agg (cN (R+1))) ?_ ?_ ?_);exact exec_bld 30 _ rfl [(1,.agg (vx (kV 1 7 0)).toArray),(3,.slice (some ⟨R+1,0,none⟩) 1 1)] rfl _ (bu_N (R+1)) _;kernel_rfl)
  | (go_at_call 8;refine C5.out.mono ?_;rintro e w6 ⟨p1,k1,rfl,T1,f1,pl1,tr1,g6⟩;have H6:Hid (Var24 w6 b2 (vx (kV 2 6 2)).toArray∧Var24 w6 b4 (vx (kV 1 7 0)).toArray∧Var24 w6 b1 (vx (kV 2 6 1)).toArray∧Var24 w6 b3 (vx (kV 1 5 0)).toArray∧AtTF (fun _=>True) (Tr w6) w6 p1 (kV 1 7 0) Md.zero fT∧G w0 w6):=(by have g:=HW5.out.2.2.2.trans g6;exact ⟨H4.out.2.1.grow g,H4.out.2.2.2.1.grow g,H4.out.1.grow g,H4.out.2.2.1.grow g,AtTF.of T1 pl1 tr1 f1,H4.out.2.2.2.2.trans g⟩);clear T1 f1 pl1 tr1 g6 C5 H4 HW5))
 obtain ⟨S,hS⟩:∃ S,w6.heap.size=S:=⟨_,rfl⟩
 have C6:=hid (grown5_any (cN S) ⟨#[]⟩ (kV 1 7 0) Md.zero fU (w6.alloc (.cells cE 30)) (has_U _ S (by rw [← hS];exact lies_new w6 cE 30)) we_U good_U.c)
 have HS:=hid hS
 clear hS
 go_upto_region 7 with (first
  | ((with_reducible refine wpList_exec (.agg (vx (kV 1 7 0)).toArray) ?_ ?_ ?_);exact exec_load24 _ rfl b4 0 rfl _ (vx_size _) (H6.out.2.1).lies;kernel_rfl)
  | ((with_reducible refine wpList_exec (.agg (vx (kV 2 6 2)).toArray) ?_ ?_ ?_);exact exec_load24 _ rfl b2 0 rfl _ (vx_size _) (H6.out.1).lies;kernel_rfl)
  | ((with_reducible refine wpList_exec (.agg cE) ?_ ?_ ?_);exact exec_bld 30 _ rfl [(0,.string bD),(1,.agg (vx (kV 2 6 2)).toArray)] rfl _ bu_E _;kernel_rfl)
  | ((with_reducible refine wpList_execW (.slice (some ⟨S,0,none⟩) 1 1) (w6.alloc (.cells cE 30)) ?_ ?_ ?_);exact exec_slice1e _ rfl cE rfl (nc_size ..) _ S HS.out;kernel_rfl)
  | ((with_reducible refine wpList_exec (.agg (cN S)) ?_ ?_ ?_);exact exec_bld 30 _ rfl [(1,.agg (vx (kV 1 7 0)).toArray),(3,.slice (some ⟨S,0,none⟩) 1 1)] rfl _ (bu_N S) _;kernel_rfl)
  | (go_at_call 8;refine C6.out.mono ?_;rintro e w7 ⟨p2,k2,rfl,T2,f2,pl2,tr2,g7⟩;have H7:Hid (T1 w7 p1 tT∧T1 w7 p2 tU∧Var24 w7 b2 (vx (kV 2 6 2)).toArray∧Var24 w7 b1 (vx (kV 2 6 1)).toArray∧Var24 w7 b3 (vx (kV 1 5 0)).toArray∧G w0 w7):=(by have g:=(G.alloc w6 (.cells cE 30)).trans g7;exact ⟨AtTF.growT H6.out.2.2.2.2.1 g,AtTF.of T2 pl2 tr2 f2,H6.out.1.grow g,H6.out.2.2.1.grow g,H6.out.2.2.2.1.grow g,H6.out.2.2.2.2.2.trans g⟩);clear T2 f2 pl2 tr2 g7 C6 H6 HS))
 have C9:=of_given p1 p2 tT tU w7 H7.out.1 H7.out.2.1 good_T good_U we_T we_U
 go_upto_region 10 with (first
  | (go_at_call 20;refine C9.mono ?_;rintro e w8 ⟨B8,rfl,k8,g8⟩;have C8:=k8 w8 (G.refl _);rw [dif_TU] at C8;have H8:=hid g8;clear k8 g8 C9)
  | (go_at_call 19;refine C8.mono ?_;rintro e w9 ⟨ao,cp,rfl,h9,g9⟩;have H9:Hid (Ch.HasA w9 (.slice ao 2 cp) [dA,dB]∧T1 w9 p1 tT∧T1 w9 p2 tU∧Var24 w9 b2 (vx (kV 2 6 2)).toArray∧Var24 w9 b1 (vx (kV 2 6 1)).toArray∧Var24 w9 b3 (vx (kV 1 5 0)).toArray∧G w0 w9):=(by have g:=H8.out.trans g9;exact ⟨h9,H7.out.1.grow g,H7.out.2.1.grow g,H7.out.2.2.1.grow g,H7.out.2.2.2.1.grow g,H7.out.2.2.2.2.1.grow g,H7.out.2.2.2.2.2.trans g⟩);clear h9 g9 C8 H8 H7))
 obtain ⟨Q,hQ⟩:∃ Q,w9.heap.size=Q:=⟨_,rfl⟩
 have C13:Calls Tryz.prog 13 #[.slice ao 2 cp,.slice (some ⟨Q,0,none⟩) 2 2] (w9.alloc (.cells (Ch.cc dA++Ch.cc dB) 66)) fun e w'=>e=.returned (.bool true)∧Drew (w9.alloc (.cells (Ch.cc dA++Ch.cc dB) 66)) w':=
  Ch.same_any ao (some ⟨Q,0,none⟩) cp 2 [dA,dB] _ (H9.out.1.below (G.alloc _ _)) (has_two w9 dA dB Q hQ) (by decide)
 have HQ:=hid hQ
 clear hQ
 go_upto_region 12 with (first
  | ((with_reducible refine wpList_exec (.agg (vx (kV 1 5 0)).toArray) ?_ ?_ ?_);exact exec_load24 _ rfl b3 0 rfl _ (vx_size _) (H9.out.2.2.2.2.2.1).lies;kernel_rfl)
  | ((with_reducible refine wpList_exec (.agg (vx (kV 2 6 2)).toArray) ?_ ?_ ?_);exact exec_load24 _ rfl b2 0 rfl _ (vx_size _) (H9.out.2.2.2.1).lies;kernel_rfl)
  | ((with_reducible refine wpList_exec (.agg (vx (kV 2 6 1)).toArray) ?_ ?_ ?_);exact exec_load24 _ rfl b1 0 rfl _ (vx_size _) (H9.out.2.2.2.2.1).lies;kernel_rfl)
  | ((with_reducible refine wpList_exec (.agg (Ch.cc dA)) ?_ ?_ ?_);exact exec_bld 66 _ rfl [(0,.string bD),(1,.agg (vx (kV 1 5 0)).toArray),(2,.agg (vx (kV 2 6 2)).toArray)] rfl _ bu_A _;kernel_rfl)
  | ((with_reducible refine wpList_exec (.agg (Ch.cc dB)) ?_ ?_ ?_);exact exec_bld 66 _ rfl [(0,.string bP),(1,.agg (vx (kV 2 6 1)).toArray)] rfl _ bu_B _;kernel_rfl)
  | ((with_reducible refine wpList_execW (.slice (some ⟨Q,0,none⟩) 2 2) (w9.alloc (.cells (Ch.cc dA++Ch.cc dB) 66)) ?_ ?_ ?_);exact exec_twoC _ _ rfl (Ch.cc dA) (Ch.cc dB) rfl rfl (Ch.cc_size _) (Ch.cc_size _) _ Q HQ.out;kernel_rfl)
  | (go_at_call 13;refine C13.mono ?_;rintro e wa ⟨rfl,da⟩;have HA:Hid (Ch.HasA wa (.slice ao 2 cp) [dA,dB]∧T1 wa p1 tT∧T1 wa p2 tU∧G w0 wa):=(by have g:G w9 wa:=(G.alloc w9 _).trans da.below;exact ⟨H9.out.1.below g,H9.out.2.1.grow g,H9.out.2.2.1.grow g,H9.out.2.2.2.2.2.2.trans g⟩);clear da C13 H9 HQ))
 obtain ⟨g,o,rfl,hcp,lA,lB⟩:=HasA.two HA.out.1
 have C12:Calls Tryz.prog 11 #[.pointer (some ⟨p1,0,none⟩),.slice (some ⟨g,o,none⟩) 1 cp] wa fun e w'=>e=.returned (.tuple #[.pointer none,.int .i64 132])∧G wa w':=
  ap_1 hcp HA.out.2.1 lA
 clear lA lB
 go_upto_region 13 with (first | ((with_reducible refine wpList_exec (.slice (some ⟨g,o,none⟩) 1 cp) ?_ ?_ ?_);exact exec_cut rfl g o cp rfl hcp _;kernel_rfl) | (go_at_call 11;refine C12.mono ?_;rintro e wb ⟨rfl,gb⟩;have HB:Hid (Ch.HasA wb (.slice (some ⟨g,o,none⟩) 2 cp) [dA,dB]∧T1 wb p1 tT∧T1 wb p2 tU∧G w0 wb):=⟨HA.out.1.below gb,HA.out.2.1.grow gb,HA.out.2.2.1.grow gb,HA.out.2.2.2.trans gb⟩;clear gb C12 HA))
 obtain ⟨g',o',e',_,lA,lB⟩:=HasA.two HB.out.1
 cases e'
 refine regK p1 g o cp wb.heap.size _ wb rfl rfl rfl rfl lA lB (fun W gW hW=>ap_2 (HB.out.2.1.grow gW) hW) fun r wc gc=>?_
 rw [foldK]
 have HC:Hid (Ch.HasA wc (.slice (some ⟨g,o,none⟩) 2 cp) [dA,dB]∧T1 wc p1 tT∧T1 wc p2 tU∧G w0 wc):=⟨HB.out.1.below gc,HB.out.2.1.grow gc,HB.out.2.2.1.grow gc,HB.out.2.2.2.trans gc⟩
 have C14:=apply_ok (ao:=some ⟨g,o,none⟩) (cp:=cp) HC.out.2.1 HC.out.2.2.1 good_T good_U we_T we_U (by rw [dif_TU];exact HC.out.1)
 rw [dif_TU] at C14
 clear lA lB HB gc
 go_simp
 go_upto_region 15 with (go_at_call 11;refine C14.mono ?_;rintro e wd ⟨z,pz,rfl,q1,q2,q3,q4,q5⟩;have HD:=hid (⟨q1,q2,q3,q4,q5⟩:T1 wd pz z∧z.2.2.rises∧z.2.2.size≤50000∧sameT false z tU=true∧G wc wd);clear q1 q2 q3 q4 q5 C14)
 have C15:=sameT_any pz p2 z tU false wd HD.out.1 (HC.out.2.2.1.grow HD.out.2.2.2.2) HD.out.2.1 good_U.rises (by have:=HD.out.2.2.1;omega) (by decide +kernel)
 rw [HD.out.2.2.2.1] at C15
 go_wp2_with (first
  | (go_at_call 12;refine (num_any _ _).mono ?_;rintro e Wn ⟨rfl,en⟩;subst en)
  | (go_at_call 21;refine C15.mono ?_;rintro e we ⟨rfl,ge⟩;have HE:=hid ge;clear ge C15))
 go_ret
 exact ⟨rfl,(HC.out.2.2.2.trans HD.out.2.2.2.2).trans HE.out⟩
end Go.Proofs.YthfcanpkhjgomaaGreat
