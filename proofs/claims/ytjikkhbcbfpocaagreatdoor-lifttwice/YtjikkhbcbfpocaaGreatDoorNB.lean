import Derived.Test.YtjikkhbcbfpocaaGreatDoorDV
import Derived.Test.YtjikkhbcbfpocaaGreatDoorCards
import Derived.Test.YtjikkhbcbfpocaaGreatDoorTie
import Derived.ProofKit
import Derived.OpenShut
import Derived.ShutString
import Derived.Deep.DeepHandedRow
import Derived.LaidHandle
import Derived.MakeChecks
import Derived.Lib.LaidTab
set_option maxRecDepth 100000
namespace Go.Proofs.YtjikkhbcbfpocaaGreatDoor
open Go.RowKit Go.Shelf
theorem ou (ver:Int) {v:Vd} {m:Md} {b:Bool} (h:ownE v m b=0):ownE v (mz ver m) b=0:=by
 unfold mz
 split
 ·rcases bm h with ⟨_,_,_,_,k5⟩ | ⟨k1,k2,k3,k4,_,_⟩ | ⟨_,_,_,_,k5⟩
  ·rw [← k5];exact h
  ·simp [ownE,jm,k1,k2,k3,k4,qD,Md.zero]
  ·rw [← k5];exact h
 ·exact h
theorem xf (ver:Int):∀ {f:F} {prev:Option ByteArray} {L:List ByteArray},jc f prev L=none→jc (f.mp id (mz ver)) prev L=none
 | .nil,_,_,h=>h
 | .cons nm v m ks r,prev,L,h=>by
  obtain ⟨a,b,c,d⟩:=kC h
  rw [F.mp]
  unfold jc
  rw [F.mp_len,if_neg (by rw [a];simp),if_neg (by rw [show id v=v from rfl,ou ver b];simp),xf ver c]
  exact xf ver d
theorem fi {fv:Vd→Vd} {fm:Md→Md} (h:∀ v,(fv v).sum=v.sum):∀ {f:F},bytF f→bytF (f.mp fv fm)
 | .nil,_=>trivial
 | .cons _ v _ _ _,hb=>⟨by rw [h v];exact hb.1,fi h hb.2.1,fi h hb.2.2⟩
theorem ov (v:Vd):(unkV v).sum=v.sum:=by unfold unkV;split<;>rfl
theorem eS {ver:Int} (h:2≤ver):∀ f:F,md8 ver f
 | .nil=>trivial
 | .cons _ _ _ ks r=>⟨fun q=>by omega,eS h ks,eS h r⟩
theorem iR (ver:Int):∀ f:F,md8 ver (f.mp unkV id)
 | .nil=>trivial
 | .cons _ v _ ks r=>⟨fun _ q=>by unfold unkV at q ⊢;split at q<;>simp_all,iR ver ks,iR ver r⟩
theorem wo (ver:Int) (f:F):md8 ver (wrF ver f):=by
 unfold wrF
 split
 ·exact iR ver f
 ·exact eS (by omega) f
structure Ar (ver:Nat) (v:Vd) (m:Md) (ks:F):Prop where
 h1:1≤ver
 h3:ver≤3
 hk:v.kind=1
 hc:qL v m ks=0
 h8:((ver:Int)<2→v.mode=8)∧md8 ver ks
 hB:Su.Bytes v.sum
 hb:bytF ks
 hw:ks.weight≤20000
theorem Ar.c {ver:Nat} {v:Vd} {m:Md} {ks:F} (h:Ar ver v m ks):cOk v m:=bi (jn h.hc).1 h.hB
theorem Ar.g {ver:Nat} {v:Vd} {m:Md} {ks:F} (h:Ar ver v m ks):gOk ks∧nOk ks:=yk (jn h.hc).2 h.hb
theorem Ar.sz {ver:Nat} {v:Vd} {m:Md} {ks:F} (h:Ar ver v m ks):ks.size≤20000:=Nat.le_trans (F.size_le_weight ks) h.hw
theorem Ar.bytes {ver:Nat} {v:Vd} {m:Md} {ks:F} (h:Ar ver v m ks):Su.Bytes (arcW ver v m ks):=by
 unfold arcW
 intro x hx
 rcases List.mem_append.1 hx with q | q
 ·exact dl ver h.c h.g.1 x q
 ·exact fZ _ x q
theorem Ar.len {ver:Nat} {v:Vd} {m:Md} {ks:F} (h:Ar ver v m ks):(arcW ver v m ks).length≤350*(1+ks.size):=(mB ver (by have:=h.h3;omega) h.c h.g.1 h.g.2 (by have:=h.sz;omega)).1
theorem sh {ver:Nat} (h1:1≤ver) (h3:ver≤3) {v:Vd} {m:Md} {ks:F} {most:Int} (hs:ks.size≤20000):(yX (decL (arcW ver v m ks)) (bnd most) (decR (arcW ver v m ks))).left≤100000:=by
 obtain ⟨hU,_,hL⟩:=eP h1 h3 v m ks
 have hd:=fh h1 h3 v m ks
 have hR:decR (arcW ver v m ks)=⟨⟨5,0,0⟩,0,none,[]⟩:=by unfold decR;rw [hU]
 rw [bf,hR]
 generalize decL (arcW ver v m ks)=l at *
 have hr:Wire.rd 0 (l.drop 5)=.ok (1+ks.size) (Wire.enc (1+ks.size)).length:=by rw [hd,qb,xP];exact Wire.gz _ (by omega)
 show ((Wi.uintS l ⟨5,0,0⟩ (bnd most)).1:Int)≤100000
 unfold Wi.uintS
 rw [if_neg (by simp),hr]
 simp only
 split
 ·simp only;omega
 ·simp only;omega
theorem wq {ver:Nat} {v:Vd} {m:Md} {ks:F} {most:Int} (h:Ar ver v m ks) (hb:1+ks.size≤bnd most):DecOk (decN (arcW ver v m ks) most).1 (decN (arcW ver v m ks) most).2:=by
 obtain ⟨e1,e2,e3⟩:=uY h.h1 h.h3 (most:=most) hb h.hk h.hc h.h8
 have hl:(decN (arcW ver v m ks) most).2.st.length=(dirT v ks).length:=by rw [← e3,List.length_map]
 have hf:(dirT v ks).length≤3*ks.size+1:=by
  unfold dirT dirs
  rw [List.length_map]
  exact Nat.le_trans (List.length_filter_le _ _) (gV _ _)
 have hz:=h.sz
 have hg:=yk (xf ver (jn h.hc).2) (fi (fun _=>rfl) h.hb)
 rw [e1]
 refine ⟨xd ?_ (xf ver (jn h.hc).2),?_,h.c.2.1,hg.1.fOk,?_,by omega,?_⟩
 ·simp only [F.mp_len]
  exact ou ver (jn h.hc).1
 ·simp only [F.mp_weight];have:=h.hw;omega
 ·simp only [oo];exact hl
 ·simp only [F.mp_size];omega
theorem eT (u:Value) {ver:Nat} {v:Vd} {m:Md} {ks:F} {most:Int} (W:World) (h:Ar ver v m ks) (hb:1+ks.size≤bnd most) (hu:Su.Has W u (arcW ver v m ks)) (hTb:Su.Tabs W) (hTh:Su.Half W) (hE:ErrT W) (h1:1<W.heap.size):
  Calls Tryz.prog 13 #[u,.int .i64 most] W fun e w'=>∃ p k,e=.returned (.tuple #[.pointer (some ⟨p,0,none⟩),.int .i64 (ver:Int),.nilIface])∧G W w'∧AtT w' p v (mz ver m) k∧k.flat=ks.mp id (mz ver):=by
 obtain ⟨d3,d4,d5⟩:=uY h.h1 h.h3 (most:=most) hb h.hk h.hc h.h8
 obtain ⟨d2,d1,_⟩:=eP h.h1 h.h3 v m ks
 have hl:=h.len
 have hz:=h.sz
 refine (nE u _ most W hu h.bytes hTh hTb hE h1 (by omega) (fun _=>.inl (sh h.h1 h.h3 hz)) fun _ _=>wq h hb).mono ?_
 rintro e w' ⟨hg,hp⟩
 rcases hp with ⟨x,q,_⟩ | ⟨_,⟨x,q,_⟩ | ⟨_,⟨q,_⟩ | ⟨_,p,k,q1,q2,q3,_,_⟩⟩⟩
 ·rw [d1] at q;cases q
 ·rw [d4] at q;cases q
 ·refine absurd ?_ q
  rw [d3]
  exact d5.trans (oo (mz ver) v ks).symm
 ·rw [d2] at q1
  rw [d3] at q2 q3
  exact ⟨p,k,q1,hg,q2,q3⟩
attribute [local go_sem] Oper.semAt_some
def kv7:Vd:=⟨1,7,0,jw,by simp [jw]⟩
theorem ErrT.up {w w':World} (h:ErrT w) (hg:G w w'):ErrT w':=hg.cell h
def knX:Array Value:=(vx kv7).toArray
theorem tH {o:Oper} {a:Act} (ho:o.op=.build 24 #[(0,.const (.int .i64 1)),(1,.const (.int .i64 7))]) (w:World):(execOp a.eval o).run Tryz.prog w=.ok (.value (.agg knX)) w:=by
 unfold execOp
 simp only [ho]
 kernel_rfl
end Go.Proofs.YtjikkhbcbfpocaaGreatDoor
namespace Go.Proofs.YtjikkhbcbfpocaaGreatDoor.Fr6
open Go.ChangeShapes Go.WideShapes Go.ChangeAt Go.RowKit
open Go.ChangeMaps (open_string shut_string)
theorem own:ownKnob Tryz.prog.godebug=none:=by kernel_rfl
theorem laidOut:laidOutB Tryz.prog=true:=by kernel_rfl
theorem a0B : Tryz.prog.globalNamed "twine/sum.halfSums" = some 0 := by kernel_rfl
theorem gErr : Tryz.prog.globalNamed "errors.errorType" = some 1 := by kernel_rfl
theorem uh : Tryz.prog.globalNamed "twine/sum.firstWords" = some 2 := by kernel_rfl
theorem ui : Tryz.prog.globalNamed "twine/sum.roundWords" = some 3 := by kernel_rfl
theorem tHalf:(Tryz.prog.globals[0]?).map (·.type)=some 199:=by kernel_rfl
theorem tFirst:(Tryz.prog.globals[2]?).map (·.type)=some 238:=by kernel_rfl
theorem tRound:(Tryz.prog.globals[3]?).map (·.type)=some 270:=by kernel_rfl
theorem gRt : (Tryz.prog.cutTypes.find? (·.1 == "internal/reflectlite.rtype")).map (·.2) = some 248 := by kernel_rfl
def uj:List Nat:=[1779033703,3144134277,1013904242,2773480762,1359893119,2600822924,528734635,1541459225]
theorem dHalf {H:Type}:(Rows.laid_twine_sum_halfSums:DataW H)=Lib.tabData .u32 (Su.Crc.tab.map Int.ofNat):=rfl
theorem dFirst {H:Type}:(Rows.laid_twine_sum_firstWords:DataW H)=Lib.tabData .u32 (uj.map Int.ofNat):=rfl
theorem dRound {H:Type}:(Rows.laid_twine_sum_roundWords:DataW H)=Lib.tabData .u32 (Su.Sha.ks.map Int.ofNat):=rfl
theorem cM {w:World} {n:String} {g:Nat} {t:TypeId} {len fuel:Nat} {zs:List Nat} {cs:Array Value} {p:List MemPlace} (hg:Tryz.prog.globalNamed n=some g) (hu:Tryz.prog.underlying t=some (.array len 56)) (hct:Tryz.prog.cellsOf t=len)
  (hv:w.var? Tryz.prog n=some cs) (hd:DataW.trod (fun _=>()) Tryz.prog w 0 (fun _=>true) false fuel t cs.toList=some (Lib.tabData .u32 (zs.map Int.ofNat),p)) (i:Nat) (hi:i<zs.length):
  w.cell? ⟨g,i,none⟩=some (Su.vw (zs.getD i 0)):=by
 have hc:=Lib.cells_of_tab hu Tryz.underlying56 (by kernel_rfl) hct hd
 rw [World.var?_cell hg hv i,← Array.getElem?_toList,hc]
 simp [List.getD,hi,Su.vw]
theorem tySize:Tryz.prog.types.size=307:=by kernel_rfl
theorem oneRow:((List.range 307).filter fun t=>Tryz.prog.rowNamed t [101,114,114,111,114])=[41]:=by kernel_rfl
theorem vU {W:World} (h:laidMetH Tryz.prog Rows.codecFormRow.laid W):Su.Tabs W∧Su.Half W∧ErrT W:=by
 first
  | (have h' : laidMet Tryz.prog [("twine/sum.halfSums", Rows.laid_twine_sum_halfSums), ("twine/sum.firstWords", Rows.laid_twine_sum_firstWords), ("twine/sum.roundWords", Rows.laid_twine_sum_roundWords)] W ∧ handlesMet Tryz.prog [("errors.errorType", Rows.laid_errors_errorType)] W := h; obtain ⟨⟨ps, ⟨g0, t0, cs0, f0, p0, q0, hg0, ht0, hv0, hd0, ⟨g1, t1, cs1, f1, p1, q1, hg1, ht1, hv1, hd1, ⟨g2, t2, cs2, f2, p2, q2, hg2, ht2, hv2, hd2, _, _⟩, _⟩, _⟩, _, _⟩, hh⟩ := h')
  | (have h' : laidMet Tryz.prog [("twine/sum.firstWords", Rows.laid_twine_sum_firstWords), ("twine/sum.roundWords", Rows.laid_twine_sum_roundWords), ("twine/sum.halfSums", Rows.laid_twine_sum_halfSums)] W ∧ handlesMet Tryz.prog [("errors.errorType", Rows.laid_errors_errorType)] W := h; obtain ⟨⟨ps, ⟨g1, t1, cs1, f1, p1, q1, hg1, ht1, hv1, hd1, ⟨g2, t2, cs2, f2, p2, q2, hg2, ht2, hv2, hd2, ⟨g0, t0, cs0, f0, p0, q0, hg0, ht0, hv0, hd0, _, _⟩, _⟩, _⟩, _, _⟩, hh⟩ := h')
 obtain rfl:=Option.some.inj (a0B.symm.trans hg0)
 obtain rfl:=Option.some.inj (uh.symm.trans hg1)
 obtain rfl:=Option.some.inj (ui.symm.trans hg2)
 obtain rfl:=Option.some.inj (tHalf.symm.trans ht0)
 obtain rfl:=Option.some.inj (tFirst.symm.trans ht1)
 obtain rfl:=Option.some.inj (tRound.symm.trans ht2)
 rw [dHalf] at hd0
 rw [dFirst] at hd1
 rw [dRound] at hd2
 refine ⟨⟨fun i hi=>cM uh Tryz.underlying238 (by kernel_rfl) hv1 hd1 i hi,fun i hi=>cM ui Tryz.underlying270 (by kernel_rfl) hv2 hd2 i hi⟩,⟨fun i hi=>cM a0B Tryz.underlying199 (by kernel_rfl) hv0 hd0 i hi⟩,?_⟩
 obtain ⟨name,u,ty,e1,e2,e3,e4,e5⟩:=hh _ (List.mem_singleton.2 rfl)
 have en:name=[101,114,114,111,114]:=(Option.some.inj e1).symm
 subst en
 obtain rfl:=Option.some.inj (gRt.symm.trans e2)
 have hm:ty∈(List.range 307).filter fun t=>Tryz.prog.rowNamed t [101,114,114,111,114]:=List.mem_filter.2 ⟨List.mem_range.2 (by rw [← tySize];exact e3),e4⟩
 rw [oneRow] at hm
 obtain rfl:=List.mem_singleton.1 hm
 have hth:typeHandle Tryz.prog 41=.pointer (some ⟨5,41,none⟩):=by kernel_rfl
 rw [hth] at e5
 have:=World.var?_cell gErr e5 0
 unfold ErrT
 simpa using this
def lay (c:Array Value):Obj→Obj
 | .cells _ t frozen=>.cells c t frozen
 | o=>o
noncomputable def aA (os:Os):World:=
 { World.holding Tryz.prog os ⟨#[],#[],[]⟩ with heap:=((((World.holding Tryz.prog os ⟨#[],#[],[]⟩).heap.modify 0 (lay (Su.Crc.tab.map Su.vw).toArray)).modify 2 (lay (uj.map Su.vw).toArray)).modify 3 (lay (Su.Sha.ks.map Su.vw).toArray)).modify 1 (lay #[.iface 248 (.agg #[.pointer (some ⟨5,41,none⟩)])]) }
theorem laid4 (os:Os) (args:Array Value):laidMetH Tryz.prog Rows.codecFormRow.laid ((aA os).forCall (fun _ _=>0) ⟨#[],args,[]⟩).memory:=
 laidMetH_of_parts (laidMet_of_run' 8 (by kernel_rfl) (by kernel_rfl)) (by kernel_rfl)
end Go.Proofs.YtjikkhbcbfpocaaGreatDoor.Fr6
namespace Go.Proofs.YtjikkhbcbfpocaaGreatDoor
open Go.ChangeShapes Go.WideShapes Go.ChangeAt Go.RowKit
theorem a0D {H:Type} {enc:TypeId × Value→H} {W:World} {fuel:Nat} {cs:List Value} {x:DataW H × List MemPlace}
  (hf:DataW.trod enc Tryz.prog W 0 (fun _=>true) true fuel 22 cs=some x):∃ l:List Nat,cs=l.map vb∧l.length=32∧Su.Bytes l:=by
 obtain ⟨xs,m,_,_,hl,hxs,hel⟩:=DataW.trod_array Tryz.underlying22 hf
 have h1:Tryz.prog.cellsOf 5=1:=by kernel_rfl
 have h2:Tryz.prog.cellsOf 22=32:=by kernel_rfl
 rw [h2] at hl
 have each:∀ i,∃ z:Nat,(i<32→cs[i]?=some (vb z))∧z<256:=fun i=>by
  by_cases hi:i<32
  ·have h:=hel i hi
   rw [h1,Nat.mul_one,gl (by omega)] at h
   obtain ⟨n,hn,_,hw⟩:=DataW.trod_int Tryz.underlying5 h
   have hb:=bounds_u8 hw
   refine ⟨n.toNat,fun _=>?_,by omega⟩
   have hc:(cs.drop i).take 1=[Value.int .u8 n]:=hn
   rw [List.take_one,List.head?_drop] at hc
   rw [gl (by omega)] at hc ⊢
   simp only [Option.toList_some,List.cons.injEq,and_true] at hc
   rw [hc]
   unfold vb
   rw [Int.toNat_of_nonneg hb.1]
  ·exact ⟨0,fun h=>absurd h hi,by decide⟩
 obtain ⟨f,hfz⟩:=Classical.skolem.1 each
 refine ⟨(List.range 32).map f,?_,by simp,fun x hx=>by obtain ⟨i,_,rfl⟩:=List.mem_map.1 hx;exact (hfz i).2⟩
 apply List.ext_getElem?
 intro i
 by_cases hi:i<32
 ·rw [(hfz i).1 hi];simp [hi]
 ·rw [List.getElem?_eq_none (by omega),List.getElem?_eq_none (by simp;omega)]
theorem qY {α:Type} {l:List α} {n:Nat} (h:l.length=n+1):∃ a r,l=a::r∧r.length=n:=by
 cases l with
 | nil=>simp at h
 | cons a r=>exact ⟨a,r,rfl,by simpa using h⟩
theorem a0E {H:Type} {enc:TypeId × Value→H} {W:World} {fuel:Nat} {cs:List Value} {x:DataW H × List MemPlace}
  (hf:DataW.trod enc Tryz.prog W 0 (fun _=>true) true fuel 24 cs=some x):∃ v:Vd,cs=vx v∧Su.Bytes v.sum:=by
 obtain ⟨xs,n,_,_,hl,hxs,hel⟩:=DataW.trod_struct Tryz.underlying24 hf
 rw [show Tryz.prog.cellsOf 24=35 by kernel_rfl] at hl
 have hx4:xs.length=4:=hxs
 have g0:DataW.trod enc Tryz.prog W 0 (fun _=>true) true n 3 ((cs.drop 0).take (Tryz.prog.cellsOf 3))=xs[0]?:=hel 0 _ rfl
 have g1:DataW.trod enc Tryz.prog W 0 (fun _=>true) true n 3 ((cs.drop 1).take (Tryz.prog.cellsOf 3))=xs[1]?:=hel 1 _ rfl
 have g2:DataW.trod enc Tryz.prog W 0 (fun _=>true) true n 3 ((cs.drop 2).take (Tryz.prog.cellsOf 3))=xs[2]?:=hel 2 _ rfl
 have g3:DataW.trod enc Tryz.prog W 0 (fun _=>true) true n 22 ((cs.drop 3).take (Tryz.prog.cellsOf 22))=xs[3]?:=hel 3 _ rfl
 rw [show Tryz.prog.cellsOf 3=1 by kernel_rfl] at g0 g1 g2
 rw [show Tryz.prog.cellsOf 22=32 by kernel_rfl] at g3
 rw [gl (by omega)] at g0 g1 g2 g3
 obtain ⟨k,hk,_,_⟩:=DataW.trod_int Tryz.underlying3 g0
 obtain ⟨md,hmd,_,_⟩:=DataW.trod_int Tryz.underlying3 g1
 obtain ⟨sz,hsz,_,_⟩:=DataW.trod_int Tryz.underlying3 g2
 obtain ⟨l,hsl,hll,hlb⟩:=a0D g3
 obtain ⟨c0,t0,rfl,q0⟩:=qY hl
 obtain ⟨c1,t1,rfl,q1⟩:=qY q0
 obtain ⟨c2,r,rfl,q2⟩:=qY q1
 refine ⟨⟨k,md,sz,l,hll⟩,?_,hlb⟩
 simp only [List.drop_zero,List.take_succ_cons,List.take_zero,List.drop_succ_cons,List.cons.injEq,and_true] at hk hmd hsz
 have hr:r.take 32=l.map vb:=hsl
 rw [List.take_of_length_le (by omega)] at hr
 rw [hk,hmd,hsz,hr];rfl
theorem rB {H:Type} {enc:TypeId × Value→H} {W:World} {fuel:Nat} {cs:List Value} {x:DataW H × List MemPlace}
  (hf:DataW.trod enc Tryz.prog W 0 (fun _=>true) true fuel 26 cs=some x):∃ a b:Int,cs=[.int .i64 a,.int .i64 b]:=by
 obtain ⟨xs,n,_,_,hl,hxs,hel⟩:=DataW.trod_struct Tryz.underlying26 hf
 rw [show Tryz.prog.cellsOf 26=2 by kernel_rfl] at hl
 have hx4:xs.length=2:=hxs
 have g0:DataW.trod enc Tryz.prog W 0 (fun _=>true) true n 3 ((cs.drop 0).take (Tryz.prog.cellsOf 3))=xs[0]?:=hel 0 _ rfl
 have g1:DataW.trod enc Tryz.prog W 0 (fun _=>true) true n 3 ((cs.drop 1).take (Tryz.prog.cellsOf 3))=xs[1]?:=hel 1 _ rfl
 rw [show Tryz.prog.cellsOf 3=1 by kernel_rfl] at g0 g1
 rw [gl (by omega)] at g0 g1
 obtain ⟨k,hk,_,_⟩:=DataW.trod_int Tryz.underlying3 g0
 obtain ⟨md,hmd,_,_⟩:=DataW.trod_int Tryz.underlying3 g1
 obtain ⟨c0,t0,rfl,q3⟩:=qY hl
 obtain ⟨c1,t1,rfl,q4⟩:=qY q3
 obtain rfl:=List.length_eq_zero_iff.1 q4
 simp only [List.drop_zero,List.take_succ_cons,List.take_zero,List.drop_succ_cons,List.cons.injEq,and_true] at hk hmd
 exact ⟨k,md,by rw [hk,hmd]⟩
theorem tY {H:Type} {enc:TypeId × Value→H} {W:World} {fuel:Nat} {cs:List Value} {x:DataW H × List MemPlace}
  (hf:DataW.trod enc Tryz.prog W 0 (fun _=>true) true fuel 27 cs=some x):∃ m:Md,cs=mx m:=by
 obtain ⟨xs,n,_,_,hl,hxs,hel⟩:=DataW.trod_array Tryz.underlying27 hf
 rw [show Tryz.prog.cellsOf 27=4 by kernel_rfl] at hl
 have g0:=hel 0 (by omega)
 have g1:=hel 1 (by omega)
 rw [show Tryz.prog.cellsOf 26=2 by kernel_rfl] at g0 g1
 rw [gl (by omega)] at g0 g1
 obtain ⟨a,b,h0⟩:=rB g0
 obtain ⟨c,d,h1⟩:=rB g1
 obtain ⟨c0,t0,rfl,q5⟩:=qY hl
 obtain ⟨c1,t1,rfl,q6⟩:=qY q5
 obtain ⟨c2,t2,rfl,q7⟩:=qY q6
 obtain ⟨c3,t3,rfl,q8⟩:=qY q7
 obtain rfl:=List.length_eq_zero_iff.1 q8
 simp only [Nat.zero_mul,Nat.one_mul,List.drop_zero,List.take_succ_cons,List.take_zero,List.drop_succ_cons,List.cons.injEq,and_true] at h0 h1
 exact ⟨⟨a,b,c,d⟩,by rw [h0.1,h0.2,h1.1,h1.2];rfl⟩
def ofL:List (ByteArray × Vd × Md × F)→F
 | []=>.nil
 | x::l=>.cons x.1 x.2.1 x.2.2.1 x.2.2.2 (ofL l)
theorem rC:∀ l,(ofL l).len=l.length
 | []=>rfl
 | _::l=>by rw [ofL,F.len,rC l];rfl
def rD (W:World) (cs:List Value) (x:ByteArray × Vd × Md × F):Prop:=∃ kv,cs=(nc x.1 x.2.1 x.2.2.1 kv).toList∧HasS W kv x.2.2.2∧x.1.size≤9223372036854775807∧x.2.2.2.ok∧x.2.2.2.len≤9223372036854775807∧Su.Bytes x.2.1.sum∧bytF x.2.2.2
theorem uq {W:World} {g:Nat}:∀ (l:List (ByteArray × Vd × Md × F)) (o:Nat),(∀ i x,l[i]?=some x→∃ cs,rD W cs x∧∀ j u,cs[j]?=some u→W.cell? ⟨g,o+i*41+j,none⟩=some u)→HasR W (ofL l) g o∧(ofL l).ok∧bytF (ofL l)
 | [],_,_=>⟨trivial,trivial,trivial⟩
 | x::l,o,h=>by
  obtain ⟨cs,⟨kv,rfl,⟨a,cap,rfl,hl,hk⟩,hs,hok,hlen,hb1,hb2⟩,hc⟩:=h 0 x rfl
  have ih:=uq l (o+41) (fun i y hy=>by
   obtain ⟨cs,h1,h2⟩:=h (i+1) y (by simpa using hy)
   exact ⟨cs,h1,fun j u hj=>by have:=h2 j u hj;rwa [show o+(i+1)*41+j=o+41+i*41+j by omega] at this⟩)
  refine ⟨⟨⟨a,cap,fun j u hj=>?_,hl,hk⟩,ih.1⟩,⟨hs,hlen,hok,ih.2.1⟩,hb1,hb2,ih.2.2⟩
  have:=hc j u (by simpa using hj)
  simpa using this
theorem vm {H:Type} {enc:TypeId × Value→H} {W:World}:∀ (fuel:Nat) (cs:List Value) (x:DataW H × List MemPlace),DataW.trod enc Tryz.prog W 0 (fun _=>true) true fuel 30 cs=some x→∃ y,rD W cs y:=by
 intro fuel
 induction fuel using Nat.strongRecOn with
 | _ fuel ih=>
  intro cs x hf
  obtain ⟨xs,n,hn,_,hl,hxs,hel⟩:=DataW.trod_struct Tryz.underlying30 hf
  rw [show Tryz.prog.cellsOf 30=41 by kernel_rfl] at hl
  have hx4:xs.length=4:=hxs
  have g0:DataW.trod enc Tryz.prog W 0 (fun _=>true) true n 9 ((cs.drop 0).take (Tryz.prog.cellsOf 9))=xs[0]?:=hel 0 _ rfl
  have g1:DataW.trod enc Tryz.prog W 0 (fun _=>true) true n 24 ((cs.drop 1).take (Tryz.prog.cellsOf 24))=xs[1]?:=hel 1 _ rfl
  have g2:DataW.trod enc Tryz.prog W 0 (fun _=>true) true n 27 ((cs.drop 36).take (Tryz.prog.cellsOf 27))=xs[2]?:=hel 2 _ rfl
  have g3:DataW.trod enc Tryz.prog W 0 (fun _=>true) true n 28 ((cs.drop 40).take (Tryz.prog.cellsOf 28))=xs[3]?:=hel 3 _ rfl
  rw [show Tryz.prog.cellsOf 9=1 by kernel_rfl] at g0
  rw [show Tryz.prog.cellsOf 24=35 by kernel_rfl] at g1
  rw [show Tryz.prog.cellsOf 27=4 by kernel_rfl] at g2
  rw [show Tryz.prog.cellsOf 28=1 by kernel_rfl] at g3
  rw [gl (by omega)] at g0 g1 g2 g3
  obtain ⟨nm,hnm,_,hns⟩:=DataW.trod_string Tryz.underlying9 g0
  obtain ⟨v,hv,hvb⟩:=a0E g1
  obtain ⟨m,hm⟩:=tY g2
  have hkids:∃ kv f,(cs.drop 40).take 1=[kv]∧HasS W kv f∧f.ok∧f.len≤9223372036854775807∧bytF f:=by
   rcases DataW.trod_slice Tryz.underlying28 g3 with ⟨hcs,_⟩ | ⟨ad,len,cap,elems,rest,n2,hn2,hcs,_,_,hle,hmx,hlen,hel2,_,_⟩
   ·exact ⟨_,.nil,hcs,⟨none,0,rfl,Nat.le_refl _,.inl rfl⟩,trivial,by simp [F.len],trivial⟩
   ·unfold maxLen at hmx
    rw [show Tryz.prog.cellsOf 30=41 by kernel_rfl] at hel2
    have each:∀ i,∃ y:ByteArray × Vd × Md × F,i<len→∃ cs',rD W cs' y∧∀ j u,cs'[j]?=some u→W.cell? ((ad.add (i*41)).add j)=some u:=fun i=>by
     by_cases hi:i<len
     ·have h:=hel2 i hi
      rw [gl (by omega),Option.bind_eq_some_iff] at h
      obtain ⟨cs',hc,ht⟩:=h
      obtain ⟨_,hcl,hcc⟩:=World.cells?_some hc
      obtain ⟨y,hy⟩:=ih n2 (by omega) cs' _ ht
      refine ⟨y,fun _=>⟨cs',hy,fun j u hj=>?_⟩⟩
      have hjl:=(List.getElem?_eq_some_iff.1 hj).1
      rw [hcc j (by omega)]
      exact hj
     ·exact ⟨⟨⟨#[]⟩,⟨0,0,0,List.replicate 32 0,by simp⟩,⟨0,0,0,0⟩,.nil⟩,fun h=>absurd h hi⟩
    obtain ⟨f,hfz⟩:=Classical.skolem.1 each
    by_cases h0:len=0
    ·subst h0
     exact ⟨_,.nil,hcs,⟨some ad,cap,rfl,Nat.zero_le _,.inl rfl⟩,trivial,by simp [F.len],trivial⟩
    ·have hsp:ad.spot=none:=by
      obtain ⟨cs',⟨kv,rfl,_⟩,h⟩:=hfz 0 (by omega)
      have h:=h 0 (.string (f 0).1) (by simpa using kY (f 0).1 (f 0).2.1 (f 0).2.2.1 kv)
      rw [Nat.zero_mul,show (ad.add 0).add 0=ad from rfl] at h
      unfold World.cell? at h
      split at h
      ·split at h
       ·cases h
       ·rename_i hs;simpa using hs
      ·cases h
     obtain ⟨b,o,s⟩:=ad
     simp only at hsp
     subst hsp
     have hrow:=uq (W:=W) (g:=b) ((List.range len).map f) o (fun i y hy=>by
      have hi:i<len:=by have:=(List.getElem?_eq_some_iff.1 hy).1;simpa using this
      have hyf:y=f i:=by simp [hi] at hy;exact hy.symm
      subst hyf
      obtain ⟨cs',h1,h2⟩:=hfz i hi
      exact ⟨cs',h1,fun j u hj=>by have:=h2 j u hj;rwa [Addr.add_mid,Addr.add_mid] at this⟩)
     have hlenF:(ofL ((List.range len).map f)).len=len:=by rw [rC];simp
     exact ⟨_,ofL ((List.range len).map f),hcs,⟨_,cap,by rw [hlenF],by rw [hlenF];exact hle,.inr ⟨b,o,rfl,hrow.1⟩⟩,hrow.2.1,by rw [hlenF];omega,hrow.2.2⟩
  obtain ⟨kv,f,hkv,hS,hfo,hfl,hfb⟩:=hkids
  refine ⟨⟨nm,v,m,f⟩,kv,?_,hS,by show nm.size≤_;have:maxLen=9223372036854775807:=rfl;omega,hfo,hfl,hvb,hfb⟩
  have e0:cs=cs.take 1++((cs.drop 1).take 35++((cs.drop 36).take 4++(cs.drop 40).take 1)):=by
   have a1:=List.take_append_drop 1 cs
   have a2:=List.take_append_drop 35 (cs.drop 1)
   have a3:=List.take_append_drop 4 (cs.drop 36)
   rw [List.drop_drop] at a2 a3
   rw [List.take_of_length_le (l:=cs.drop 40) (by rw [List.length_drop];omega)]
   have a3':(cs.drop 36).take 4++cs.drop 40=cs.drop 36:=a3
   have a2':(cs.drop 1).take 35++cs.drop 36=cs.drop 1:=a2
   rw [a3',a2',a1]
  have hnm':cs.take 1=[.string nm]:=by simpa using hnm
  rw [e0,hnm',hv,hm,hkv]
  simp [nc]
end Go.Proofs.YtjikkhbcbfpocaaGreatDoor
