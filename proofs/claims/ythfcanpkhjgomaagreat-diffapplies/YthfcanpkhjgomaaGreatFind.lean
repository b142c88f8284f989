import Derived.Shelf.Strings.OnBuilder
import Derived.Test.YthfcanpkhjgomaaGreatFault
import Derived.Test.YthfcanpkhjgomaaGreatKids
set_option maxRecDepth 100000
set_option maxHeartbeats 1000000
namespace Go.Proofs.YthfcanpkhjgomaaGreat
open Go.Shelf
def Tryz.lays156_ren:Go.Shelf.Ren:=⟨fun | 156=>124 | 165=>139 | 166=>140 | 169=>141 | 240=>152 | 241=>153 | 276=>162 | 277=>163 | n=>n,fun | 31=>130 | 9=>9 | 3=>3 | 4=>4 | 0=>0 | 20=>20 | 72=>223 | 76=>227 | 70=>221 | 37=>146 | 75=>226 | 127=>233 | 164=>237 | 5=>5 | 80=>229 | n=>n,fun | n=>n⟩
theorem Tryz.lays156:Go.Proofs.Lays.n156 Tryz.prog Tryz.lays156_ren:={
 mixed:=by kernel_rfl
 f156:=Tryz.func124.trans (congrArg some (by kernel_rfl))
 f165:=Tryz.func139.trans (congrArg some (by kernel_rfl))
 f166:=Tryz.func140.trans (congrArg some (by kernel_rfl))
 f169:=Tryz.func141.trans (congrArg some (by kernel_rfl))
 f240:=Tryz.func152.trans (congrArg some (by kernel_rfl))
 f241:=Tryz.func153.trans (congrArg some (by kernel_rfl))
 f276:=Tryz.func162.trans (congrArg some (by kernel_rfl))
 f277:=Tryz.func163.trans (congrArg some (by kernel_rfl))
 t0:=Tryz.underlying0
 a0:=Tryz.isAgg0
 z0:=Tryz.sizeOf0
 v0:=Tryz.zeroValue0
 t3:=Tryz.underlying3
 a3:=Tryz.isAgg3
 z3:=Tryz.sizeOf3
 v3:=Tryz.zeroValue3
 t4:=Tryz.underlying4
 a4:=Tryz.isAgg4
 z4:=Tryz.sizeOf4
 v4:=Tryz.zeroValue4
 t9:=Tryz.underlying9
 a9:=Tryz.isAgg9
 z9:=Tryz.sizeOf9
 v9:=Tryz.zeroValue9
 t20:=Tryz.underlying20
 a20:=Tryz.isAgg20
 z20:=Tryz.sizeOf20
 v20:=Tryz.zeroValue20
 t31:=Tryz.underlying130
 a31:=Tryz.isAgg130
 z31:=Tryz.sizeOf130
 v31:=Tryz.zeroValue130
 t37:=Tryz.underlying146
 a37:=Tryz.isAgg146
 z37:=Tryz.sizeOf146
 v37:=Tryz.zeroValue146
 t70:=Tryz.underlying221
 a70:=Tryz.isAgg221
 z70:=Tryz.sizeOf221
 v70:=Tryz.zeroValue221
 t72:=Tryz.underlying223
 a72:=Tryz.isAgg223
 z72:=Tryz.sizeOf223
 v72:=Tryz.zeroValue223
 t75:=Tryz.underlying226
 a75:=Tryz.isAgg226
 z75:=Tryz.sizeOf226
 v75:=Tryz.zeroValue226
 t76:=Tryz.underlying227
 a76:=Tryz.isAgg227
 z76:=Tryz.sizeOf227
 v76:=Tryz.zeroValue227
 t127:=Tryz.underlying233
 a127:=Tryz.isAgg233
 z127:=Tryz.sizeOf233
 v127:=Tryz.zeroValue233
 t164:=Tryz.underlying237
 a164:=Tryz.isAgg237
 z164:=Tryz.sizeOf237
 v164:=Tryz.zeroValue237 }
theorem Tryz.Builder_Extra_156:Builder.Extra Tryz.prog Tryz.lays156_ren:={
 sizeBuilder:=by kernel_rfl
 liesBuilder:=by kernel_rfl
 t5:=Tryz.underlying5
 a5:=Tryz.isAgg5
 z5:=Tryz.sizeOf5
 v5:=Tryz.zeroValue5
 infoByte:=by kernel_rfl
 cellsByte:=by kernel_rfl
 sizeByte:=by kernel_rfl
 neB5:=by decide }
open Go.RowKit in
theorem Tryz.strings_Join_none (a:Option Addr) (c:Nat) (sep:ByteArray) (w:World):
  Calls Tryz.prog 124 #[.slice a 0 c,.string sep] w fun e w'=>e=.returned (.string ⟨#[]⟩)∧w'=w:=Any.strings_Join_none Tryz.lays156 Tryz.Builder_Extra_156 a c sep w
open Go.RowKit in
theorem Tryz.strings_Join (bk o c:Nat) (xs:List ByteArray) (sep:ByteArray) (w:World) (hcells:∀ (j:Nat) x,xs[j]?=some x→w.cell? ⟨bk,o+j,none⟩=some (.string x)) (hbk:bk<w.heap.size) (hN:xs.length≤140737488355328) (hcap:xs.length≤c) (hlen:(Lib.join (xs.map (·.data.toList)) sep.data.toList).length≤140737488355328):
  Calls Tryz.prog 124 #[.slice (some ⟨bk,o,none⟩) xs.length c,.string sep] w fun e w'=>e=.returned (.string ⟨(Lib.join (xs.map (·.data.toList)) sep.data.toList).toArray⟩)∧Below w.heap.size w w':=Any.strings_Join Tryz.lays156 Tryz.Builder_Extra_156 bk o c xs sep w hcells hbk hN hcap hlen
end Go.Proofs.YthfcanpkhjgomaaGreat
namespace Go.Proofs.YthfcanpkhjgomaaGreat
open Go.RowKit
theorem lib_join:∀ L:List By,Lib.join L [47]=joinL L
 | []=>rfl
 | [x]=>Lib.join_one x [47]
 | x::y::t=>by
  have ih:=lib_join (y::t)
  unfold Lib.join at ih ⊢
  rw [joinL,← ih]
  simp [List.intercalate]
def ofB (l:By):ByteArray:=⟨l.toArray⟩
theorem qF (l:By):tl (ofB l)=l:=by simp [tl,ofB]
theorem ofB_tl (s:ByteArray):ofB (tl s)=s:=ext_of _ _ (qF _)
theorem sJoin_any (v:Value) (L:List ByteArray) (w:World) (hv:HasT w v L) (hn:L.length≤1048577) (hs:(joinL (L.map tl)).length≤1048576):
  Calls Tryz.prog 124 #[v,.string ⟨#[47]⟩] w fun e w'=>e=.returned (.string (ofB (joinL (L.map tl))))∧Below w.heap.size w w':=by
 rcases hv with ⟨rfl,rfl⟩ | ⟨a,cap,rfl,hc,hcell⟩
 ·exact (Tryz.strings_Join_none none 0 ⟨#[47]⟩ w).mono fun e w' h=>⟨h.1,by rw [h.2];exact Below.refl _ _⟩
 ·cases L with
  | nil=>exact (Tryz.strings_Join_none (some a) cap ⟨#[47]⟩ w).mono fun e w' h=>⟨h.1,by rw [h.2];exact Below.refl _ _⟩
  | cons x L=>
   have h0:=hcell 0 x rfl
   have hadd:a.add 0=a:=by simp [Addr.add]
   rw [hadd] at h0
   obtain ⟨bk,o,sp⟩:=a
   have hsp:sp=none:=by
    cases sp with
    | none=>rfl
    | some q=>simp only [World.cell?] at h0;split at h0<;>simp at h0
   subst hsp
   have hE:(fun s:ByteArray=>s.data.toList)=tl:=by funext s;rw [tl,ByteArray.toList_eq]
   have hlen:(Lib.join ((x::L).map (·.data.toList)) (ByteArray.data ⟨#[47]⟩).toList).length≤140737488355328:=by
    rw [hE]
    show (Lib.join _ [47]).length≤_
    rw [lib_join];omega
   refine (Tryz.strings_Join bk o cap (x::L) ⟨#[47]⟩ w (fun j y hj=>?_) (World.block_lt_of_cell? w _ h0) (by omega) hc hlen).mono fun e w' h=>⟨?_,h.2⟩
   ·have:=hcell j y hj
    by_cases e:j=0
    ·subst e;rw [hadd] at this;exact this
    ·simpa [Addr.add,e] using this
   ·rw [h.1,hE]
    show Ending.returned (.string ⟨(Lib.join _ [47]).toArray⟩)=_
    rw [lib_join];rfl
theorem pathJoin_any (v:Value) (L:List ByteArray) (w:World) (hv:HasT w v L) (hn:L.length≤1048577) (hs:(joinL (L.map tl)).length≤1048576):
  Calls Tryz.prog 92 #[v] w fun e w'=>e=.returned (.string (ofB (joinL (L.map tl))))∧Below w.heap.size w w':=by
 have C:=sJoin_any v L w hv hn hs
 obtain ⟨ao,cap,rfl,_⟩:=hv.form
 clear hv hs
 generalize ofB (joinL (L.map tl))=z at *
 go_enter Tryz.func92,Tryz.ntmps92
 go_wp2_with (go_at_call 124;refine C.mono ?_;rintro e w1 ⟨rfl,b1⟩)
 go_ret
 exact ⟨rfl,b1⟩
def wsum:List ByteArray→Nat
 | []=>0
 | s::L=>1+s.size+wsum L
theorem wsum_append (a b:List ByteArray):wsum (a++b)=wsum a+wsum b:=by
 induction a with
 | nil=>simp [wsum]
 | cons x a ih=>simp only [List.cons_append,wsum,ih];omega
theorem len_wsum (a:List ByteArray):a.length≤wsum a:=by
 induction a with
 | nil=>simp
 | cons x a ih=>simp only [List.length_cons,wsum];omega
theorem join_wsum:∀ a:List ByteArray,(joinL (a.map tl)).length≤wsum a
 | []=>by simp [joinL]
 | [x]=>by simp [joinL,wsum,jg]
 | x::y::a=>by
  have ih:=join_wsum (y::a)
  simp only [List.map_cons,joinL,List.length_append,List.length_cons,jg] at ih ⊢
  simp only [wsum] at ih ⊢
  omega
theorem fault_wsum:∀ (f:F) (prev:Option ByteArray) (L P:List ByteArray) (e:Int),faultF f prev L=some (P,e)→wsum P≤wsum L+f.weight
 | .nil,_,_,_,_,h=>by cases h
 | .cons nm v m ks r,prev,L,P,e,h=>by
  rw [faultF] at h
  have hw:wsum (L++[nm])=wsum L+(1+nm.size):=by rw [wsum_append];simp [wsum]
  split at h
  ·injection h with h;injection h with h1;subst h1;rw [hw,F.weight];omega
  ·split at h
   ·injection h with h;injection h with h1;subst h1;rw [hw,F.weight];omega
   ·cases hx:faultF ks none (L++[nm]) with
    | some x=>
     rw [hx] at h
     injection h with h
     subst h
     have:=fault_wsum ks none (L++[nm]) P e hx
     rw [hw] at this
     rw [F.weight];omega
    | none=>
     rw [hx] at h
     have:=fault_wsum r (some nm) L P e h
     rw [F.weight];omega
theorem faultN_wsum {v:Vd} {m:Md} {ks:F} {P:List ByteArray} {e:Int} (h:faultN v m ks []=some (P,e)):wsum P≤ks.weight:=by
 unfold faultN at h
 split at h
 ·injection h with h;injection h with h1;subst h1;simp [wsum]
 ·have:=fault_wsum ks none [] P e h
  simpa [wsum] using this
theorem F.ok_of_weight:∀ f:F,f.weight≤9223372036854775807→f.ok
 | .nil,_=>trivial
 | .cons nm v m ks r,h=>by
  simp only [F.weight] at h
  have h1:=F.size_le_weight ks
  have h2:=F.len_le_size ks
  exact ⟨by omega,by omega,F.ok_of_weight ks (by omega),F.ok_of_weight r (by omega)⟩
theorem F.okL_of_weight (f:F) (h:f.weight≤9223372036854775807):f.okL:=Nat.le_trans (F.size_le_weight f) h
def namesOf:Option (List ByteArray × Int)→List ByteArray
 | none=>[]
 | some (P,_)=>P
def errOf:Option (List ByteArray × Int)→Int
 | none=>0
 | some (_,e)=>e
theorem FaultRes.both {w:World} {u:Value} {er:Int} {r:Option (List ByteArray × Int)} (h:FaultRes w u er r):HasT w u (namesOf r)∧er=errOf r:=by
 cases r with
 | none=>exact ⟨.inl ⟨h.2,rfl⟩,h.1⟩
 | some x=>exact ⟨h.2.2,h.1⟩
theorem G.of_grown {w w':World} (h:w.grownBy w' none):G w w':=⟨h.os,h.tape,h.output,h.size,fun k hk=>h.block k hk (by simp)⟩
def checkP (v:Vd) (m:Md) (ks:F):ByteArray:=ofB (joinL ((namesOf (faultN v m ks [])).map tl))
def checkE (v:Vd) (m:Md) (ks:F):Int:=errOf (faultN v m ks [])
theorem names_wsum (v:Vd) (m:Md) (ks:F):wsum (namesOf (faultN v m ks []))≤ks.weight:=by
 cases h:faultN v m ks [] with
 | none=>simp [namesOf,wsum]
 | some x=>exact faultN_wsum (e:=x.2) h
theorem tcheck_any (c:Array Value) (nm:ByteArray) (v:Vd) (m:Md) (ks:F) (w:World) (hN:HasN w c nm v m ks) (hw:ks.weight≤100000):
  Calls Tryz.prog 70 #[.agg c] w fun e w'=>e=.returned (.tuple #[.string (checkP v m ks),.int .i64 (checkE v m ks)])∧G w w':=by
 obtain ⟨kv,hc,hS⟩:=hN
 have hB:G w (w.alloc (.cells c 30)):=G.alloc _ _
 have hl:=jh w c 30
 rw [hc] at hl
 have C1:=fault_any (w.alloc (.cells (nc nm v m kv) 30)) (ks.size+1) ks (Nat.lt_succ_self _) w.heap.size 0 nm v m kv hl (by rw [← hc];exact hS.below hB) (F.okL_of_weight _ (by omega)) (F.ok_of_weight _ (by omega)) (w.alloc (.cells (nc nm v m kv) 30)) (.slice none 0 0) [] (Below.refl _ _) (OwnsT.nil _ _) (by simp)
 rw [← hc] at C1
 have HG:Hid (G w (w.alloc (.cells c 30))):=hB
 have hws:=names_wsum v m ks
 have C2:Hid (∀ (W:World) (u:Value),HasT W u (namesOf (faultN v m ks []))→Calls Tryz.prog 92 #[u] W fun e w'=>e=.returned (.string (checkP v m ks))∧G W w'):=fun W u h=>pathJoin_any u _ W h (by have:=len_wsum (namesOf (faultN v m ks []));omega) (by have:=join_wsum (namesOf (faultN v m ks []));omega)
 have HE:Hid (errOf (faultN v m ks [])=checkE v m ks):=rfl
 generalize checkP v m ks=cp at *
 generalize checkE v m ks=ce at *
 clear hl hc hS hB hw hws
 go_enter Tryz.func70,Tryz.ntmps70
 go_upto_region 1 with fail
 generalize w.alloc (.cells c 30)=w1 at *
 generalize w.heap.size=H at *
 go_wp2_with (first
  | (go_at_call 106;refine C1.mono ?_;rintro e w2 ⟨u,er,rfl,hg2,_,hres⟩;obtain ⟨hT,her⟩:=hres.both;rw [HE.out] at her;subst her;have CJ:=C2.out w2 u hT;have HG2:Hid (G w w2):=HG.out.trans (G.of_grown hg2);obtain ⟨au,cu,hu,_⟩:=hT.form;subst hu;clear C1 C2 hT hg2 hres)
  | (go_at_call 92;refine CJ.mono ?_;rintro e w3 ⟨rfl,g3⟩))
 go_ret2
 exact ⟨rfl,HG2.out.trans g3⟩
theorem bl_irrefl:∀ l:List UInt8,Op.bytesLess l l=false
 | []=>rfl
 | a::l=>by simp [Op.bytesLess,bl_irrefl l]
theorem bl_trans:∀ {a b c:List UInt8},Op.bytesLess a b=true→Op.bytesLess b c=true→Op.bytesLess a c=true
 | _,_,[],_,h=>by simp [Op.bytesLess] at h
 | _,[],_::_,h,_=>by simp [Op.bytesLess] at h
 | [],_::_,_::_,_,_=>rfl
 | a::x,b::y,c::z,h,k=>by
  simp only [Op.bytesLess,Bool.or_eq_true,decide_eq_true_eq,Bool.and_eq_true,beq_iff_eq] at h k ⊢
  rcases h with h | ⟨rfl,h⟩
  ·rcases k with k | ⟨rfl,k⟩
   ·exact .inl (UInt8.lt_trans h k)
   ·exact .inl h
  ·rcases k with k | ⟨rfl,k⟩
   ·exact .inl k
   ·exact .inr ⟨rfl,bl_trans h k⟩
theorem u8_tri (a b:UInt8):a<b∨a=b∨b<a:=by
 rcases Nat.lt_trichotomy a.toNat b.toNat with h | h | h
 ·exact .inl (UInt8.lt_iff_toNat_lt.2 h)
 ·exact .inr (.inl (UInt8.toNat_inj.1 h))
 ·exact .inr (.inr (UInt8.lt_iff_toNat_lt.2 h))
theorem bl_tri:∀ a b:List UInt8,a=b∨Op.bytesLess a b=true∨Op.bytesLess b a=true
 | [],[]=>.inl rfl
 | [],_::_=>.inr (.inl rfl)
 | _::_,[]=>.inr (.inr rfl)
 | a::x,b::y=>by
  simp only [Op.bytesLess,Bool.or_eq_true,decide_eq_true_eq,Bool.and_eq_true,beq_iff_eq]
  rcases u8_tri a b with h | h | h
  ·exact .inr (.inl (.inl h))
  ·subst h
   rcases bl_tri x y with h | h | h
   ·exact .inl (by rw [h])
   ·exact .inr (.inl (.inr ⟨rfl,h⟩))
   ·exact .inr (.inr (.inr ⟨rfl,h⟩))
  ·exact .inr (.inr (.inl h))
theorem toList_inj {a b:ByteArray} (h:a.toList=b.toList):a=b:=by
 rw [ByteArray.toList_eq,ByteArray.toList_eq] at h
 cases a
 cases b
 simp only [ByteArray.mk.injEq]
 exact Array.toList_inj.1 h
def lt (a b:ByteArray):Prop:=Op.bytesLess a.toList b.toList=true
theorem lt_irrefl (a:ByteArray):¬ lt a a:=fun h=>by unfold lt at h;rw [bl_irrefl] at h;cases h
theorem lt_trans {a b c:ByteArray} (h:lt a b) (k:lt b c):lt a c:=bl_trans h k
theorem lt_tri (a b:ByteArray):a=b∨lt a b∨lt b a:=(bl_tri a.toList b.toList).imp toList_inj id
theorem lt_no {a b:ByteArray} (h:lt a b):¬ lt b a∧a≠b:=⟨fun k=>lt_irrefl _ (lt_trans h k),fun e=>lt_irrefl b (e ▸ h)⟩
def F.above (nm:ByteArray):F→Prop
 | .nil=>True
 | .cons n _ _ _ r=>lt nm n∧F.above nm r
def F.under (nm:ByteArray):F→Prop
 | .nil=>True
 | .cons n _ _ _ r=>lt n nm∧F.under nm r
def F.rises:F→Prop
 | .nil=>True
 | .cons n _ _ k r=>F.above n r∧F.rises k∧F.rises r
theorem F.above_mono {a b:ByteArray} (h:lt a b):∀ {f:F},f.above b→f.above a
 | .nil,_=>trivial
 | .cons _ _ _ _ _,⟨h1,h2⟩=>⟨lt_trans h h1,F.above_mono h h2⟩
theorem F.above_app {nm:ByteArray}:∀ {f g:F},(f.app g).above nm↔f.above nm∧g.above nm
 | .nil,g=>by simp [F.app,F.above]
 | .cons _ _ _ _ r,g=>by simp [F.app,F.above,F.above_app (f:=r),and_assoc]
theorem F.rises_app {n:ByteArray} {v:Vd} {m:Md} {k:F}:∀ {f g:F},(f.app (.cons n v m k g)).rises↔f.rises∧f.under n∧g.above n∧k.rises∧g.rises∧(∀ x,f.under x∨True)
 | .nil,g=>by simp [F.app,F.rises,F.under]
 | .cons n' v' m' k' r,g=>by
  simp only [F.app,F.rises,F.rises_app (f:=r),F.above_app,F.above,F.under]
  constructor
  ·rintro ⟨⟨h1,h2,h3⟩,h4,h5,h6,h7,h8,h9,_⟩
   exact ⟨⟨h1,h4,h5⟩,⟨h2,h6⟩,h7,h8,h9,fun _=>.inr trivial⟩
  ·rintro ⟨⟨h1,h4,h5⟩,⟨h2,h6⟩,h7,h8,h9,_⟩
   exact ⟨⟨h1,h2,F.above_mono h2 h7⟩,h4,h5,h6,h7,h8,h9,fun _=>.inr trivial⟩
theorem leP_lt {nm p:ByteArray} (h:leP nm (some p)=false):lt p nm:=by
 have h':leB nm p=false:=h
 unfold leB at h'
 simp only [Bool.or_eq_false_iff,beq_eq_false_iff_ne] at h'
 rcases lt_tri p nm with e | e | e
 ·exact absurd (by rw [e]) h'.2
 ·exact e
 ·unfold lt at e;rw [h'.1] at e;cases e
theorem faultF_rises:∀ {f:F} {prev:Option ByteArray} {L:List ByteArray},faultF f prev L=none→f.rises∧∀ p,prev=some p→f.above p
 | .nil,_,_,_=>⟨trivial,fun _ _=>trivial⟩
 | .cons nm v m ks r,prev,L,h=>by
  rw [faultF] at h
  by_cases h1:placeE prev nm (L.length+1)≠0
  ·rw [if_pos h1] at h;cases h
  rw [if_neg h1] at h
  by_cases h2:ownE v m (decide (0<ks.len))≠0
  ·rw [if_pos h2] at h;cases h
  rw [if_neg h2] at h
  cases h3:faultF ks none (L++[nm]) with
  | some x=>rw [h3] at h;cases h
  | none=>
   rw [h3] at h
   have ih1:=faultF_rises h3
   have ih2:=faultF_rises (f:=r) (prev:=some nm) (L:=L) h
   refine ⟨⟨ih2.2 nm rfl,ih1.1,ih2.1⟩,fun p hp=>?_⟩
   subst hp
   have h4:lt p nm:=by
    refine leP_lt ?_
    have h5:placeE (some p) nm (L.length+1)=0:=by simpa using h1
    unfold placeE at h5
    split at h5
    ·cases h5
    split at h5
    ·cases h5
    split at h5
    ·cases h5
    ·rename_i h6;simpa using h6
   exact ⟨h4,F.above_mono h4 (ih2.2 nm rfl)⟩
theorem faultF_nz:∀ {f:F} {prev:Option ByteArray} {L:List ByteArray} {x:List ByteArray × Int},faultF f prev L=some x→x.2≠0
 | .nil,_,_,_,h=>by cases h
 | .cons nm v m ks r,prev,L,x,h=>by
  rw [faultF] at h
  by_cases h1:placeE prev nm (L.length+1)≠0
  ·rw [if_pos h1] at h;cases h;exact h1
  rw [if_neg h1] at h
  by_cases h2:ownE v m (decide (0<ks.len))≠0
  ·rw [if_pos h2] at h;cases h;exact h2
  rw [if_neg h2] at h
  cases h3:faultF ks none (L++[nm]) with
  | some y=>rw [h3] at h;cases h;exact faultF_nz h3
  | none=>rw [h3] at h;exact faultF_nz (f:=r) h
theorem check_none {v:Vd} {m:Md} {ks:F} (h:checkE v m ks=0):ownE v m (decide (0<ks.len))=0∧faultF ks none []=none:=by
 unfold checkE faultN at h
 by_cases h2:ownE v m (decide (0<ks.len))≠0
 ·rw [if_pos h2] at h;exact absurd h h2
 rw [if_neg h2] at h
 refine ⟨by simpa using h2,?_⟩
 cases h3:faultF ks none [] with
 | none=>rfl
 | some x=>rw [h3] at h;exact absurd h (faultF_nz h3)
theorem rises_of_check {v:Vd} {m:Md} {ks:F} (h:checkE v m ks=0):ks.rises:=(faultF_rises (check_none h).2).1
def cmp3 (a b:ByteArray):Int:=if Op.bytesLess a.toList b.toList then -1 else if Op.bytesLess b.toList a.toList then 1 else 0
theorem cmp3_eq {a b:ByteArray}:cmp3 a b=0↔a=b:=by
 unfold cmp3
 rcases lt_tri a b with h | h | h
 ·subst h;simp [bl_irrefl]
 ·have hn:=(lt_no h).2
  unfold lt at h
  rw [if_pos h];exact ⟨fun e=>absurd e (by decide),fun e=>absurd e hn⟩
 ·have:=(lt_no h).1
  unfold lt at this h
  rw [if_neg this,if_pos h]
  exact ⟨fun e=>absurd e (by decide),fun e=>by subst e;rw [bl_irrefl] at h;cases h⟩
theorem cmp3_lt {a b:ByteArray} (h:lt a b):cmp3 a b=-1:=if_pos h
theorem qC {a b:ByteArray} (h:lt b a):cmp3 a b=1:=by
 have:=(lt_no h).1
 unfold lt at this h
 unfold cmp3
 rw [if_neg this,if_pos h]
theorem isNaN_any (a:ByteArray) (w:World):Calls Tryz.prog 127 #[.string a] w fun e w'=>e=.returned (.bool false)∧w'=w:=by
 have h:(a.toList != a.toList)=false:=by simp
 go_enter Tryz.func127,Tryz.ntmps127
 go_wp2
 go_ret
 exact ⟨rfl,rfl⟩
theorem cmp_any (a b:ByteArray) (w:World):Calls Tryz.prog 100 #[.string a,.string b] w fun e w'=>e=.returned (.int .i64 (cmp3 a b))∧w'=w:=by
 have C:=fun x W=>isNaN_any x W
 unfold cmp3
 cases h1:Op.bytesLess a.toList b.toList with
 | true=>
  go_enter Tryz.func100,Tryz.ntmps100
  go_wp2_with (go_at_call 127;refine (C _ _).mono ?_;rintro e w2 ⟨rfl,e2⟩;subst e2)
  go_ret
  exact ⟨rfl,rfl⟩
 | false=>
  cases h2:Op.bytesLess b.toList a.toList with
  | true=>
   have he:(a.toList==b.toList)=false:=by
    simp only [beq_eq_false_iff_ne]
    intro e
    rw [e,bl_irrefl] at h2;cases h2
   go_enter Tryz.func100,Tryz.ntmps100
   go_wp2_with (go_at_call 127;refine (C _ _).mono ?_;rintro e w2 ⟨rfl,e2⟩;subst e2)
   go_ret
   exact ⟨rfl,rfl⟩
  | false=>
   have he:(a.toList==b.toList)=true:=by
    rcases bl_tri a.toList b.toList with e | e | e
    ·rw [e];simp
    ·rw [h1] at e;cases e
    ·rw [h2] at e;cases e
   go_enter Tryz.func100,Tryz.ntmps100
   go_wp2_with (go_at_call 127;refine (C _ _).mono ?_;rintro e w2 ⟨rfl,e2⟩;subst e2)
   go_ret
   exact ⟨rfl,rfl⟩
def K.sz:K→Nat
 | .nil=>0
 | .node _ _ _ _ _ kids ah be=>kids.sz+ah.sz+be.sz+1
theorem lies_one {w:World} {g:Nat} {c d:Array Value} (h:Lies w g 0 c) (k:Lies w g 0 d) (j:Nat) (x y:Value) (hx:c[j]?=some x) (hy:d[j]?=some y):x=y:=by
 have h1:=jG h j x hx
 rw [jG k j y hy] at h1
 exact (Option.some.inj h1).symm
theorem lies_tc {w:World} {p:Nat} {v v':Vd} {m m':Md} {pk pk':Value} (h:Lies w p 0 (tc v m pk)) (k:Lies w p 0 (tc v' m' pk')):v=v'∧m=m'∧pk=pk':=by
 have e:tc v m pk=tc v' m' pk':=by
  refine Array.ext (by rw [tc_size,tc_size]) fun i h1 h2=>?_
  exact lies_one h k i _ _ (Array.getElem?_eq_getElem h1) (Array.getElem?_eq_getElem h2)
 have h1:=tc_val v m pk
 rw [e,tc_val] at h1
 have h2:=tc_marks v m pk
 rw [e,tc_marks] at h2
 have h3:=qK v m pk
 rw [e,qK] at h3
 exact ⟨(vx_inj (by simpa using h1)).symm,(mx_inj (by simpa using h2)).symm,(Option.some.inj h3).symm⟩
theorem At.uniq {w:World}:∀ {k k':K} {u:Value},At w k u→At w k' u→k=k'
 | .nil,.nil,_,_,_=>rfl
 | .nil,.node ..,_,h,⟨h',_⟩=>by rw [h] at h';cases h'
 | .node ..,.nil,_,⟨h,_⟩,h'=>by rw [h] at h';cases h'
 | .node q p nm v m kids ah be,.node q' p' nm' v' m' kids' ah' be',_,⟨h1,pk,pa,pb,⟨h2,h3⟩,h4,h5,h6⟩,⟨g1,pk',pa',pb',⟨g2,g3⟩,g4,g5,g6⟩=>by
  rw [h1] at g1
  injection g1 with g1
  injection g1 with g1
  injection g1 with g1
  subst g1
  have e0:=lies_one h2 g2 0 (.string nm) (.string nm') rfl rfl
  have e1:=lies_one h2 g2 1 (.pointer (some ⟨p,0,none⟩)) (.pointer (some ⟨p',0,none⟩)) rfl rfl
  have e2:=lies_one h2 g2 2 pa pa' rfl rfl
  have e3:=lies_one h2 g2 3 pb pb' rfl rfl
  injection e0 with e0
  injection e1 with e1
  injection e1 with e1
  injection e1 with e1
  subst e0 e1 e2 e3
  obtain ⟨e4,e5,e6⟩:=lies_tc h3 g3
  subst e4 e5 e6
  rw [At.uniq h4 g4,At.uniq h5 g5,At.uniq h6 g6]
open Classical in
noncomputable def msr (w:World) (u:Value):Nat:=if h:∃ k,At w k u then (Classical.choose h).sz else 0
theorem msr_eq {w:World} {k:K} {u:Value} (h:At w k u):msr w u=k.sz:=by
 have hx:∃ k,At w k u:=⟨k,h⟩
 unfold msr
 rw [dif_pos hx,(Classical.choose_spec hx).uniq h]
def K.find:K→ByteArray→Option (Nat × Vd × Md × K)
 | .nil,_=>none
 | .node _ p n v m kids ah be,nm=>if cmp3 nm n=0 then some (p,v,m,kids) else if cmp3 nm n=-1 then ah.find nm else be.find nm
def ptrOf:Option (Nat × Vd × Md × K)→Value
 | none=>.pointer none
 | some (p,_)=>.pointer (some ⟨p,0,none⟩)
theorem K.find_at {w:World} {nm:ByteArray}:∀ {k:K} {u:Value},At w k u→∀ p v m kk,k.find nm=some (p,v,m,kk)→AtT w p v m kk
 | .nil,_,_,_,_,_,_,h=>by cases h
 | .node q p n v m kids ah be,_,⟨h1,pk,pa,pb,⟨h2,h3⟩,h4,h5,h6⟩,p',v',m',kk,h=>by
  rw [K.find] at h
  split at h
  ·cases h;exact ⟨pk,h3,h4⟩
  split at h
  ·exact K.find_at h5 p' v' m' kk h
  ·exact K.find_at h6 p' v' m' kk h
theorem find_any (k:K) (u:Value) (nm:ByteArray) (w:World) (h:At w k u):Calls Tryz.prog 63 #[u,.string nm] w fun e w'=>e=.returned (ptrOf (k.find nm))∧w'=w:=by
 have HA:=hid h
 obtain ⟨r,hr⟩:∃ r,k.find nm=r:=⟨_,rfl⟩
 have HR:=hid hr
 rw [hr]
 obtain ⟨a,rfl⟩:=h.form
 obtain ⟨μ,hμ⟩:∃ μ:Value→Nat,∀ k u,At w k u→μ u=k.sz:=⟨msr w,fun _ _ h=>msr_eq h⟩
 have Hμ:=hid hμ
 clear h hr hμ
 go_enter Tryz.func63,Tryz.ntmps63
 go_wp2_with fail
 go_loopw [0] (fun u wr=>(∃ a,u=.pointer a)∧wr=w∧Hid (∃ kk,At w kk u∧kk.find nm=r)) (fun u _=>μ u)
 case atStart=>exact ⟨⟨_,rfl⟩,rfl,k,HA.out,HR.out⟩
 case round=>
  clear HA HR
  obtain ⟨⟨a1,rfl⟩,rfl,HK⟩:=hrel
  obtain ⟨kk,hA,hf⟩:=HK.out
  clear HK
  cases kk with
  | nil=>
   have e:Value.pointer a1=.pointer none:=hA
   injection e with e
   subst e
   have e2:r=none:=hf.symm
   subst e2
   clear hA hf
   go_wp2_with fail
   go_ret
   exact ⟨rfl,rfl⟩
  | node q p n v m kids ah be=>
   have hm:=Hμ.out _ _ hA
   obtain ⟨e,pk,pa,pb,⟨h2,h3⟩,h4,h5,h6⟩:=hA
   injection e with e
   subst e
   have c0:=jG h2 0 (.string n) rfl
   have c1:=jG h2 1 (.pointer (some ⟨p,0,none⟩)) rfl
   have c2:=jG h2 2 pa rfl
   have c3:=jG h2 3 pb rfl
   obtain ⟨aa,rfl⟩:=h5.form
   obtain ⟨ab,rfl⟩:=h6.form
   have C:=cmp_any nm n wr
   have HM:=hid (⟨hm,Hμ.out _ _ h5,Hμ.out _ _ h6⟩:_∧_∧_)
   rw [K.find] at hf
   have H5:=hid h5
   have H6:=hid h6
   clear h2 h3 h4 h5 h6 hm
   rcases lt_tri nm n with hq | hq | hq
   ·have e0:cmp3 nm n=0:=cmp3_eq.2 hq
    rw [e0] at C
    rw [if_pos e0] at hf
    subst hf
    clear e0 hq
    go_wp2_with (go_at_call 100;refine C.mono ?_;rintro e w2 ⟨rfl,e2⟩;subst e2)
    go_ret
    exact ⟨rfl,rfl⟩
   ·have e0:cmp3 nm n=-1:=cmp3_lt hq
    rw [e0] at C
    rw [if_neg (by rw [e0];decide),if_pos e0] at hf
    have HF:=hid hf
    clear e0 hf hq
    go_wp2_with (go_at_call 100;refine C.mono ?_;rintro e w2 ⟨rfl,e2⟩;subst e2)
    go_roundw
    case rel=>exact ⟨⟨_,rfl⟩,by trivial,ah,H5.out,HF.out⟩
    case measure=>rw [HM.out.2.1,HM.out.1,K.sz];omega
   ·have e0:cmp3 nm n=1:=qC hq
    rw [e0] at C
    rw [if_neg (by rw [e0];decide),if_neg (by rw [e0];decide)] at hf
    have HF:=hid hf
    clear e0 hf hq
    go_wp2_with (go_at_call 100;refine C.mono ?_;rintro e w2 ⟨rfl,e2⟩;subst e2)
    go_roundw
    case rel=>exact ⟨⟨_,rfl⟩,by trivial,be,H6.out,HF.out⟩
    case measure=>rw [HM.out.2.2,HM.out.1,K.sz];omega
def F.get:F→ByteArray→Option (Vd × Md × F)
 | .nil,_=>none
 | .cons n v m k r,nm=>if nm=n then some (v,m,k) else r.get nm
theorem F.get_app {nm:ByteArray}:∀ {f g:F},(f.app g).get nm=(f.get nm).or (g.get nm)
 | .nil,g=>by simp [F.app,F.get]
 | .cons n v m k r,g=>by
  rw [F.app,F.get,F.get]
  split
  ·rfl
  ·exact F.get_app
theorem F.get_under {nm:ByteArray}:∀ {f:F},f.under nm→f.get nm=none
 | .nil,_=>rfl
 | .cons n _ _ _ r,⟨h1,h2⟩=>by rw [F.get,if_neg (Ne.symm (lt_no h1).2)];exact F.get_under h2
theorem F.get_above {nm:ByteArray}:∀ {f:F},f.above nm→f.get nm=none
 | .nil,_=>rfl
 | .cons n _ _ _ r,⟨h1,h2⟩=>by rw [F.get,if_neg (lt_no h1).2];exact F.get_above h2
theorem F.under_mono {a b:ByteArray} (h:lt a b):∀ {f:F},f.under a→f.under b
 | .nil,_=>trivial
 | .cons _ _ _ _ _,⟨h1,h2⟩=>⟨lt_trans h1 h,F.under_mono h h2⟩
theorem K.find_get {nm:ByteArray}:∀ {k:K},k.flat.rises→(k.find nm).map (fun x=>(x.2.1,x.2.2.1,x.2.2.2.flat))=k.flat.get nm
 | .nil,_=>rfl
 | .node q p n v m kids ah be,h=>by
  rw [K.flat,F.rises_app] at h
  obtain ⟨h1,h2,h3,h4,h5,_⟩:=h
  rw [K.find,K.flat,F.get_app,F.get]
  rcases lt_tri nm n with hq | hq | hq
  ·subst hq
   rw [if_pos (cmp3_eq.2 rfl),if_pos rfl,F.get_under h2]
   rfl
  ·rw [if_neg (by rw [cmp3_lt hq];decide),if_pos (cmp3_lt hq),if_neg (lt_no hq).2,F.get_above (F.above_mono hq h3),K.find_get h1]
   simp
  ·rw [if_neg (by rw [qC hq];decide),if_neg (by rw [qC hq];decide),if_neg (Ne.symm (lt_no hq).2),F.get_under (F.under_mono hq h2),K.find_get h5]
   rfl
end Go.Proofs.YthfcanpkhjgomaaGreat
