import Derived.Shelf.Strconv.Clone
import Derived.Test.YthfcanpkhjgomaaGreatEven
import Derived.Test.YthfcanpkhjgomaaGreatPSplit
set_option maxRecDepth 100000
set_option maxHeartbeats 2000000
namespace Go.Proofs.YthfcanpkhjgomaaGreat
open Go.Shelf
variable {P R:Nat→Prop}
def Tryz.lays316_ren:Go.Shelf.Ren:=⟨fun | 316=>157 | n=>n,fun | 0=>0 | 3=>3 | 4=>4 | 5=>5 | 9=>9 | 37=>146 | 127=>233 | n=>n,fun n=>n⟩
theorem Tryz.lays316:Go.Proofs.LaysM.n316 Tryz.prog Tryz.lays316_ren:={
 mixed:=by kernel_rfl
 f316:=Tryz.func157.trans (congrArg some (by kernel_rfl))
 t0:=Tryz.underlying0
 a0:=Tryz.isAgg0
 z0:=Tryz.sizeOf0
 v0:=Tryz.zeroValue0
 i0:=by kernel_rfl
 t3:=Tryz.underlying3
 a3:=Tryz.isAgg3
 z3:=Tryz.sizeOf3
 v3:=Tryz.zeroValue3
 i3:=by kernel_rfl
 t4:=Tryz.underlying4
 a4:=Tryz.isAgg4
 z4:=Tryz.sizeOf4
 v4:=Tryz.zeroValue4
 i4:=by kernel_rfl
 t5:=Tryz.underlying5
 a5:=Tryz.isAgg5
 z5:=Tryz.sizeOf5
 v5:=Tryz.zeroValue5
 i5:=by kernel_rfl
 t9:=Tryz.underlying9
 a9:=Tryz.isAgg9
 z9:=Tryz.sizeOf9
 v9:=Tryz.zeroValue9
 i9:=by kernel_rfl
 t37:=Tryz.underlying146
 a37:=Tryz.isAgg146
 z37:=Tryz.sizeOf146
 v37:=Tryz.zeroValue146
 i37:=by kernel_rfl
 t127:=Tryz.underlying233
 a127:=Tryz.isAgg233
 z127:=Tryz.sizeOf233
 v127:=Tryz.zeroValue233
 i127:=by kernel_rfl }
open Go.RowKit in
theorem Tryz.stringslite_Clone (s:ByteArray) (w:World) (hs:s.size≤281474976710656):Calls Tryz.prog 157 #[.string s] w fun e w'=>e=.returned (.string s)∧Below w.heap.size w w':=Any.stringslite_Clone Tryz.lays316 s w hs
open Go.RowKit
theorem clone_any (s:ByteArray) (w:World) (hs:s.size≤281474976710656):Calls Tryz.prog 149 #[.string s] w fun e w'=>e=.returned (.string s)∧G w w':=by
 have C:=Tryz.stringslite_Clone s w hs
 go_enter Tryz.func149,Tryz.ntmps149
 go_wp2_with (go_at_call 157;refine C.mono ?_;rintro e w1 ⟨rfl,hg⟩)
 go_ret
 exact ⟨rfl,hg⟩
theorem even_any {aa ab:Option Addr} {p:Nat} {nm:ByteArray} {v:Vd} {m:Md} {fa fb fk:F} {w:World} (ha:AtF P R w (.pointer aa) fa) (hb:AtF P R w (.pointer ab) fb) (hk:AtTF P R w p v m fk) (hs:fa.size+fb.size+fk.size≤1000000) (hP:∀ b,w.heap.size≤b→P b):
  Calls Tryz.prog 150 #[.pointer aa,.agg #[.string nm,.pointer (some ⟨p,0,none⟩)],.pointer ab] w (EvenTo P R w (fa.app (.cons nm v m fk fb))):=by
 have la:=F.len_le_size fa
 have lb:=F.len_le_size fb
 have hG:G w (w.alloc (.cells #[.string nm,.pointer (some ⟨p,0,none⟩)] 100)):=G.alloc w _
 have hb0:=jh w #[.string nm,.pointer (some ⟨p,0,none⟩)] 100
 have z0:=jG hb0 0 (.string nm) rfl
 have z1:=jG hb0 1 (.pointer (some ⟨p,0,none⟩)) rfl
 have CA:=weight_any (ha.grow hG) (by omega)
 have CB:=weight_any (hb.grow hG) (by omega)
 have HA:=hid (⟨ha.grow hG,hb.grow hG,hk.grow hG,hG⟩:AtF P R (w.alloc (.cells #[.string nm,.pointer (some ⟨p,0,none⟩)] 100)) (.pointer aa) fa∧AtF P R (w.alloc (.cells #[.string nm,.pointer (some ⟨p,0,none⟩)] 100)) (.pointer ab) fb∧AtTF P R (w.alloc (.cells #[.string nm,.pointer (some ⟨p,0,none⟩)] 100)) p v m fk∧G w (w.alloc (.cells #[.string nm,.pointer (some ⟨p,0,none⟩)] 100)))
 have HP:Hid (∀ b,(w.alloc (.cells #[.string nm,.pointer (some ⟨p,0,none⟩)] 100)).heap.size≤b→P b):=fun b hb=>hP b (Nat.le_trans hG.size hb)
 clear ha hb hk hG hb0 hP
 obtain ⟨La,hLa⟩:∃ L,fa.len+1=L:=⟨_,rfl⟩
 obtain ⟨Lb,hLb⟩:∃ L,fb.len+1=L:=⟨_,rfl⟩
 rw [hLa] at CA
 rw [hLb] at CB
 have HL:=hid (⟨hLa,hLb⟩:fa.len+1=La∧fb.len+1=Lb)
 have ea:IntKind.i64.wrap (3*(La:Int))=3*(La:Int):=by rw [IntKind.wrap_i64];omega
 have eb:IntKind.i64.wrap (3*(Lb:Int))=3*(Lb:Int):=by rw [IntKind.wrap_i64];omega
 clear hLa hLb la lb
 go_enter Tryz.func150,Tryz.ntmps150
 go_upto_region 1 with fail
 generalize w.alloc (.cells #[.string nm,.pointer (some ⟨p,0,none⟩)] 100)=w1 at *
 generalize w.heap.size=H at *
 by_cases h1:3*(La:Int)<(Lb:Int)
 ·obtain ⟨q,rfl⟩:∃ q,ab=some ⟨q,0,none⟩:=by
   cases ab with
   | none=>exfalso;have:=HL.out.2;rw [HA.out.2.1.isNil] at this;simp [F.len] at this;have:=HL.out.1;omega
   | some a=>obtain ⟨q,rfl⟩:=HA.out.2.1.addr;exact ⟨q,rfl⟩
  have CT:=turnA_any (nm:=nm) HA.out.1 HA.out.2.1 HA.out.2.2.1 (by omega) HP.out
  clear HL
  go_wp2_with (first
   | (go_at_call 158;first | (refine CA.mono ?_;rintro e w2 ⟨rfl,e2⟩;subst e2) | (refine CB.mono ?_;rintro e w2 ⟨rfl,e2⟩;subst e2))
   | (go_at_call 159;refine CT.mono ?_;rintro e w3 ⟨q3,rfl,h3,hg3⟩;have H3:=hid (⟨h3,HA.out.2.2.2.trans hg3⟩:_∧_);clear h3 hg3))
  go_ret
  exact ⟨q3,rfl,H3.out.1,H3.out.2⟩
 ·by_cases h2:3*(Lb:Int)<(La:Int)
  ·obtain ⟨q,rfl⟩:∃ q,aa=some ⟨q,0,none⟩:=by
    cases aa with
    | none=>exfalso;have:=HL.out.1;rw [HA.out.1.isNil] at this;simp [F.len] at this;have:=HL.out.2;omega
    | some a=>obtain ⟨q,rfl⟩:=HA.out.1.addr;exact ⟨q,rfl⟩
   have CT:=turnB_any (nm:=nm) HA.out.2.1 HA.out.1 HA.out.2.2.1 (by omega) HP.out
   clear HL
   go_wp2_with (first
    | (go_at_call 158;first | (refine CA.mono ?_;rintro e w2 ⟨rfl,e2⟩;subst e2) | (refine CB.mono ?_;rintro e w2 ⟨rfl,e2⟩;subst e2))
    | (go_at_call 160;refine CT.mono ?_;rintro e w3 ⟨q3,rfl,h3,hg3⟩;have H3:=hid (⟨h3,HA.out.2.2.2.trans hg3⟩:_∧_);clear h3 hg3))
   go_ret
   exact ⟨q3,rfl,H3.out.1,H3.out.2⟩
  ·have CT:=jv (nm:=nm) HA.out.1 HA.out.2.1 HA.out.2.2.1 (by omega) HP.out
   clear HL
   go_wp2_with (first
    | (go_at_call 158;first | (refine CA.mono ?_;rintro e w2 ⟨rfl,e2⟩;subst e2) | (refine CB.mono ?_;rintro e w2 ⟨rfl,e2⟩;subst e2))
    | (go_at_call 133;refine CT.mono ?_;rintro e w3 ⟨q3,rfl,h3,hg3⟩;have H3:=hid (⟨h3,HA.out.2.2.2.trans hg3⟩:_∧_);clear h3 hg3))
   go_ret
   exact ⟨q3,rfl,H3.out.1,H3.out.2⟩
end Go.Proofs.YthfcanpkhjgomaaGreat
namespace Go.Proofs.YthfcanpkhjgomaaGreat
open Go.RowKit
variable {P R:Nat→Prop}
def F.put:F→ByteArray→Vd→Md→F→F
 | .nil,nm,v,m,fk=>.cons nm v m fk .nil
 | .cons n v' m' k' r,nm,v,m,fk=>if cmp3 nm n=0 then .cons n v m fk r else if cmp3 nm n=-1 then .cons nm v m fk (.cons n v' m' k' r) else .cons n v' m' k' (r.put nm v m fk)
section
variable {nm:ByteArray} {v:Vd} {m:Md} {fk:F}
theorem F.put_size:∀ f:F,(f.put nm v m fk).size≤f.size+fk.size+1
 | .nil=>by simp [F.put,F.size]
 | .cons n v' m' k' r=>by
  have:=F.put_size r
  rw [F.put]
  split
  ·simp only [F.size];omega
  split
  ·simp only [F.size];omega
  ·simp only [F.size];omega
theorem F.put_eq {n:ByteArray} {v':Vd} {m':Md} {k' fb:F} (hn:nm=n):∀ {fa:F},fa.under n→(fa.app (.cons n v' m' k' fb)).put nm v m fk=fa.app (.cons n v m fk fb)
 | .nil,_=>by rw [F.app,F.put,if_pos (cmp3_eq.2 hn)];rfl
 | .cons n0 v0 m0 k0 r,⟨h1,h2⟩=>by
  subst hn
  rw [F.app,F.put,if_neg (by rw [qC h1];decide),if_neg (by rw [qC h1];decide),F.put_eq rfl h2]
  rfl
theorem F.put_lt {n:ByteArray} {v':Vd} {m':Md} {k' fb:F} (hn:lt nm n):∀ {fa:F},(fa.app (.cons n v' m' k' fb)).put nm v m fk=(fa.put nm v m fk).app (.cons n v' m' k' fb)
 | .nil=>by
  show (F.cons n v' m' k' fb).put nm v m fk=F.cons nm v m fk (F.cons n v' m' k' fb)
  rw [F.put,if_neg (by rw [cmp3_lt hn];decide),if_pos (cmp3_lt hn)]
 | .cons n0 v0 m0 k0 r=>by
  rw [F.app,F.put,F.put,F.put_lt hn]
  split
  ·rfl
  split
  ·rfl
  ·rfl
theorem F.put_gt {n:ByteArray} {v':Vd} {m':Md} {k' fb:F} (hn:lt n nm):∀ {fa:F},fa.under n→(fa.app (.cons n v' m' k' fb)).put nm v m fk=fa.app (.cons n v' m' k' (fb.put nm v m fk))
 | .nil,_=>by rw [F.app,F.put,if_neg (by rw [qC hn];decide),if_neg (by rw [qC hn];decide)];rfl
 | .cons n0 v0 m0 k0 r,⟨h1,h2⟩=>by
  have h3:=lt_trans h1 hn
  rw [F.app,F.put,if_neg (by rw [qC h3];decide),if_neg (by rw [qC h3];decide),F.put_gt hn h2]
  rfl
end
def WithOk (P:Nat→Prop) (R:Nat→Prop) (nm:ByteArray) (v:Vd) (m:Md) (fk f:F):Prop:=∀ (w:World) (au:Option Addr) (p:Nat),AtF P R w (.pointer au) f→AtTF P R w p v m fk→f.rises→f.size+fk.size≤900000→nm.size≤281474976710656→(∀ b,w.heap.size≤b→P b)→
  Calls Tryz.prog 137 #[.pointer au,.string nm,.pointer (some ⟨p,0,none⟩)] w (EvenTo P R w (f.put nm v m fk))
theorem with_any (nm:ByteArray) (v:Vd) (m:Md) (fk:F):∀ (Z:Nat) (f:F),f.size<Z→WithOk P R nm v m fk f:=by
 intro Z
 induction Z with
 | zero=>intro f h;omega
 | succ Z ih=>
  intro f hZ w au p hu hk hr hs hnm hP
  have HP:Hid (∀ W,G w W→∀ b,W.heap.size≤b→P b):=fun W hW b hb=>hP b (Nat.le_trans hW.size hb)
  clear hP
  cases au with
  | none=>
   obtain rfl:=hu.isNil
   have C1:=clone_any nm w hnm
   have HK:=hid hk
   clear hk hu hr ih
   go_enter Tryz.func137,Tryz.ntmps137
   go_wp2_with (first
    | (go_at_call 149;refine C1.mono ?_;rintro e w1 ⟨rfl,hg1⟩;have CJ:=jv (nm:=nm) (AtF.leaf w1) (AtF.leaf w1) (HK.out.grow hg1) (by simp [F.size] at hs ⊢;omega) (HP.out _ hg1);have HG1:=hid hg1;clear hg1)
    | (go_at_call 133;refine CJ.mono ?_;rintro e w3 ⟨q3,rfl,h3,hg3⟩;have H3:=hid (⟨h3,HG1.out.trans hg3⟩:_∧_);clear h3 hg3))
   go_ret
   exact ⟨q3,rfl,H3.out.1,H3.out.2⟩
  | some a=>
   obtain ⟨q,rfl⟩:=hu.addr
   obtain ⟨n,p1,v1,m1,f1,aa,ab,fa,fb,c0,c1,c2,c3,h1,ha,hb,rfl⟩:=hu.node
   obtain ⟨ra,rua,rab,rk,rb,_⟩:=F.rises_app.1 hr
   have hsz:fa.size+(f1.size+fb.size+1)+fk.size≤900000:=by rw [F.app_size,F.size] at hs;omega
   have hZ2:fa.size+(f1.size+fb.size+1)<Z+1:=by rw [F.app_size,F.size] at hZ;omega
   have HA:=hid (⟨ha,hb,h1,hk⟩:AtF P R w (.pointer aa) fa∧AtF P R w (.pointer ab) fb∧AtTF P R w p1 v1 m1 f1∧AtTF P R w p v m fk)
   have HIH:=hid ih
   have HR:=hid (⟨ra,rb,hnm⟩:_∧_∧_)
   have C94:=cmp_any nm n w
   clear hu hk hr hs hZ ha hb h1 ra rab rk rb ih hnm
   rcases lt_tri nm n with hq | hq | hq
   ·rw [F.put_eq hq rua]
    rw [show cmp3 nm n=0 from cmp3_eq.2 hq] at C94
    clear rua hq
    go_enter Tryz.func137,Tryz.ntmps137
    go_upto_region 5 with (go_at_call 100;refine C94.mono ?_;rintro e w2 ⟨rfl,e2⟩;subst e2)
    refine jV ?_
    replace c0:=(G.drew w2).cell c0
    replace c1:=(G.drew w2).cell c1
    replace c2:=(G.drew w2).cell c2
    replace c3:=(G.drew w2).cell c3
    have HD:=hid (G.drew w2)
    generalize w2.drew=w3 at *
    refine takeG 0 23 (.pointer (some ⟨q,0,none⟩)) rfl rfl (by kernel_rfl) (by kernel_rfl) (by kernel_rfl) (fun _ _ _ h=>h) (by kernel_rfl) (fun wz hz=>?_) ?_
    ·rfl
    try simp only [Act.put,sA,sB,sC]
    refine takeG 1 24 (.pointer (some ⟨q,0,none⟩)) rfl rfl (by kernel_rfl) (by kernel_rfl) (by kernel_rfl) (fun _ _ _ h=>h) (by kernel_rfl) (fun wz hz=>?_) ?_
    ·go_simp
    try simp only [Act.put,sA,sB,sC]
    refine takeG 2 25 (.pointer (some ⟨q,2,none⟩)) rfl rfl (by kernel_rfl) (by kernel_rfl) (by kernel_rfl) (fun _ _ _ h=>h) (by kernel_rfl) (fun wz hz=>?_) ?_
    ·go_simp
    try simp only [Act.put,sA,sB,sC]
    refine takeG 3 26 (.pointer aa) rfl rfl (by kernel_rfl) (by kernel_rfl) (by kernel_rfl) (fun _ _ _ h=>h) (by kernel_rfl) (fun wz hz=>?_) ?_
    ·have y0:=hz.cell c2;go_simp
    try simp only [Act.put,sA,sB,sC]
    refine takeG 4 27 (.pointer (some ⟨q,0,none⟩)) rfl rfl (by kernel_rfl) (by kernel_rfl) (by kernel_rfl) (fun _ _ _ h=>h) (by kernel_rfl) (fun wz hz=>?_) ?_
    ·rfl
    try simp only [Act.put,sA,sB,sC]
    refine takeG 5 28 (.pointer (some ⟨q,0,none⟩)) rfl rfl (by kernel_rfl) (by kernel_rfl) (by kernel_rfl) (fun _ _ _ h=>h) (by kernel_rfl) (fun wz hz=>?_) ?_
    ·go_simp
    try simp only [Act.put,sA,sB,sC]
    refine takeG 6 29 (.pointer (some ⟨q,0,none⟩)) rfl rfl (by kernel_rfl) (by kernel_rfl) (by kernel_rfl) (fun _ _ _ h=>h) (by kernel_rfl) (fun wz hz=>?_) ?_
    ·go_simp
    try simp only [Act.put,sA,sB,sC]
    refine takeG 7 30 (.pointer (some ⟨q,0,none⟩)) rfl rfl (by kernel_rfl) (by kernel_rfl) (by kernel_rfl) (fun _ _ _ h=>h) (by kernel_rfl) (fun wz hz=>?_) ?_
    ·go_simp
    try simp only [Act.put,sA,sB,sC]
    refine takeG 8 31 (.string n) rfl rfl (by kernel_rfl) (by kernel_rfl) (by kernel_rfl) (fun _ _ _ h=>h) (by kernel_rfl) (fun wz hz=>?_) ?_
    ·have y0:=hz.cell c0;go_simp
    try simp only [Act.put,sA,sB,sC]
    refine takeG 9 32 (.pointer (some ⟨p,0,none⟩)) rfl rfl (by kernel_rfl) (by kernel_rfl) (by kernel_rfl) (fun _ _ _ h=>h) (by kernel_rfl) (fun wz hz=>?_) ?_
    ·rfl
    try simp only [Act.put,sA,sB,sC]
    refine takeG 10 33 (.agg #[.string n,.pointer (some ⟨p,0,none⟩)]) rfl rfl (by kernel_rfl) (by kernel_rfl) (by kernel_rfl) (fun _ _ _ h=>h) (by kernel_rfl) (fun wz hz=>?_) ?_
    ·go_simp
    try simp only [Act.put,sA,sB,sC]
    refine takeG 11 34 (.pointer (some ⟨q,0,none⟩)) rfl rfl (by kernel_rfl) (by kernel_rfl) (by kernel_rfl) (fun _ _ _ h=>h) (by kernel_rfl) (fun wz hz=>?_) ?_
    ·rfl
    try simp only [Act.put,sA,sB,sC]
    refine takeG 12 35 (.pointer (some ⟨q,0,none⟩)) rfl rfl (by kernel_rfl) (by kernel_rfl) (by kernel_rfl) (fun _ _ _ h=>h) (by kernel_rfl) (fun wz hz=>?_) ?_
    ·go_simp
    try simp only [Act.put,sA,sB,sC]
    refine takeG 13 36 (.pointer (some ⟨q,3,none⟩)) rfl rfl (by kernel_rfl) (by kernel_rfl) (by kernel_rfl) (fun _ _ _ h=>h) (by kernel_rfl) (fun wz hz=>?_) ?_
    ·go_simp
    try simp only [Act.put,sA,sB,sC]
    refine takeG 14 37 (.pointer ab) rfl rfl (by kernel_rfl) (by kernel_rfl) (by kernel_rfl) (fun _ _ _ h=>h) (by kernel_rfl) (fun wz hz=>?_) ?_
    ·have y0:=hz.cell c3;go_simp
    try simp only [Act.put,sA,sB,sC]
    refine readyG [15] (by kernel_rfl) (by simp) fun w5 hg5=>?_
    have hG5:=HD.out.trans hg5
    refine AllG.call 15 38 133 #[.pointer aa,.agg #[.string n,.pointer (some ⟨p,0,none⟩)],.pointer ab] rfl rfl (by kernel_rfl) (by go_simp) ((jv (nm:=n) (HA.out.1.grow hG5) (HA.out.2.1.grow hG5) (HA.out.2.2.2.grow hG5) (by omega) (HP.out _ hG5)).mono ?_) AllG.nil
    rintro e w6 ⟨q2,rfl,hq2,hg6⟩
    refine ⟨_,rfl,hg6,?_⟩
    try simp only [Act.put,sA,sB,sC]
    have hG7:=hG5.trans hg6
    refine takeG 16 6 (.pointer (some ⟨q2,0,none⟩)) rfl rfl (by kernel_rfl) (by kernel_rfl) (by kernel_rfl) (fun _ _ _ h=>h) (by kernel_rfl) (fun wz hz=>?_) ?_
    ·rfl
    try simp only [Act.put,sA,sB,sC]
    refine doneG (by kernel_rfl) (fun w9 hg9=>?_)
    have HQ:=hid (⟨hq2.grow hg9,hG7.trans hg9⟩:_∧_)
    clear hq2 hg9
    go_wp2
    go_ret
    exact ⟨q2,rfl,HQ.out.1,HQ.out.2⟩
   ·rw [F.put_lt hq]
    rw [show cmp3 nm n=-1 from cmp3_lt hq] at C94
    clear rua hq
    go_enter Tryz.func137,Tryz.ntmps137
    go_upto_region 7 with (go_at_call 100;refine C94.mono ?_;rintro e w2 ⟨rfl,e2⟩;subst e2)
    refine jV ?_
    replace c0:=(G.drew w2).cell c0
    replace c1:=(G.drew w2).cell c1
    replace c2:=(G.drew w2).cell c2
    replace c3:=(G.drew w2).cell c3
    have HD:=hid (G.drew w2)
    generalize w2.drew=w3 at *
    refine takeG 0 41 (.pointer (some ⟨q,0,none⟩)) rfl rfl (by kernel_rfl) (by kernel_rfl) (by kernel_rfl) (fun _ _ _ h=>h) (by kernel_rfl) (fun wz hz=>?_) ?_
    ·rfl
    try simp only [Act.put,sA,sB,sC]
    refine takeG 1 42 (.pointer (some ⟨q,0,none⟩)) rfl rfl (by kernel_rfl) (by kernel_rfl) (by kernel_rfl) (fun _ _ _ h=>h) (by kernel_rfl) (fun wz hz=>?_) ?_
    ·go_simp
    try simp only [Act.put,sA,sB,sC]
    refine takeG 2 43 (.pointer (some ⟨q,2,none⟩)) rfl rfl (by kernel_rfl) (by kernel_rfl) (by kernel_rfl) (fun _ _ _ h=>h) (by kernel_rfl) (fun wz hz=>?_) ?_
    ·go_simp
    try simp only [Act.put,sA,sB,sC]
    refine takeG 3 44 (.pointer aa) rfl rfl (by kernel_rfl) (by kernel_rfl) (by kernel_rfl) (fun _ _ _ h=>h) (by kernel_rfl) (fun wz hz=>?_) ?_
    ·have y0:=hz.cell c2;go_simp
    try simp only [Act.put,sA,sB,sC]
    refine takeG 4 45 (.string nm) rfl rfl (by kernel_rfl) (by kernel_rfl) (by kernel_rfl) (fun _ _ _ h=>h) (by kernel_rfl) (fun wz hz=>?_) ?_
    ·rfl
    try simp only [Act.put,sA,sB,sC]
    refine takeG 5 46 (.pointer (some ⟨p,0,none⟩)) rfl rfl (by kernel_rfl) (by kernel_rfl) (by kernel_rfl) (fun _ _ _ h=>h) (by kernel_rfl) (fun wz hz=>?_) ?_
    ·rfl
    try simp only [Act.put,sA,sB,sC]
    refine takeG 7 48 (.pointer (some ⟨q,0,none⟩)) rfl rfl (by kernel_rfl) (by kernel_rfl) (by kernel_rfl) (fun _ _ _ h=>h) (by kernel_rfl) (fun wz hz=>?_) ?_
    ·rfl
    try simp only [Act.put,sA,sB,sC]
    refine takeG 8 49 (.pointer (some ⟨q,0,none⟩)) rfl rfl (by kernel_rfl) (by kernel_rfl) (by kernel_rfl) (fun _ _ _ h=>h) (by kernel_rfl) (fun wz hz=>?_) ?_
    ·go_simp
    try simp only [Act.put,sA,sB,sC]
    refine takeG 9 50 (.pointer (some ⟨q,0,none⟩)) rfl rfl (by kernel_rfl) (by kernel_rfl) (by kernel_rfl) (fun _ _ _ h=>h) (by kernel_rfl) (fun wz hz=>?_) ?_
    ·go_simp
    try simp only [Act.put,sA,sB,sC]
    refine takeG 10 51 (.agg #[.string n,.pointer (some ⟨p1,0,none⟩)]) rfl rfl (by kernel_rfl) (by kernel_rfl) (by kernel_rfl) (fun _ _ _ h=>h) (by kernel_rfl) (fun wz hz=>?_) ?_
    ·have y0:=hz.cell c0;have y1:=hz.cell c1;go_simp
    try simp only [Act.put,sA,sB,sC]
    refine takeG 11 52 (.pointer (some ⟨q,0,none⟩)) rfl rfl (by kernel_rfl) (by kernel_rfl) (by kernel_rfl) (fun _ _ _ h=>h) (by kernel_rfl) (fun wz hz=>?_) ?_
    ·rfl
    try simp only [Act.put,sA,sB,sC]
    refine takeG 12 53 (.pointer (some ⟨q,0,none⟩)) rfl rfl (by kernel_rfl) (by kernel_rfl) (by kernel_rfl) (fun _ _ _ h=>h) (by kernel_rfl) (fun wz hz=>?_) ?_
    ·go_simp
    try simp only [Act.put,sA,sB,sC]
    refine takeG 13 54 (.pointer (some ⟨q,3,none⟩)) rfl rfl (by kernel_rfl) (by kernel_rfl) (by kernel_rfl) (fun _ _ _ h=>h) (by kernel_rfl) (fun wz hz=>?_) ?_
    ·go_simp
    try simp only [Act.put,sA,sB,sC]
    refine takeG 14 55 (.pointer ab) rfl rfl (by kernel_rfl) (by kernel_rfl) (by kernel_rfl) (fun _ _ _ h=>h) (by kernel_rfl) (fun wz hz=>?_) ?_
    ·have y0:=hz.cell c3;go_simp
    try simp only [Act.put,sA,sB,sC]
    refine readyG [6] (by kernel_rfl) (by simp) fun w5 hg5=>?_
    have hG5:=HD.out.trans hg5
    refine AllG.call 6 47 137 #[.pointer aa,.string nm,.pointer (some ⟨p,0,none⟩)] rfl rfl (by kernel_rfl) (by go_simp) ((HIH.out fa (by omega) w5 aa p (HA.out.1.grow hG5) (HA.out.2.2.2.grow hG5) HR.out.1 (by omega) HR.out.2.2 (HP.out _ hG5)).mono ?_) AllG.nil
    rintro e w6 ⟨q1,rfl,hq1,hg6⟩
    refine ⟨_,rfl,hg6,?_⟩
    try simp only [Act.put,sA,sB,sC]
    refine readyG [15] (by kernel_rfl) (by simp) fun w7 hg7=>?_
    have hG6:=(hG5.trans hg6).trans hg7
    refine AllG.call 15 56 150 #[.pointer (some ⟨q1,0,none⟩),.agg #[.string n,.pointer (some ⟨p1,0,none⟩)],.pointer ab] rfl rfl (by kernel_rfl) (by go_simp) ((even_any (nm:=n) (hq1.grow hg7) (HA.out.2.1.grow hG6) (HA.out.2.2.1.grow hG6) (by have:=F.put_size (nm:=nm) (v:=v) (m:=m) (fk:=fk) fa;omega) (HP.out _ hG6)).mono ?_) AllG.nil
    rintro e w8 ⟨q2,rfl,hq2,hg8⟩
    refine ⟨_,rfl,hg8,?_⟩
    try simp only [Act.put,sA,sB,sC]
    have hG7:=hG6.trans hg8
    refine takeG 16 6 (.pointer (some ⟨q2,0,none⟩)) rfl rfl (by kernel_rfl) (by kernel_rfl) (by kernel_rfl) (fun _ _ _ h=>h) (by kernel_rfl) (fun wz hz=>?_) ?_
    ·rfl
    try simp only [Act.put,sA,sB,sC]
    refine doneG (by kernel_rfl) (fun w9 hg9=>?_)
    have HQ:=hid (⟨hq2.grow hg9,hG7.trans hg9⟩:_∧_)
    clear hq2 hg9
    go_wp2
    go_ret
    exact ⟨q2,rfl,HQ.out.1,HQ.out.2⟩
   ·rw [F.put_gt hq rua]
    rw [show cmp3 nm n=1 from qC hq] at C94
    clear rua hq
    go_enter Tryz.func137,Tryz.ntmps137
    go_upto_region 8 with (go_at_call 100;refine C94.mono ?_;rintro e w2 ⟨rfl,e2⟩;subst e2)
    refine jV ?_
    replace c0:=(G.drew w2).cell c0
    replace c1:=(G.drew w2).cell c1
    replace c2:=(G.drew w2).cell c2
    replace c3:=(G.drew w2).cell c3
    have HD:=hid (G.drew w2)
    generalize w2.drew=w3 at *
    refine takeG 0 57 (.pointer (some ⟨q,0,none⟩)) rfl rfl (by kernel_rfl) (by kernel_rfl) (by kernel_rfl) (fun _ _ _ h=>h) (by kernel_rfl) (fun wz hz=>?_) ?_
    ·rfl
    try simp only [Act.put,sA,sB,sC]
    refine takeG 1 58 (.pointer (some ⟨q,0,none⟩)) rfl rfl (by kernel_rfl) (by kernel_rfl) (by kernel_rfl) (fun _ _ _ h=>h) (by kernel_rfl) (fun wz hz=>?_) ?_
    ·go_simp
    try simp only [Act.put,sA,sB,sC]
    refine takeG 2 59 (.pointer (some ⟨q,2,none⟩)) rfl rfl (by kernel_rfl) (by kernel_rfl) (by kernel_rfl) (fun _ _ _ h=>h) (by kernel_rfl) (fun wz hz=>?_) ?_
    ·go_simp
    try simp only [Act.put,sA,sB,sC]
    refine takeG 3 60 (.pointer aa) rfl rfl (by kernel_rfl) (by kernel_rfl) (by kernel_rfl) (fun _ _ _ h=>h) (by kernel_rfl) (fun wz hz=>?_) ?_
    ·have y0:=hz.cell c2;go_simp
    try simp only [Act.put,sA,sB,sC]
    refine takeG 4 61 (.pointer (some ⟨q,0,none⟩)) rfl rfl (by kernel_rfl) (by kernel_rfl) (by kernel_rfl) (fun _ _ _ h=>h) (by kernel_rfl) (fun wz hz=>?_) ?_
    ·rfl
    try simp only [Act.put,sA,sB,sC]
    refine takeG 5 62 (.pointer (some ⟨q,0,none⟩)) rfl rfl (by kernel_rfl) (by kernel_rfl) (by kernel_rfl) (fun _ _ _ h=>h) (by kernel_rfl) (fun wz hz=>?_) ?_
    ·go_simp
    try simp only [Act.put,sA,sB,sC]
    refine takeG 6 63 (.pointer (some ⟨q,0,none⟩)) rfl rfl (by kernel_rfl) (by kernel_rfl) (by kernel_rfl) (fun _ _ _ h=>h) (by kernel_rfl) (fun wz hz=>?_) ?_
    ·go_simp
    try simp only [Act.put,sA,sB,sC]
    refine takeG 7 64 (.agg #[.string n,.pointer (some ⟨p1,0,none⟩)]) rfl rfl (by kernel_rfl) (by kernel_rfl) (by kernel_rfl) (fun _ _ _ h=>h) (by kernel_rfl) (fun wz hz=>?_) ?_
    ·have y0:=hz.cell c0;have y1:=hz.cell c1;go_simp
    try simp only [Act.put,sA,sB,sC]
    refine takeG 8 65 (.pointer (some ⟨q,0,none⟩)) rfl rfl (by kernel_rfl) (by kernel_rfl) (by kernel_rfl) (fun _ _ _ h=>h) (by kernel_rfl) (fun wz hz=>?_) ?_
    ·rfl
    try simp only [Act.put,sA,sB,sC]
    refine takeG 9 66 (.pointer (some ⟨q,0,none⟩)) rfl rfl (by kernel_rfl) (by kernel_rfl) (by kernel_rfl) (fun _ _ _ h=>h) (by kernel_rfl) (fun wz hz=>?_) ?_
    ·go_simp
    try simp only [Act.put,sA,sB,sC]
    refine takeG 10 67 (.pointer (some ⟨q,3,none⟩)) rfl rfl (by kernel_rfl) (by kernel_rfl) (by kernel_rfl) (fun _ _ _ h=>h) (by kernel_rfl) (fun wz hz=>?_) ?_
    ·go_simp
    try simp only [Act.put,sA,sB,sC]
    refine takeG 11 68 (.pointer ab) rfl rfl (by kernel_rfl) (by kernel_rfl) (by kernel_rfl) (fun _ _ _ h=>h) (by kernel_rfl) (fun wz hz=>?_) ?_
    ·have y0:=hz.cell c3;go_simp
    try simp only [Act.put,sA,sB,sC]
    refine takeG 12 69 (.string nm) rfl rfl (by kernel_rfl) (by kernel_rfl) (by kernel_rfl) (fun _ _ _ h=>h) (by kernel_rfl) (fun wz hz=>?_) ?_
    ·rfl
    try simp only [Act.put,sA,sB,sC]
    refine takeG 13 70 (.pointer (some ⟨p,0,none⟩)) rfl rfl (by kernel_rfl) (by kernel_rfl) (by kernel_rfl) (fun _ _ _ h=>h) (by kernel_rfl) (fun wz hz=>?_) ?_
    ·rfl
    try simp only [Act.put,sA,sB,sC]
    refine readyG [14] (by kernel_rfl) (by simp) fun w5 hg5=>?_
    have hG5:=HD.out.trans hg5
    refine AllG.call 14 71 137 #[.pointer ab,.string nm,.pointer (some ⟨p,0,none⟩)] rfl rfl (by kernel_rfl) (by go_simp) ((HIH.out fb (by omega) w5 ab p (HA.out.2.1.grow hG5) (HA.out.2.2.2.grow hG5) HR.out.2.1 (by omega) HR.out.2.2 (HP.out _ hG5)).mono ?_) AllG.nil
    rintro e w6 ⟨q1,rfl,hq1,hg6⟩
    refine ⟨_,rfl,hg6,?_⟩
    try simp only [Act.put,sA,sB,sC]
    refine readyG [15] (by kernel_rfl) (by simp) fun w7 hg7=>?_
    have hG6:=(hG5.trans hg6).trans hg7
    refine AllG.call 15 72 150 #[.pointer aa,.agg #[.string n,.pointer (some ⟨p1,0,none⟩)],.pointer (some ⟨q1,0,none⟩)] rfl rfl (by kernel_rfl) (by go_simp) ((even_any (nm:=n) (HA.out.1.grow hG6) (hq1.grow hg7) (HA.out.2.2.1.grow hG6) (by have:=F.put_size (nm:=nm) (v:=v) (m:=m) (fk:=fk) fb;omega) (HP.out _ hG6)).mono ?_) AllG.nil
    rintro e w8 ⟨q2,rfl,hq2,hg8⟩
    refine ⟨_,rfl,hg8,?_⟩
    try simp only [Act.put,sA,sB,sC]
    have hG7:=hG6.trans hg8
    refine takeG 16 6 (.pointer (some ⟨q2,0,none⟩)) rfl rfl (by kernel_rfl) (by kernel_rfl) (by kernel_rfl) (fun _ _ _ h=>h) (by kernel_rfl) (fun wz hz=>?_) ?_
    ·rfl
    try simp only [Act.put,sA,sB,sC]
    refine doneG (by kernel_rfl) (fun w9 hg9=>?_)
    have HQ:=hid (⟨hq2.grow hg9,hG7.trans hg9⟩:_∧_)
    clear hq2 hg9
    go_wp2
    go_ret
    exact ⟨q2,rfl,HQ.out.1,HQ.out.2⟩
end Go.Proofs.YthfcanpkhjgomaaGreat
namespace Go.Proofs.YthfcanpkhjgomaaGreat
open Go.RowKit
variable {P R:Nat→Prop}
abbrev T3:=Vd × Md × F
def PtrTo (P:Nat→Prop) (R:Nat→Prop) (w:World) (u:Value):Option T3→Prop
 | none=>u=.pointer none
 | some t=>∃ p,u=.pointer (some ⟨p,0,none⟩)∧AtTF P R w p t.1 t.2.1 t.2.2
theorem PtrTo.grow {w w':World} {u:Value} {o:Option T3} (h:PtrTo P R w u o) (hg:G w w'):PtrTo P R w' u o:=by
 cases o with
 | none=>exact h
 | some t=>obtain ⟨p,h1,h2⟩:=h;exact ⟨p,h1,h2.grow hg⟩
theorem PtrTo.form {w:World} {u:Value} {o:Option T3} (h:PtrTo P R w u o):∃ a,u=.pointer a:=by
 cases o with
 | none=>exact ⟨_,h⟩
 | some t=>obtain ⟨p,h1,_⟩:=h;exact ⟨_,h1⟩
theorem AtTF.kids {w:World} {p:Nat} {v:Vd} {m:Md} {f:F} (h:AtTF P R w p v m f):∃ ak,Lies w p 0 (tc v m (.pointer ak))∧AtF P R w (.pointer ak) f:=by
 obtain ⟨k,⟨pk,h1,h2⟩,e,ha,_⟩:=h
 obtain ⟨ak,rfl⟩:=h2.form
 exact ⟨ak,h1,k,h2,e,ha⟩
theorem K.find_all {nm:ByteArray} {p:Nat} {v:Vd} {m:Md} {kk:K}:∀ {k:K},k.all P R→k.find nm=some (p,v,m,kk)→(P p∧R p)∧kk.all P R
 | .nil,_,h=>by cases h
 | .node _ _ n _ _ _ _ _,⟨_,a2,a3,a4,a5⟩,h=>by
  rw [K.find] at h
  split at h
  ·cases h;exact ⟨a2,a3⟩
  split at h
  ·exact K.find_all a4 h
  ·exact K.find_all a5 h
theorem find_fix {w:World} {au:Option Addr} {f:F} (h:AtF P R w (.pointer au) f) (hr:f.rises) (nm:ByteArray):∃ u,PtrTo P R w u (f.get nm)∧∀ W,G w W→Calls Tryz.prog 63 #[.pointer au,.string nm] W fun e w'=>e=.returned u∧w'=W:=by
 obtain ⟨k,h,rfl,ha⟩:=h
 refine ⟨ptrOf (k.find nm),?_,fun W hW=>find_any k (.pointer au) nm W (h.grow hW)⟩
 rw [← K.find_get hr]
 cases hf:k.find nm with
 | none=>rfl
 | some x=>
  obtain ⟨p,v,m,kk⟩:=x
  have hx:=K.find_all ha hf
  exact ⟨p,rfl,kk,K.find_at h p v m kk hf,rfl,hx.2,hx.1⟩
theorem F.rises_get {nm:ByteArray} {t:T3}:∀ {f:F},f.rises→f.get nm=some t→t.2.2.rises∧t.2.2.size<f.size
 | .nil,_,h=>by cases h
 | .cons n v m k r,⟨_,h2,h3⟩,h=>by
  rw [F.get] at h
  split at h
  ·cases h;exact ⟨h2,by simp only [F.size];omega⟩
  ·have:=F.rises_get h3 h
   exact ⟨this.1,by simp only [F.size];omega⟩
def dn:T3→List ByteArray→Option T3
 | t,[]=>some t
 | t,nm::L=>(t.2.2.get nm).bind fun s=>dn s L
theorem dn_app:∀ (t:T3) (L M:List ByteArray),dn t (L++M)=(dn t L).bind fun s=>dn s M
 | t,[],M=>rfl
 | t,nm::L,M=>by
  rw [List.cons_append,dn,dn]
  cases t.2.2.get nm with
  | none=>rfl
  | some s=>exact dn_app s L M
theorem dn_rises:∀ {t:T3} {L:List ByteArray} {s:T3},t.2.2.rises→dn t L=some s→s.2.2.rises∧s.2.2.size≤t.2.2.size
 | t,[],s,hr,h=>by cases h;exact ⟨hr,Nat.le_refl _⟩
 | t,nm::L,s,hr,h=>by
  rw [dn] at h
  cases hg:t.2.2.get nm with
  | none=>rw [hg] at h;cases h
  | some x=>
   rw [hg] at h
   have h1:=F.rises_get hr hg
   have h2:=dn_rises h1.1 h
   exact ⟨h2.1,by omega⟩
theorem down_any (p:Nat) (t:T3) (names:Value) (L:List ByteArray) (w:World) (ht:AtTF P R w p t.1 t.2.1 t.2.2) (hr:t.2.2.rises) (hn:HasT w names L) (hl:L.length≤1000000):
  Calls Tryz.prog 117 #[.pointer (some ⟨p,0,none⟩),names] w fun e w'=>(∃ u,e=.returned u∧PtrTo P R w u (dn t L))∧w'=w:=by
 obtain ⟨ao,cap,rfl,_⟩:=hn.form
 have HN:=hid hn
 have H0:Hid (PtrTo P R w (.pointer (some ⟨p,0,none⟩)) (dn t (L.take 0))):=by rw [List.take_zero];exact ⟨p,rfl,ht⟩
 have HR:=hid hr
 obtain ⟨N,hN⟩:∃ N,L.length=N:=⟨_,rfl⟩
 have HL:=hid hN
 rw [hN] at HN hl ⊢
 clear hn ht hr hN
 go_enter Tryz.func117,Tryz.ntmps117
 go_wp2_with fail
 go_loopw [0,9] (fun u i wr=>∃ k:Nat,i=.int .i64 k∧k≤N∧(∃ a,u=.pointer a)∧wr=w∧Hid (PtrTo P R w u (dn t (L.take k)))) (fun _ i _=>N-iOf i)
 case atStart=>exact ⟨0,rfl,Nat.zero_le _,⟨_,rfl⟩,rfl,H0.out⟩
 case round=>
  clear H0
  obtain ⟨k,rfl,hk,⟨a,rfl⟩,rfl,HP⟩:=hrel
  by_cases hlt:k<N
  ·have hltI:(k:Int)<(N:Int):=by omega
   obtain ⟨x,hx⟩:∃ x,L[k]?=some x:=⟨_,List.getElem?_eq_getElem (by rw [HL.out];exact hlt)⟩
   obtain ⟨ad,cap',hv,hc⟩:=HN.out.at hx
   obtain rfl:ao=some ad:=by injection hv
   clear hv
   have hsplit:L.take (k+1)=L.take k++[x]:=by rw [List.take_add_one,hx];rfl
   cases hd:dn t (L.take k) with
   | none=>
    rw [hd] at HP
    have e:=HP.out
    have e:Value.pointer a=.pointer none:=e
    injection e with e
    subst e
    have HD:Hid (PtrTo P R wr (.pointer none) (dn t L)):=by
     have h:=dn_app t (L.take k) (L.drop k)
     rw [List.take_append_drop,hd] at h
     rw [h];rfl
    clear hd hsplit HP
    go_wp2_with fail
    go_ret
    exact ⟨⟨_,rfl,HD.out⟩,rfl⟩
   | some s=>
    rw [hd] at HP
    obtain ⟨p',e,hs⟩:=HP.out
    injection e with e
    subst e
    obtain ⟨ak,hli,hak⟩:=hs.kids
    have c39:=jG hli 39 _ (qK ..)
    obtain ⟨u,hu,hC⟩:=find_fix hak (dn_rises HR.out hd).1 x
    have C:=hC wr (G.refl _)
    obtain ⟨au,rfl⟩:=hu.form
    have HU:Hid (PtrTo P R wr (.pointer au) (dn t (L.take (k+1)))):=by
     show PtrTo P R _ _ _
     rw [hsplit,dn_app,hd]
     have e:((some s).bind fun s=>dn s [x])=s.2.2.get x:=by
      show (s.2.2.get x).bind (fun s=>some s)=_
      cases s.2.2.get x<;>rfl
     rw [e]
     exact hu
    clear hd hsplit HP hs hli hak hu hC
    go_wp2_with (go_at_call 63;refine C.mono ?_;rintro e w2 ⟨rfl,e2⟩;subst e2)
    go_roundw
    case rel=>exact ⟨k+1,by go_num,by omega,⟨_,rfl⟩,by trivial,HU.out⟩
    case measure=>simp;omega
  ·have hltI:¬ (k:Int)<(N:Int):=by omega
   have HD:Hid (PtrTo P R wr (.pointer a) (dn t L)):=by
    have h:=HP.out
    rw [List.take_of_length_le (by rw [HL.out];omega)] at h
    exact h
   go_wp2_with fail
   go_ret
   exact ⟨⟨_,rfl,HD.out⟩,rfl⟩
end Go.Proofs.YthfcanpkhjgomaaGreat
namespace Go.Proofs.YthfcanpkhjgomaaGreat
open Go.RowKit
variable {P R:Nat→Prop}
theorem PtrTo.isSome {w:World} {au:Option Addr} {o:Option T3} (h:PtrTo P R w (.pointer au) o):au.isSome=o.isSome:=by
 cases o with
 | none=>have e:Value.pointer au=.pointer none:=h;injection e with e;rw [e];rfl
 | some t=>obtain ⟨p,e,_⟩:=h;injection e with e;rw [e];rfl
def cutN (s:ByteArray):List ByteArray:=(pieces (tl s)).map ofB
theorem names_eq {s:ByteArray} {L:List ByteArray} (h:L.map tl=splitL (tl s) 64) (he:splitE (tl s) 64=0):L=cutN s:=by
 unfold splitL at h
 rw [if_pos he] at h
 unfold cutN
 rw [← h,List.map_map]
 have:(ofB ∘ tl)=id:=by funext x;exact ofB_tl x
 rw [this,List.map_id]
theorem names_few {s:ByteArray} (he:splitE (tl s) 64=0):(cutN s).length≤64:=by
 unfold splitE at he
 split at he
 ·cases he
 ·rename_i h
  unfold cutN
  rw [List.length_map]
  omega
def subS (t:T3) (s:ByteArray):Option T3:=if splitE (tl s) 64=0 then dn t (cutN s) else none
theorem sub_any (p:Nat) (t:T3) (s:ByteArray) (w:World) (ht:AtTF P R w p t.1 t.2.1 t.2.2) (hr:t.2.2.rises) (hs:s.size≤1048576):
  Calls Tryz.prog 84 #[.pointer (some ⟨p,0,none⟩),.string s] w fun e w'=>∃ u,e=.returned (.tuple #[u,.bool (subS t s).isSome])∧PtrTo P R w' u (subS t s)∧G w w':=by
 have C1:=split_any s 64 w hs
 have HT:=hid (⟨ht,hr⟩:_∧_)
 obtain ⟨E,hE⟩:∃ E,splitE (tl s) 64=E:=⟨_,rfl⟩
 have HE:=hid hE
 rw [hE] at C1
 clear ht hr hE
 by_cases h0:E=0
 ·subst h0
  have hS:subS t s=dn t (cutN s):=by unfold subS;rw [if_pos HE.out]
  rw [hS]
  clear hS
  go_enter Tryz.func84,Tryz.ntmps84
  go_wp2_with (first
   | (go_at_call 81;refine C1.mono ?_;rintro e w1 ⟨⟨nv,L,rfl,hO,hL⟩,hg1⟩;obtain rfl:=names_eq hL HE.out;have hN:=hO.has;obtain ⟨an,cn,rfl,_⟩:=hN.form;have CD:=down_any p t _ _ w1 (HT.out.1.grow hg1) HT.out.2 hN (by have:=names_few HE.out;omega);have HG1:=hid hg1;clear hO hL hN hg1)
   | (go_at_call 117;refine CD.mono ?_;rintro e w2 ⟨⟨u,rfl,hu⟩,e2⟩;subst e2;have HU:=hid hu;obtain ⟨au,rfl⟩:=hu.form;clear hu))
  go_ret2
  refine ⟨.pointer au,?_,HU.out,HG1.out⟩
  rw [← HU.out.isSome]
  rfl
 ·have hS:subS t s=none:=by unfold subS;rw [if_neg (by rw [HE.out];exact h0)]
  rw [hS]
  have h1:(E != 0)=true:=by simpa using h0
  clear hS h0
  go_enter Tryz.func84,Tryz.ntmps84
  go_wp2_with (go_at_call 81;refine C1.mono ?_;rintro e w1 ⟨⟨nv,L,rfl,hO,hL⟩,hg1⟩;obtain ⟨an,cn,rfl,_⟩:=hO.has.form;have HG1:=hid hg1;clear hO hL hg1)
  go_ret2
  exact ⟨_,rfl,rfl,HG1.out⟩
def wayE (t:T3) (s:ByteArray):Int:=
 if splitE (tl s) 64≠0 then splitE (tl s) 64 else if cutN s=[] then 0 else match dn t (cutN s).dropLast with
  | none=>44
  | some x=>if x.1.kind=1 then 0 else 44
theorem hasT_front {w:World} {a:Option Addr} {cap n:Nat} {L:List ByteArray} (h:HasT w (.slice a L.length cap) L) (hn:L.length=n+1):HasT w (.slice a n cap) L.dropLast:=by
 rcases h with ⟨_,h⟩ | ⟨ad,cp,hv,hc,hcell⟩
 ·rw [h] at hn;cases hn
 ·injection hv with e1 e2 e3
  subst e1 e3
  refine .inr ⟨ad,cap,by rw [List.length_dropLast,hn];rfl,by rw [List.length_dropLast];omega,fun i x hi=>hcell i x ?_⟩
  rw [List.getElem?_dropLast] at hi
  split at hi
  ·exact hi
  ·cases hi
theorem way_any (p:Nat) (t:T3) (s:ByteArray) (w:World) (ht:AtTF P R w p t.1 t.2.1 t.2.2) (hr:t.2.2.rises) (hs:s.size≤1048576):
  Calls Tryz.prog 119 #[.pointer (some ⟨p,0,none⟩),.string s] w fun e w'=>∃ an n cn,e=.returned (.tuple #[.slice an n cn,.int .i64 (wayE t s)])∧(wayE t s=0→n=(cutN s).length∧HasT w' (.slice an n cn) (cutN s)∧(cutN s).length≤64)∧G w w':=by
 have C1:=split_any s 64 w hs
 have HT:=hid (⟨ht,hr⟩:_∧_)
 obtain ⟨E,hE⟩:∃ E,splitE (tl s) 64=E:=⟨_,rfl⟩
 have HE:=hid hE
 rw [hE] at C1
 clear ht hr hE
 by_cases h0:E=0
 ·subst h0
  by_cases hc:cutN s=[]
  ·have hS:wayE t s=0:=by unfold wayE;rw [if_neg (by rw [HE.out];simp),if_pos hc]
   rw [hS]
   clear hS
   go_enter Tryz.func119,Tryz.ntmps119
   go_wp2_with (go_at_call 81;refine C1.mono ?_;rintro e w1 ⟨⟨nv,L,rfl,hO,hL⟩,hg1⟩;obtain rfl:=names_eq hL HE.out;have hN:=hO.has;rw [hc] at hN;obtain ⟨an,cn,rfl,_⟩:=hN.form;have HG1:=hid hg1;clear hO hL hN hg1)
   go_ret2
   exact ⟨_,_,_,rfl,fun _=>⟨by rw [hc];rfl,by rw [hc];exact OwnsT.has (OwnsT.nil _ 0),by rw [hc];simp⟩,HG1.out⟩
  ·obtain ⟨n,hn⟩:∃ n,(cutN s).length=n+1:=⟨(cutN s).length-1,by have:=List.length_pos_iff.2 hc;omega⟩
   have hn64:=names_few HE.out
   rw [hn] at hn64
   have hI:IntKind.i64.wrap (((n+1:Nat):Int)-1)=(n:Int):=by rw [IntKind.wrap_i64];omega
   have HC:=hid (⟨hc,hn⟩:_∧_)
   cases hd:dn t (cutN s).dropLast with
   | none=>
    have hS:wayE t s=44:=by unfold wayE;rw [if_neg (by rw [HE.out];simp),if_neg hc,hd]
    rw [hS]
    clear hS hc
    go_enter Tryz.func119,Tryz.ntmps119
    go_wp2_with (first
     | (go_at_call 81;refine C1.mono ?_;rintro e w1 ⟨⟨nv,L,rfl,hO,hL⟩,hg1⟩;obtain rfl:=names_eq hL HE.out;have hN:=hO.has;obtain ⟨an,cn,rfl,hcn⟩:=hN.form;have hF:=hasT_front hN HC.out.2;have CD:=down_any p t _ _ w1 (HT.out.1.grow hg1) HT.out.2 hF (by rw [List.length_dropLast,HC.out.2];omega);rw [hd] at CD;have HG1:=hid hg1;rw [hn] at hcn ⊢;clear hO hL hN hg1 hF)
     | (go_at_call 117;refine CD.mono ?_;rintro e w2 ⟨⟨u,rfl,hu⟩,e2⟩;subst e2;have hu2:u=.pointer none:=hu;subst hu2;clear hu))
    go_ret2
    exact ⟨_,_,_,rfl,fun h=>absurd h (by decide),HG1.out⟩
   | some x=>
    by_cases hk1:x.1.kind=1
    ·have hS:wayE t s=0:=by unfold wayE;rw [if_neg (by rw [HE.out];simp),if_neg hc,hd];exact if_pos hk1
     rw [hS]
     clear hS hc
     go_enter Tryz.func119,Tryz.ntmps119
     go_wp2_with (first
      | (go_at_call 81;refine C1.mono ?_;rintro e w1 ⟨⟨nv,L,rfl,hO,hL⟩,hg1⟩;obtain rfl:=names_eq hL HE.out;have hN:=hO.has;have HNN:=hid hN;obtain ⟨an,cn,rfl,hcn⟩:=hN.form;have hF:=hasT_front hN HC.out.2;have CD:=down_any p t _ _ w1 (HT.out.1.grow hg1) HT.out.2 hF (by rw [List.length_dropLast,HC.out.2];omega);rw [hd] at CD;have HG1:=hid hg1;rw [hn] at hcn ⊢;clear hO hL hN hg1 hF)
      | (go_at_call 117;refine CD.mono ?_;rintro e w2 ⟨⟨u,rfl,p2,hu1,hu2⟩,e2⟩;subst e2;subst hu1;obtain ⟨ak,hli,_⟩:=hu2.kids;have c0:=jG hli 0 (.int .i64 x.1.kind) (by simp [tc,vx]);clear hu2 hli))
     go_ret2
     exact ⟨_,_,_,rfl,fun _=>⟨HC.out.2.symm,by have h:=HNN.out;rw [HC.out.2] at h;exact h,names_few HE.out⟩,HG1.out⟩
    ·have hS:wayE t s=44:=by unfold wayE;rw [if_neg (by rw [HE.out];simp),if_neg hc,hd];exact if_neg hk1
     rw [hS]
     have hk2:(x.1.kind != 1)=true:=by simpa using hk1
     clear hS hc
     go_enter Tryz.func119,Tryz.ntmps119
     go_wp2_with (first
      | (go_at_call 81;refine C1.mono ?_;rintro e w1 ⟨⟨nv,L,rfl,hO,hL⟩,hg1⟩;obtain rfl:=names_eq hL HE.out;have hN:=hO.has;have HNN:=hid hN;obtain ⟨an,cn,rfl,hcn⟩:=hN.form;have hF:=hasT_front hN HC.out.2;have CD:=down_any p t _ _ w1 (HT.out.1.grow hg1) HT.out.2 hF (by rw [List.length_dropLast,HC.out.2];omega);rw [hd] at CD;have HG1:=hid hg1;rw [hn] at hcn ⊢;clear hO hL hN hg1 hF)
      | (go_at_call 117;refine CD.mono ?_;rintro e w2 ⟨⟨u,rfl,p2,hu1,hu2⟩,e2⟩;subst e2;subst hu1;obtain ⟨ak,hli,_⟩:=hu2.kids;have c0:=jG hli 0 (.int .i64 x.1.kind) (by simp [tc,vx]);clear hu2 hli))
     go_ret2
     exact ⟨_,_,_,rfl,fun h=>absurd h (by decide),HG1.out⟩
 ·have hS:wayE t s=E:=by unfold wayE;rw [if_pos (by rw [HE.out];exact h0),HE.out]
  rw [hS]
  have h1:(E != 0)=true:=by simpa using h0
  have H0:=hid h0
  clear hS h0
  go_enter Tryz.func119,Tryz.ntmps119
  go_wp2_with (go_at_call 81;refine C1.mono ?_;rintro e w1 ⟨⟨nv,L,rfl,hO,hL⟩,hg1⟩;obtain ⟨an,cn,rfl,_⟩:=hO.has.form;have HG1:=hid hg1;clear hO hL hg1)
  go_ret2
  exact ⟨_,_,_,rfl,fun h=>absurd h H0.out,HG1.out⟩
end Go.Proofs.YthfcanpkhjgomaaGreat
