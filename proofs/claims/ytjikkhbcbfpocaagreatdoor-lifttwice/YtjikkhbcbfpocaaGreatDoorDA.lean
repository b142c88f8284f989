import Derived.Test.YtjikkhbcbfpocaaGreatDoorWRaw2
import Derived.Test.YtjikkhbcbfpocaaGreatDoorOwn
set_option maxRecDepth 100000
set_option maxHeartbeats 400000
namespace Go.Proofs.YtjikkhbcbfpocaaGreatDoor
open Go.RowKit
theorem a0I {x:UInt8} {c:Nat} (hc:c<256) (h:(x.toNat:Int)=(c:Int)):x=UInt8.ofNat c:=by
 apply UInt8.toNat_inj.1
 simp;omega
def eno (b:Bool):Int:=if b then 0 else 30
theorem vr {l:By} {x:UInt8} (hx:x∈l) (h:x=47∨x=0):kz l=false:=
 decide_eq_false (fun q=>by have:=q.2.2.2.2 x hx;rcases h with h | h<;>simp [h] at this)
theorem td {s:ByteArray} (h1:1≤s.size) (h2:s.size≤255) (h3:s.toList≠[46]) (h4:s.toList≠[46,46]) (h5:∀ j (h:j<s.size),s[j]'h≠47∧s[j]'h≠0):kz (tl s)=true:=by
 have hlen:=qp s
 refine decide_eq_true ⟨by omega,by omega,h3,h4,fun x hx=>?_⟩
 obtain ⟨k,hk,rfl⟩:=a0L hx
 exact h5 k hk
theorem ca (s:ByteArray) (w:World) (hs:s.size≤9223372036854775807):Calls Tryz.prog 136 #[.string s] w fun e w'=>e=.returned (.int .i64 (eno (kz (tl s))))∧Below w.heap.size w w':=by
 have hlen:=qp s
 by_cases hA:s.toList≠[]∧s.toList≠[46]∧s.toList≠[46,46]∧s.size≤255
 ·obtain ⟨h1,h3,h4,h2⟩:=hA
  have i2:¬ ((255:Int)<(s.size:Int)):=by omega
  have b1:(s.toList.isEmpty)=false:=by simpa using h1
  have b3:(s.toList==[46])=false:=by simpa using h3
  have b4:(s.toList==[46,46])=false:=by simpa using h4
  have h0:1≤s.size:=by
   cases e:s.toList with
   | nil=>exact absurd e h1
   | cons a b=>rw [tl,e] at hlen;simp at hlen;omega
  go_enter Tryz.func136,Tryz.ntmps136
  go_wp2
  go_loopw [] (fun wr=>∃ pos,wr=w.iter s pos∧pos≤s.size∧∀ j (h:j<s.size),j<pos→s[j]'h≠47∧s[j]'h≠0) (fun wr=>s.size-wr.iterPos w.heap.size)
  case atStart=>exact ⟨0,rfl,Nat.zero_le _,fun j _ h=>absurd h (Nat.not_lt_zero _)⟩
  case round=>
   obtain ⟨pos,rfl,hk,hj⟩:=hrel
   by_cases hp:pos<s.size
   ·have hnx:∀ ty,(Instr.next (.pointer (some ⟨w.heap.size,0,none⟩)) true ty).run Tryz.prog (w.iter s pos)=_:=fun ty=>run_next_any w s pos ty hp
    have hwd:=xW s pos hp
    have hin:=gj s pos hp
    by_cases hbad:(Utf8.decode s pos).1=47∨(Utf8.decode s pos).1=0
    ·have hf:kz (tl s)=false:=by
      refine vr (x:=s.get! pos) (List.mem_of_getElem? (rS s pos hp)) ?_
      rcases hbad with q | q
      ·exact .inl (a0I (c:=47) (by decide) (by exact_mod_cast (ku s pos hp 47 (by decide)).1 q))
      ·exact .inr (a0I (c:=0) (by decide) (by exact_mod_cast (ku s pos hp 0 (by decide)).1 q))
     rcases hbad with hb | hb
     all_goals
      go_wp2
      go_ret
      exact ⟨by rw [hf];rfl,(Below.refl _ w).alloc (Nat.le_refl _) _⟩
    ·have q1:(((Utf8.decode s pos).1:Int)==47)=false:=by simp;omega
     have q2:(((Utf8.decode s pos).1:Int)==0)=false:=by simp;omega
     go_wp2
     refine ⟨⟨_,rfl,hin,fun j h hjk=>?_⟩,by rw [World.iterPos_iter,World.iterPos_iter];omega⟩
     by_cases e:j<pos
     ·exact hj j h e
     ·have n1:=xX s pos 47 hp (by decide) (fun q=>hbad (.inl q)) j (by omega) hjk
      have n2:=xX s pos 0 hp (by decide) (fun q=>hbad (.inr q)) j (by omega) hjk
      rw [show s.get! j=s[j]'h from get_at s j h] at n1 n2
      exact ⟨fun q=>n1 (by rw [q];rfl),fun q=>n2 (by rw [q];rfl)⟩
   ·have hnx:∀ ty,(Instr.next (.pointer (some ⟨w.heap.size,0,none⟩)) true ty).run Tryz.prog (w.iter s pos)=_:=fun ty=>run_next_end w s pos ty hp
    have ht:=td h0 h2 h3 h4 (fun j h=>hj j h (by omega))
    go_wp2
    go_ret
    exact ⟨by rw [ht];rfl,(Below.refl _ w).alloc (Nat.le_refl _) _⟩
 ·have hf:kz (tl s)=false:=decide_eq_false (fun q=>hA ⟨fun e=>by have:=q.1;rw [tl,e] at this;simp at this,q.2.2.1,q.2.2.2.1,by omega⟩)
  rw [hf]
  go_enter Tryz.func136,Tryz.ntmps136
  go_wp2
  all_goals first
   | (go_ret;exact ⟨rfl,Below.refl _ _⟩)
   | (exfalso;simp_all;omega)
structure Stp where
 names:List ByteArray
 pl:Nat
 hash:List Nat
structure Rv where
 s:Wi.St
 left:Int
 flt:Option (Int × Int)
 st:List Stp
structure Nd where
 nm:ByteArray
 v:Vd
 m:Md
 ks:F
def b32 (t:List Int):List Nat:=if t.length=32 then t.map Int.toNat else jw
theorem xI (t:List Int):(b32 t).length=32:=by
 unfold b32
 split
 ·simpa using ‹_›
 ·simp [jw]
def refR (a e:Int) (r:Rv):Rv:={ r with flt:=some (r.flt.getD (a,e)) }
def kT (a:Int) (ok:Bool) (r:Rv):Rv:=if r.s.fe≠0∨ok=false then refR a 63 r else r
def yU (r:Rv):Rv:=if r.s.fe=12 then refR r.s.fa 64 r else r
def numR (l:List Int) (least:Int) (most:Nat) (r:Rv):Nat × Rv:=
 ((Wi.uintS l r.s most).1,kT r.s.p (decide (least≤((Wi.uintS l r.s most).1:Int))) { r with s:=(Wi.uintS l r.s most).2 })
def sumR (l:List Int) (r:Rv):List Nat × Rv:=(b32 (Wi.rawB l r.s 32),kT r.s.p true { r with s:=Wi.rawS l r.s 32 })
def modR (l:List Int) (ver:Int) (r:Rv):Int × Rv:=
 if ver<2 then (8,r) else ((Wi.byteS l r.s).1,kT r.s.p (decide ((Wi.byteS l r.s).1≤8)) { r with s:=(Wi.byteS l r.s).2 })
def kI:Nat:=72057594037927935
def yb (l:List Int) (r:Rv):(Nat × Nat) × Rv:=
 if (numR l 0 kI r).1=0 then ((0,(numR l 0 0 (numR l 0 kI r).2).1),(numR l 0 0 (numR l 0 kI r).2).2)
 else (((numR l 0 kI r).1,(numR l 1 kI (numR l 0 kI r).2).1),(numR l 1 kI (numR l 0 kI r).2).2)
def yV (l:List Int) (ver:Int) (r:Rv):Md × Rv:=
 if ver<3 then (Md.zero,r) else
 (⟨(yb l r).1.1,(yb l r).1.2,(yb l (yb l r).2).1.1,(yb l (yb l r).2).1.2⟩,(yb l (yb l r).2).2)
def conR (l:List Int) (least:Int) (most:Nat) (r:Rv):(Nat × List Nat) × Rv:=
 (((numR l least most r).1,(sumR l (numR l least most r).2).1),(sumR l (numR l least most r).2).2)
def preR (deep:Nat) (r:Rv):Rv:=if r.left=0 then refR r.s.p 63 r else if 64<deep then refR r.s.p 64 r else r
def kOk (deep:Nat) (k:Int):Bool:=decide (k=1)||(decide (0<deep)&&(decide (k=2)||decide (k=3)))
def kD (l:List Int) (deep:Nat) (r:Rv):Int × Rv:=
 ((Wi.byteS l r.s).1,{ kT r.s.p (kOk deep (Wi.byteS l r.s).1) { preR deep r with s:=(Wi.byteS l r.s).2 } with left:=r.left-1 })
def nOkB (last s:ByteArray):Bool:=!(Op.bytesLess s.toList last.toList||s.toList==last.toList)&&kz (tl s)
def dH (l:List Int) (last:ByteArray) (r:Rv):ByteArray × Rv:=
 (Wi.mkStr (Wi.textS l r.s 255).1,kT r.s.p (nOkB last (Wi.mkStr (Wi.textS l r.s 255).1)) (yU { r with s:=(Wi.textS l r.s 255).2 }))
def kidL (nd:ByteArray→Rv→Nd × Rv):Nat→F→ByteArray→Rv→Option F × Rv
 | 0,f,_,r=>(some f,r)
 | n+1,f,last,r=>if r.flt.isSome then (none,r) else kidL nd n (f.app (.cons (nd last r).1.nm (nd last r).1.v (nd last r).1.m (nd last r).1.ks .nil)) (nd last r).1.nm (nd last r).2
def kidE (here:List ByteArray) (pl:Nat) (h:List Nat) (x:Option F × Rv):F × Rv:=
 match x.1 with
 | none=>(.nil,x.2)
 | some f=>(f,{ x.2 with st:=x.2.st++[⟨here,pl,h⟩] })
def cntR (l:List Int) (r:Rv):Nat × Rv:=numR l 0 r.left.toNat r
def bK (l:List Int) (nd:ByteArray→Rv→Nd × Rv) (here:List ByteArray) (r:Rv):F × Rv:=
 kidE here (cntR l r).2.s.p (sumR l (cntR l r).2).1 (kidL nd (cntR l r).1 .nil ⟨#[]⟩ (sumR l (cntR l r).2).2)
def kW:Option (List ByteArray)→Nat
 | none=>0
 | some u=>u.length+1
def iE (l:List Int) (up:Option (List ByteArray)) (last:ByteArray) (r:Rv):ByteArray × Rv:=match up with
 | none=>(⟨#[]⟩,r)
 | some _=>dH l last r
def dJ (up:Option (List ByteArray)) (nm:ByteArray):List ByteArray:=match up with
 | none=>[]
 | some u=>nm::u
def qV (l:List Int) (up:Option (List ByteArray)) (last:ByteArray) (r:Rv):ByteArray × Rv:=iE l up last (kD l (kW up) r).2
def vK (k:Int):Vd:=⟨k,0,0,jw,by simp [jw]⟩
def zJ (l:List Int) (ver:Int) (nd:List ByteArray→ByteArray→Rv→Nd × Rv) (k:Int) (nm:ByteArray) (here:List ByteArray) (r:Rv):Nd × Rv:=
 if r.flt.isSome then (⟨nm,vK k,Md.zero,.nil⟩,r)
 else if k=1 then (⟨nm,⟨1,(modR l ver r).1,0,jw,by simp [jw]⟩,Md.zero,(bK l (nd here) here (modR l ver r).2).1⟩,(bK l (nd here) here (modR l ver r).2).2)
 else if k=2 then (⟨nm,⟨2,(modR l ver (conR l 0 1099511627775 r).2).1,(conR l 0 1099511627775 r).1.1,(conR l 0 1099511627775 r).1.2,xI _⟩,(yV l ver (modR l ver (conR l 0 1099511627775 r).2).2).1,.nil⟩,(yV l ver (modR l ver (conR l 0 1099511627775 r).2).2).2)
 else if k=3 then (⟨nm,⟨3,0,(conR l 1 4095 r).1.1,(conR l 1 4095 r).1.2,xI _⟩,Md.zero,.nil⟩,(conR l 1 4095 r).2)
 else (⟨nm,vK k,Md.zero,.nil⟩,r)
def qF (l:List Int) (ver:Int):Nat→Option (List ByteArray)→ByteArray→Rv→Nd × Rv
 | 0,_,_,r=>(⟨⟨#[]⟩,vK 0,Md.zero,.nil⟩,{ r with left:=r.left-1 })
 | n+1,up,last,r=>zJ l ver (fun here=>qF l ver n (some here)) (kD l (kW up) r).1 (qV l up last r).1 (dJ up (qV l up last r).1) (qV l up last r).2
structure Lt (r r':Rv) (d:Nat):Prop where
 left:r'.left+d≤r.left
 p:r.s.p≤r'.s.p
 sl:(r'.st.length:Int)+r'.left≤r.st.length+r.left
 sp:r'.st.length+r.s.p≤r.st.length+r'.s.p
 fl:r.flt.isSome→r'.flt=r.flt
theorem Lt.refl (r:Rv):Lt r r 0:=⟨by omega,Nat.le_refl _,Int.le_refl _,Nat.le_refl _,fun _=>rfl⟩
theorem Lt.trans {a b c:Rv} {d e:Nat} (h:Lt a b d) (k:Lt b c e):Lt a c (d+e):=
 ⟨by have:=h.left;have:=k.left;omega,Nat.le_trans h.p k.p,Int.le_trans k.sl h.sl,by have:=h.sp;have:=k.sp;omega,fun q=>(k.fl (by rw [h.fl q];exact q)).trans (h.fl q)⟩
theorem Lt.weak {a b:Rv} {d:Nat} (h:Lt a b d):Lt a b 0:=⟨by have:=h.left;omega,h.p,h.sl,h.sp,h.fl⟩
structure Sm (r r':Rv):Prop where
 left:r'.left=r.left
 p:r.s.p≤r'.s.p
 st:r'.st=r.st
 fl:r.flt.isSome→r'.flt=r.flt
theorem Sm.lt {r r':Rv} (h:Sm r r'):Lt r r' 0:=⟨by rw [h.left];omega,h.p,by rw [h.left,h.st];omega,by rw [h.st];have:=h.p;omega,h.fl⟩
theorem Sm.refl (r:Rv):Sm r r:=⟨rfl,Nat.le_refl _,rfl,fun _=>rfl⟩
theorem Sm.trans {a b c:Rv} (h:Sm a b) (k:Sm b c):Sm a c:=⟨k.left.trans h.left,Nat.le_trans h.p k.p,k.st.trans h.st,fun q=>(k.fl (by rw [h.fl q];exact q)).trans (h.fl q)⟩
theorem Sm.ref (a e:Int) (r:Rv):Sm r (refR a e r):=⟨rfl,Nat.le_refl _,rfl,fun q=>by
 unfold refR
 cases h:r.flt with
 | none=>rw [h] at q;cases q
 | some x=>rfl⟩
theorem Sm.must (a:Int) (ok:Bool) (r:Rv):Sm r (kT a ok r):=by
 unfold kT
 split
 ·exact Sm.ref _ _ _
 ·exact Sm.refl _
theorem Sm.bound (r:Rv):Sm r (yU r):=by
 unfold yU
 split
 ·exact Sm.ref _ _ _
 ·exact Sm.refl _
theorem Sm.wire (r:Rv) (s:Wi.St) (h:r.s.p≤s.p):Sm r { r with s:=s }:=⟨rfl,h,rfl,fun _=>rfl⟩
theorem oL (l:List Int) (s:Wi.St) (m:Nat):s.p≤(Wi.uintS l s m).2.p:=by
 unfold Wi.uintS
 split
 ·exact Nat.le_refl _
 ·split
  ·split
   ·exact Nat.le_add_right _ _
   ·exact Nat.le_refl _
  ·exact Nat.le_refl _
  ·exact Nat.le_refl _
theorem oM (l:List Int) (s:Wi.St):s.p≤(Wi.byteS l s).2.p:=by
 unfold Wi.byteS
 split
 ·exact Nat.le_refl _
 ·split
  ·exact Nat.le_succ _
  ·exact Nat.le_refl _
theorem wY (l:List Int) (s:Wi.St) (n:Int):s.p≤(Wi.rawS l s n).p:=by
 unfold Wi.rawS
 split
 ·exact Nat.le_refl _
 ·split
  ·exact Nat.le_refl _
  ·exact Nat.le_add_right _ _
theorem uy (l:List Int) (s:Wi.St) (m:Int):s.p≤(Wi.textS l s m).2.p:=by
 unfold Wi.textS
 split
 ·exact Nat.le_refl _
 ·split
  ·split
   ·exact Nat.le_refl _
   ·split
    ·exact Nat.le_refl _
    ·simp only;omega
  ·exact Nat.le_refl _
  ·exact Nat.le_refl _
theorem Sm.num (l:List Int) (least:Int) (most:Nat) (r:Rv):Sm r (numR l least most r).2:=(Sm.wire r _ (oL l r.s most)).trans (Sm.must _ _ _)
theorem Sm.sum (l:List Int) (r:Rv):Sm r (sumR l r).2:=(Sm.wire r _ (wY l r.s 32)).trans (Sm.must _ _ _)
theorem Sm.mod (l:List Int) (ver:Int) (r:Rv):Sm r (modR l ver r).2:=by
 unfold modR
 split
 ·exact Sm.refl _
 ·exact (Sm.wire r _ (oM l r.s)).trans (Sm.must _ _ _)
theorem Sm.mark (l:List Int) (r:Rv):Sm r (yb l r).2:=by
 unfold yb
 split
 ·exact (Sm.num _ _ _ _).trans (Sm.num _ _ _ _)
 ·exact (Sm.num _ _ _ _).trans (Sm.num _ _ _ _)
theorem Sm.marks (l:List Int) (ver:Int) (r:Rv):Sm r (yV l ver r).2:=by
 unfold yV
 split
 ·exact Sm.refl _
 ·exact (Sm.mark _ _).trans (Sm.mark _ _)
theorem Sm.con (l:List Int) (least:Int) (most:Nat) (r:Rv):Sm r (conR l least most r).2:=(Sm.num _ _ _ _).trans (Sm.sum _ _)
theorem Sm.name (l:List Int) (last:ByteArray) (r:Rv):Sm r (dH l last r).2:=((Sm.wire r _ (uy l r.s 255)).trans (Sm.bound _)).trans (Sm.must _ _ _)
theorem Sm.pre (deep:Nat) (r:Rv):Sm r (preR deep r):=by
 unfold preR
 split
 ·exact Sm.ref _ _ _
 ·split
  ·exact Sm.ref _ _ _
  ·exact Sm.refl _
theorem uS (deep:Nat) (r:Rv):(preR deep r).s=r.s:=by
 unfold preR
 split
 ·rfl
 ·split<;>rfl
theorem Sm.kind (l:List Int) (deep:Nat) (r:Rv):Sm { r with left:=r.left-1 } (kD l deep r).2:=by
 have h:Sm r (kT r.s.p (kOk deep (Wi.byteS l r.s).1) { preR deep r with s:=(Wi.byteS l r.s).2 }):=
  ((Sm.pre deep r).trans (Sm.wire _ _ (by rw [uS];exact oM l r.s))).trans (Sm.must _ _ _)
 exact ⟨rfl,h.p,h.st,h.fl⟩
theorem iF (l:List Int) (deep:Nat) (r:Rv):Lt r (kD l deep r).2 1:=by
 have h:=Sm.kind l deep r
 have hl:(kD l deep r).2.left=r.left-1:=rfl
 have hs:(kD l deep r).2.st=r.st:=h.st
 exact ⟨by rw [hl];omega,h.p,by rw [hs,hl];omega,by rw [hs];have:=h.p;have e:({ r with left:=r.left-1 }:Rv).s.p=r.s.p:=rfl;omega,h.fl⟩
theorem oN {a:Int} {ok:Bool} {r:Rv} (h:(kT a ok r).flt=none):r.s.fe=0∧ok=true∧r.flt=none∧kT a ok r=r:=by
 unfold kT at h ⊢
 split at h
 ·cases h
 ·rename_i q
  rw [if_neg q]
  refine ⟨Classical.byContradiction fun e=>q (.inl e),?_,h,rfl⟩
  cases ok with
  | true=>rfl
  | false=>exact absurd (.inr rfl) q
theorem yi {l:List Int} {deep:Nat} {r:Rv} (h:(kD l deep r).2.flt=none):r.left≠0∧deep≤64∧r.flt=none∧r.s.fe=0∧r.s.p<l.length∧(kD l deep r).1=l[r.s.p]?.getD 0∧kOk deep (kD l deep r).1=true∧(kD l deep r).2={ r with left:=r.left-1,s:=⟨r.s.p+1,r.s.fa,r.s.fe⟩ }:=by
 have h0:(kT r.s.p (kOk deep (Wi.byteS l r.s).1) { preR deep r with s:=(Wi.byteS l r.s).2 }).flt=none:=h
 obtain ⟨h1,h2,h3,h4⟩:=oN h0
 have h3:(preR deep r).flt=none:=h3
 have hl:r.left≠0:=fun e=>by unfold preR at h3;rw [if_pos e] at h3;cases h3
 have hd:¬ 64<deep:=fun e=>by unfold preR at h3;rw [if_neg hl,if_pos e] at h3;cases h3
 have hp:preR deep r=r:=by unfold preR;rw [if_neg hl,if_neg hd]
 rw [hp] at h3 h4
 have h1:(Wi.byteS l r.s).2.fe=0:=h1
 have hf:r.s.fe=0:=by
  unfold Wi.byteS at h1
  split at h1
  ·exact h1
  ·rename_i q;exact Classical.byContradiction q
 have hq:r.s.p<l.length:=by
  unfold Wi.byteS at h1
  rw [if_neg (by omega)] at h1
  split at h1
  ·assumption
  ·simp at h1
 have hb:Wi.byteS l r.s=(l[r.s.p]?.getD 0,⟨r.s.p+1,r.s.fa,r.s.fe⟩):=by unfold Wi.byteS;rw [if_neg (by omega),if_pos hq]
 refine ⟨hl,by omega,h3,hf,hq,by unfold kD;rw [hb],h2,?_⟩
 unfold kD
 rw [hp,h4,hb]
theorem Sm.head (l:List Int) (up:Option (List ByteArray)) (last:ByteArray) (r:Rv):Sm (kD l (kW up) r).2 (qV l up last r).2:=by
 unfold qV iE
 cases up with
 | none=>exact Sm.refl _
 | some u=>exact Sm.name _ _ _
theorem Sm.none {r r':Rv} (h:Sm r r') (k:r'.flt=.none):r.flt=.none:=by
 cases e:r.flt with
 | none=>rfl
 | some x=>rw [h.fl (by rw [e];rfl),e] at k;cases k
theorem Lt.none {r r':Rv} {d:Nat} (h:Lt r r' d) (k:r'.flt=.none):r.flt=.none:=by
 cases e:r.flt with
 | none=>rfl
 | some x=>rw [h.fl (by rw [e];rfl),e] at k;cases k
theorem zk {r:Rv} (h:¬ r.flt.isSome=true):r.flt=none:=by
 cases e:r.flt with
 | none=>rfl
 | some x=>rw [e] at h;exact absurd rfl h
theorem iG (nd:ByteArray→Rv→Nd × Rv) (hn:∀ last r,Lt r (nd last r).2 1):∀ (n:Nat) (f:F) (last:ByteArray) (r:Rv),Lt r (kidL nd n f last r).2 0
 | 0,_,_,r=>Lt.refl r
 | n+1,f,last,r=>by
  unfold kidL
  split
  ·exact Lt.refl r
  ·exact ((hn last r).trans (iG nd hn n _ _ _)).weak
theorem uz {here:List ByteArray} {pl:Nat} {h:List Nat} {x:Option F × Rv} {r:Rv} (_hx:Lt r x.2 0):∃ c:Nat,c≤1∧(kidE here pl h x).2.st.length=x.2.st.length+c∧(kidE here pl h x).2.left=x.2.left∧(kidE here pl h x).2.s=x.2.s∧(kidE here pl h x).2.flt=x.2.flt:=by
 unfold kidE
 split
 ·exact ⟨0,by omega,rfl,rfl,rfl,rfl⟩
 ·exact ⟨1,by omega,by simp,rfl,rfl,rfl⟩
theorem eH (l:List Int) (ver:Int):∀ (n:Nat) (up:Option (List ByteArray)) (last:ByteArray) (r:Rv),Lt r (qF l ver n up last r).2 1
 | 0,up,last,r=>⟨by show r.left-1+_≤_;omega,Nat.le_refl _,by show (r.st.length:Int)+(r.left-1)≤_;omega,Nat.le_refl _,fun _=>rfl⟩
 | n+1,up,last,r=>by
  have h1:=iF l (kW up) r
  have h2:=(Sm.head l up last r)
  have h12:Lt r (qV l up last r).2 1:=h1.trans h2.lt
  unfold qF zJ
  split
  ·exact h12
  ·rename_i hf
   have hf:=zk hf
   obtain ⟨q1,q2,q3,q4,q5,q6,q7,q8⟩:=yi (h2.none hf)
   split
   ·rename_i hk
    have h3:=(Sm.mod l ver (qV l up last r).2).trans ((Sm.num l 0 (modR l ver (qV l up last r).2).2.left.toNat _).trans (Sm.sum l _))
    have hx:=iG (qF l ver n (some (dJ up (qV l up last r).1))) (fun last r=>eH l ver n _ last r) (cntR l (modR l ver (qV l up last r).2).2).1 .nil ⟨#[]⟩ (sumR l (cntR l (modR l ver (qV l up last r).2).2).2).2
    have h4:=h3.lt.trans hx
    obtain ⟨c,hc,e1,e2,e3,e4⟩:=uz (here:=dJ up (qV l up last r).1) (pl:=(cntR l (modR l ver (qV l up last r).2).2).2.s.p) (h:=(sumR l (cntR l (modR l ver (qV l up last r).2).2).2).1) hx
    have hst:(qV l up last r).2.st=r.st:=by rw [h2.st,q8]
    have hp:r.s.p+1≤(qV l up last r).2.s.p:=by have:=h2.p;rw [q8] at this;exact this
    have a1:=h12.left
    have a2:=h4.left
    have a3:=h4.p
    have a4:=h4.sl
    have a5:=h4.sp
    rw [hst] at a4 a5
    show Lt r (kidE _ _ _ _).2 1
    refine ⟨by rw [e2];omega,by rw [e3];omega,by rw [e1,e2];omega,by rw [e1,e3];omega,fun q=>?_⟩
    rw [e4]
    exact (h12.trans h4).fl q
   ·split
    ·exact h12.trans (((Sm.con _ _ _ _).trans (Sm.mod _ _ _)).trans (Sm.marks _ _ _)).lt
    ·split
     ·exact h12.trans (Sm.con _ _ _ _).lt
     ·exact h12
end Go.Proofs.YtjikkhbcbfpocaaGreatDoor
