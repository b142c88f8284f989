import Derived.Test.YthfcanpkhjgomaaGreatPCheck
set_option maxRecDepth 100000
set_option maxHeartbeats 1000000
namespace Go.Proofs.YthfcanpkhjgomaaGreat
open Go.RowKit
theorem u8_neI {x y:UInt8} (h:x≠y):((x.toNat:Int) != (y.toNat:Int))=true:=by
 simp;intro q;exact h (UInt8.toNat_inj.1 (by omega))
theorem belowL_tri:∀ {x y:By},belowL x y=false→belowL y x=false→x=y
 | [],[],_,_=>rfl
 | [],_::_,h,_=>by simp [belowL] at h
 | _::_,[],_,h=>by simp [belowL] at h
 | x::xs,y::ys,h1,h2=>by
  rw [belowL] at h1 h2
  by_cases e:x=y
  ·rw [if_pos e] at h1;rw [if_pos e.symm] at h2
   rw [e,belowL_tri h1 h2]
  ·rw [if_neg e] at h1;rw [if_neg (fun q=>e q.symm)] at h2
   simp at h1 h2
   exact absurd (UInt8.toNat_inj.1 (Nat.le_antisymm h2 h1)) e
theorem belowL_self:∀ x:By,belowL x x=false
 | []=>rfl
 | x::xs=>by rw [belowL,if_pos rfl];exact belowL_self xs
theorem cmpP_at:∀ (k:Nat) (a b:List By) (x y:By),a.take k=b.take k→a[k]?=some x→b[k]?=some y→(belowL x y=true→cmpP a b=-1)∧(belowL x y=false→belowL y x=true→cmpP a b=1)
 | 0,a,b,x,y,_,ha,hb=>by
  cases a with
  | nil=>simp at ha
  | cons a0 a=>cases b with
   | nil=>simp at hb
   | cons b0 b=>
    simp at ha hb
    subst ha hb
    refine ⟨fun h=>by rw [cmpP,if_pos h],fun h h2=>by rw [cmpP,if_neg (by rw [h];simp),if_pos h2]⟩
 | k+1,a,b,x,y,h,ha,hb=>by
  cases a with
  | nil=>simp at ha
  | cons a0 a=>cases b with
   | nil=>simp at hb
   | cons b0 b=>
    simp at h ha hb
    rw [cmpP,h.1,belowL_self]
    simp only [Bool.false_eq_true,if_false]
    exact cmpP_at k a b x y h.2 ha hb
theorem cmpP_len:∀ (k:Nat) (a b:List By),k=min a.length b.length→a.take k=b.take k→cmpP a b=cmpI a.length b.length
 | 0,a,b,hk,_=>by
  cases a with
  | nil=>cases b with
   | nil=>rfl
   | cons b0 b=>rw [cmpP,cmpI,if_pos (by simp)]
  | cons a0 a=>cases b with
   | nil=>rw [cmpP,cmpI,if_neg (by simp;omega),if_pos (by simp)]
   | cons b0 b=>simp at hk
 | k+1,a,b,hk,h=>by
  cases a with
  | nil=>simp at hk
  | cons a0 a=>cases b with
   | nil=>simp at hk
   | cons b0 b=>
    simp at h
    rw [cmpP,h.1,belowL_self]
    simp only [Bool.false_eq_true,if_false]
    rw [cmpP_len k a b (by simp at hk;omega) h.2]
    simp only [cmpI,List.length_cons]
    repeat' split
    all_goals omega
theorem below_any (a b:ByteArray) (w:World) (ha:a.size≤1152921504606846976) (_hb:b.size≤1152921504606846976):
  Calls Tryz.prog 77 #[.string a,.string b] w fun e w'=>e=.returned (.bool (belowL (tl a) (tl b)))∧Drew w w':=by
 have hla:=jg a
 have hlb:=jg b
 go_enter Tryz.func77,Tryz.ntmps77
 go_wp2
 go_loopw [5] (fun i wr=>∃ k:Nat,Hid (Drew w wr)∧k≤a.size∧k≤b.size∧i=.int .i64 k∧(tl a).take k=(tl b).take k) (fun i _=>a.size-iOf i)
 case atStart=>exact ⟨0,Drew.refl _,Nat.zero_le _,Nat.zero_le _,rfl,by simp⟩
 case round=>
  obtain ⟨k,HW,hk,hk2,rfl,htk⟩:=hrel
  have HT:Hid ((tl a).take k=(tl b).take k):=htk
  clear htk
  by_cases hlt:k<a.size∧k<b.size
  ·obtain ⟨h1,h2⟩:=hlt
   have i1:(k:Int)<(a.size:Int):=by omega
   have i2:(k:Int)<(b.size:Int):=by omega
   have E1:Hid ((tl a)[k]?=some (a[k]'h1)):=tl_at a k h1
   have E2:Hid ((tl b)[k]?=some (b[k]'h2)):=tl_at b k h2
   by_cases hab:a[k]'h1=b[k]'h2
   ·have HT2:Hid ((tl a).take (k+1)=(tl b).take (k+1)):=take_more HT.out E1.out (by rw [hab];exact E2.out)
    go_wp2_with fail
    go_quiet (fail)
    go_wp2
    go_roundw
    case rel=>exact ⟨k+1,HW.out.more _,by omega,by omega,by go_num,HT2.out⟩
    case measure=>simp;omega
   ·have hr:belowL (tl a) (tl b)=decide ((a[k]'h1).toNat<(b[k]'h2).toNat):=by rw [belowL_at k _ _ _ _ HT.out E1.out E2.out hab];simp
    have HR:Hid (belowL (tl a) (tl b)=decide ((a[k]'h1).toNat<(b[k]'h2).toNat)):=hr
    have hne:=u8_neI hab
    clear hr
    go_wp2_with fail
    go_quiet (fail)
    obtain ⟨wq,hq⟩:∃ wq,wr.drewN nq=wq:=⟨_,rfl⟩
    rw [hq]
    have HW2:Hid (Drew w wq):=by show Drew w wq;rw [← hq];exact HW.out.more _
    clear hq HW
    go_wp2_with fail
    go_quiet (fail)
    go_wp2
    go_ret
    exact ⟨by rw [HR.out];rfl,HW2.out.more _⟩
  ·have hr:belowL (tl a) (tl b)=decide (a.size<b.size):=by rw [← jg a,← jg b,belowL_len k _ _ (by rw [jg,jg];omega) HT.out];simp
   have HR:Hid (belowL (tl a) (tl b)=decide (a.size<b.size)):=hr
   clear hr
   by_cases h1:k<a.size
   ·have i1:(k:Int)<(a.size:Int):=by omega
    have i2:¬ ((k:Int)<(b.size:Int)):=by omega
    go_wp2
    go_ret
    exact ⟨by rw [HR.out];rfl,HW.out⟩
   ·have i1:¬ ((k:Int)<(a.size:Int)):=by omega
    go_wp2
    go_ret
    exact ⟨by rw [HR.out];rfl,HW.out⟩
theorem map_len {X:List ByteArray} {P:List By} (h:X.map tl=P):X.length=P.length:=by rw [← h,List.length_map]
theorem at_map {X:List ByteArray} {k:Nat} (h:k<X.length):∃ s,X[k]?=some s∧(X.map tl)[k]?=some (tl s):=⟨X[k],List.getElem?_eq_getElem h,by simp [List.getElem?_eq_getElem h]⟩
theorem mem_size {P:List By} {X:List ByteArray} {n k:Nat} {s:ByteArray} (h:X.map tl=P) (hP:∀ p∈P,p.length≤n) (hk:X[k]?=some s):s.size≤n:=by
 rw [← jg]
 exact hP _ (by rw [← h];exact List.mem_map_of_mem (List.mem_of_getElem? hk))
theorem cut_small:∀ l:By,(cut l).1.length≤l.length∧∀ p∈(cut l).2,p.length≤l.length
 | []=>by simp [cut]
 | x::xs=>by
  have ⟨i1,i2⟩:=cut_small xs
  rw [cut]
  by_cases h:x=47
  ·rw [if_pos h]
   refine ⟨by simp,fun p hp=>?_⟩
   simp only [List.mem_cons] at hp
   rcases hp with rfl | hp
   ·simp;omega
   ·have:=i2 p hp;simp;omega
  ·rw [if_neg h]
   refine ⟨by simp;omega,fun p hp=>by have:=i2 p hp;simp;omega⟩
theorem pieces_small (l:By):∀ p∈pieces l,p.length≤l.length:=by
 intro p hp
 unfold pieces at hp
 split at hp
 ·simp at hp
 ·simp only [cuts,List.mem_cons] at hp
  rcases hp with rfl | hp
  ·exact (cut_small l).1
  ·exact (cut_small l).2 p hp
theorem count_le (l:By):l.count 47≤l.length:=List.count_le_length
theorem pieces_len (l:By):(pieces l).length≤l.length+1:=by
 unfold pieces
 split
 ·simp
 ·rw [cuts_len];have:=count_le l;omega
theorem refCompare_any (a b:ByteArray) (w:World) (ha:a.size≤1048576) (hb:b.size≤1048576):
  Calls Tryz.prog 34 #[.string a,.string b] w fun e w'=>e=.returned (.int .i64 (cmpL (tl a) (tl b)))∧Below w.heap.size w w':=by
 have CA:=pieces_any a w ha
 have CB:=fun W=>pieces_any b W hb
 have HC:Hid (cmpL (tl a) (tl b)=cmpP (pieces (tl a)) (pieces (tl b))):=(cmpP_pieces _ _).symm
 have hpa:=pieces_len (tl a)
 have hpb:=pieces_len (tl b)
 rw [jg] at hpa hpb
 have CC:=fun x y W hx hy=>below_any x y W hx hy
 have SA:Hid (∀ p∈pieces (tl a),p.length≤a.size):=by intro p hp;rw [← jg a];exact pieces_small _ p hp
 have SB:Hid (∀ p∈pieces (tl b),p.length≤b.size):=by intro p hp;rw [← jg b];exact pieces_small _ p hp
 generalize hPA:pieces (tl a)=PA at *
 generalize hPB:pieces (tl b)=PB at *
 clear hPA hPB
 go_enter Tryz.func34,Tryz.ntmps34
 go_wp2_with fail
 refine CA.mono ?_
 rintro e w1 ⟨vx,X,rfl,ownX,hX,b1⟩
 go_wp2_with fail
 refine (CB _).mono ?_
 rintro e w2 ⟨vy,Y,rfl,ownY,hY,b2⟩
 have HX:Hid (HasT w2 vx X):=ownX.has.below b2
 have HY:Hid (HasT w2 vy Y):=ownY.has
 have HB:Hid (Below w.heap.size w w2):=Below.up b1 b2
 have lX:=map_len hX
 have lY:=map_len hY
 have hx0:X.length≤a.size+1:=by omega
 have hy0:Y.length≤b.size+1:=by omega
 have MX:Hid (X.map tl=PA):=hX
 have MY:Hid (Y.map tl=PB):=hY
 clear ownX ownY b1 b2 CA CB hX hY lX lY hpa hpb
 obtain ⟨xo,cx,hvx,_⟩:=HX.out.form
 obtain ⟨yo,cy,hvy,_⟩:=HY.out.form
 subst hvx hvy
 go_wp2
 go_loopw [7] (fun i wr=>∃ k:Nat,Hid (Drew w2 wr)∧k≤X.length∧k≤Y.length∧i=.int .i64 k∧Hid (PA.take k=PB.take k)) (fun i _=>X.length-iOf i)
 case atStart=>exact ⟨0,Drew.refl _,Nat.zero_le _,Nat.zero_le _,rfl,by show _=_;simp⟩
 case round=>
  obtain ⟨k,HW,hk,hk2,rfl,HT⟩:=hrel
  by_cases hlt:k<X.length∧k<Y.length
  ·obtain ⟨h1,h2⟩:=hlt
   have i1:(k:Int)<(X.length:Int):=by omega
   have i2:(k:Int)<(Y.length:Int):=by omega
   obtain ⟨x,ex,fx⟩:=at_map h1
   obtain ⟨y,ey,fy⟩:=at_map h2
   rw [MX.out] at fx
   rw [MY.out] at fy
   have hxs:x.size≤1152921504606846976:=by have:=mem_size MX.out SA.out ex;omega
   have hys:y.size≤1152921504606846976:=by have:=mem_size MY.out SB.out ey;omega
   obtain ⟨a0,_,hva,hca⟩:=(HX.out.drew HW.out).at ex
   obtain ⟨b0,_,hvb,hcb⟩:=(HY.out.drew HW.out).at ey
   simp at hva hvb
   obtain ⟨rfl,rfl⟩:=hva
   obtain ⟨rfl,rfl⟩:=hvb
   have C1:=fun W=>CC x y W hxs hys
   have C2:=fun W=>CC y x W hys hxs
   have key:=cmpP_at k PA PB (tl x) (tl y) HT.out fx fy
   have ftri:belowL (tl x) (tl y)=false→belowL (tl y) (tl x)=false→Hid (PA.take (k+1)=PB.take (k+1)):=fun q1 q2=>take_more HT.out fx (by rw [belowL_tri q1 q2];exact fy)
   have KEY:Hid ((belowL (tl x) (tl y)=true→cmpP PA PB=-1)∧(belowL (tl x) (tl y)=false→belowL (tl y) (tl x)=true→cmpP PA PB=1)):=key
   have TRI:Hid (belowL (tl x) (tl y)=false→belowL (tl y) (tl x)=false→Hid (PA.take (k+1)=PB.take (k+1))):=ftri
   clear key ftri fx fy ex ey hxs hys
   generalize belowL (tl x) (tl y)=q1 at *
   generalize belowL (tl y) (tl x)=q2 at *
   cases q1 with
   | true=>
    have K1:Hid (cmpP PA PB=-1):=KEY.out.1 rfl
    clear KEY TRI C2
    go_wp2_with fail
    go_quiet ((go_at_call 77;exact Calls.quiet_of (C1 _)))
    go_wp2
    go_ret
    exact ⟨by rw [HC.out,K1.out];rfl,Below.drews HB.out (HW.out.more _)⟩
   | false=>
    have K0:Hid (q2=true→cmpP PA PB=1):=fun h=>KEY.out.2 rfl h
    have T0:Hid (q2=false→Hid (PA.take (k+1)=PB.take (k+1))):=fun h=>TRI.out rfl h
    clear KEY TRI
    go_wp2_with fail
    go_quiet ((go_at_call 77;exact Calls.quiet_of (C1 _)))
    obtain ⟨wq,hq⟩:∃ wq,wr.drewN nq=wq:=⟨_,rfl⟩
    rw [hq]
    have HW2:Hid (Drew w2 wq):=by show Drew w2 wq;rw [← hq];exact HW.out.more _
    have hca2:wq.cell? (a0.add k)=some (.string x):=by rw [← hq];simpa using hca
    have hcb2:wq.cell? (b0.add k)=some (.string y):=by rw [← hq];simpa using hcb
    clear hq HW hca hcb
    cases q2 with
    | true=>
     have K1:Hid (cmpP PA PB=1):=K0.out rfl
     clear K0 T0
     go_wp2_with fail
     go_quiet ((go_at_call 77;exact Calls.quiet_of (C2 _)))
     go_wp2
     go_ret
     exact ⟨by rw [HC.out,K1.out];rfl,Below.drews HB.out (HW2.out.more _)⟩
    | false=>
     have T2:=T0.out rfl
     clear K0 T0
     go_wp2_with fail
     go_quiet ((go_at_call 77;exact Calls.quiet_of (C2 _)))
     go_wp2
     go_roundw
     case rel=>exact ⟨k+1,HW2.out.more _,by omega,by omega,by go_num,T2⟩
     case measure=>simp;omega
  ·have hr:cmpP PA PB=cmpI X.length Y.length:=by
    rw [cmpP_len k PA PB (by rw [← MX.out,← MY.out,List.length_map,List.length_map];omega) HT.out,← MX.out,← MY.out,List.length_map,List.length_map]
   have HR:Hid (cmpP PA PB=cmpI X.length Y.length):=hr
   clear hr
   have cc:(cmpI X.length Y.length=-1∧(X.length:Int)<(Y.length:Int))∨(cmpI X.length Y.length=1∧¬ ((X.length:Int)<(Y.length:Int))∧(Y.length:Int)<(X.length:Int))∨(cmpI X.length Y.length=0∧¬ ((X.length:Int)<(Y.length:Int))∧¬ ((Y.length:Int)<(X.length:Int))):=by
    unfold cmpI
    by_cases h:(X.length:Int)<(Y.length:Int)
    ·exact .inl ⟨if_pos h,h⟩
    ·by_cases h2:(Y.length:Int)<(X.length:Int)
     ·exact .inr (.inl ⟨by rw [if_neg h,if_pos h2],h,h2⟩)
     ·exact .inr (.inr ⟨by rw [if_neg h,if_neg h2],h,h2⟩)
   have CCC:Hid (cmpP PA PB=-1∧(X.length:Int)<(Y.length:Int)∨cmpP PA PB=1∧¬ ((X.length:Int)<(Y.length:Int))∧(Y.length:Int)<(X.length:Int)∨cmpP PA PB=0∧¬ ((X.length:Int)<(Y.length:Int))∧¬ ((Y.length:Int)<(X.length:Int))):=by rw [HR.out];exact cc
   clear cc HR
   by_cases h1:k<X.length
   all_goals
    first
     | have i1:(k:Int)<(X.length:Int):=by omega
       have i2:¬ ((k:Int)<(Y.length:Int)):=by omega
     | have i1:¬ ((k:Int)<(X.length:Int)):=by omega
    rcases CCC.out with ⟨e,c1⟩ | ⟨e,c1,c2⟩ | ⟨e,c1,c2⟩
    all_goals
     have E:Hid (cmpP PA PB=_):=e
     clear e CCC
     go_wp2
     go_ret
     exact ⟨by rw [HC.out,E.out];rfl,Below.drews HB.out HW.out⟩
end Go.Proofs.YthfcanpkhjgomaaGreat
