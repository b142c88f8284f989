import Derived.Test.YthfcanpkhjgomaaGreatRefOrder
set_option maxRecDepth 100000
set_option maxHeartbeats 400000
namespace Go.Proofs.YthfcanpkhjgomaaGreat
open Go.RowKit
theorem rank_any (x:UInt8) (w:World):Calls Tryz.prog 129 #[.int .u8 (x.toNat:Int)] w fun e w'=>e=.returned (.int .i64 (rank x))∧w'=w:=by
 by_cases h:x=47
 ·subst h
  rw [show rank 47=-1 from rfl]
  go_enter Tryz.func129,Tryz.ntmps129
  go_wp2
  go_ret
  exact ⟨rfl,rfl⟩
 ·have h1:((x.toNat:Int)==47)=false:=by
   simp only [beq_eq_false_iff_ne,ne_eq]
   intro q;exact h (UInt8.toNat_inj.1 (by show x.toNat=47;omega))
  rw [show rank x=(x.toNat:Int) from if_neg h]
  have:=x.toNat_lt
  go_enter Tryz.func129,Tryz.ntmps129
  go_wp2
  go_ret
  exact ⟨rfl,rfl⟩
theorem cmpI_any (x y:Int) (w:World):Calls Tryz.prog 128 #[.int .i64 x,.int .i64 y] w fun e w'=>e=.returned (.int .i64 (cmpI x y))∧w'=w:=by
 have key:cmpI x y=-1∧x<y∨cmpI x y=1∧¬ x<y∧y<x∨cmpI x y=0∧¬ x<y∧¬ y<x:=by
  unfold cmpI
  by_cases h:x<y
  ·exact .inl ⟨if_pos h,h⟩
  ·by_cases h2:y<x
   ·exact .inr (.inl ⟨by rw [if_neg h,if_pos h2],h,h2⟩)
   ·exact .inr (.inr ⟨by rw [if_neg h,if_neg h2],h,h2⟩)
 rcases key with ⟨e,h1⟩ | ⟨e,h1,h2⟩ | ⟨e,h1,h2⟩
 all_goals
  rw [e]
  go_enter Tryz.func128,Tryz.ntmps128
  go_wp2
  go_ret
  exact ⟨rfl,rfl⟩
theorem compare_any (a b:ByteArray) (w:World) (ha:a.size≤1152921504606846976) (hb:b.size≤1152921504606846976):
  Calls Tryz.prog 102 #[.string a,.string b] w fun e w'=>e=.returned (.int .i64 (cmpL (tl a) (tl b)))∧Drew w w':=by
 have hla:=jg a
 have hlb:=jg b
 have C1:=fun x W=>rank_any x W
 have C2:=fun x y W=>cmpI_any x y W
 have hm:∃ mn:Nat,mn=min a.size b.size:=⟨_,rfl⟩
 obtain ⟨mn,hmn⟩:=hm
 have HM:Hid (mn=min a.size b.size):=hmn
 clear hmn
 go_enter Tryz.func102,Tryz.ntmps102
 go_wp2
 all_goals
  go_loopw [11] (fun i wr=>∃ k:Nat,Hid (Drew w wr)∧k≤mn∧i=.int .i64 k∧(tl a).take k=(tl b).take k) (fun i _=>mn-iOf i)
  case atStart=>exact ⟨0,Drew.refl _,Nat.zero_le _,rfl,by simp⟩
  case round=>
   obtain ⟨k,HW,hk,rfl,htk⟩:=hrel
   have HT:Hid ((tl a).take k=(tl b).take k):=htk
   clear htk
   by_cases hlt:k<mn
   ·have h1:k<a.size:=by have:=HM.out;omega
    have h2:k<b.size:=by have:=HM.out;omega
    have i1:(k:Int)<(a.size:Int):=by omega
    have i2:(k:Int)<(b.size:Int):=by omega
    have e1:=tl_at a k h1
    have e2:=tl_at b k h2
    have E1:Hid ((tl a)[k]?=some (a[k]'h1)):=e1
    have E2:Hid ((tl b)[k]?=some (b[k]'h2)):=e2
    clear e1 e2
    by_cases hab:a[k]'h1=b[k]'h2
    ·have HT2:Hid ((tl a).take (k+1)=(tl b).take (k+1)):=take_more HT.out E1.out (by rw [hab];exact E2.out)
     go_wp2_with fail
     go_quiet (fail)
     go_wp2
     go_roundw
     case rel=>exact ⟨k+1,HW.out.more _,by omega,by go_num,HT2.out⟩
     case measure=>simp;omega
    ·have hr:cmpL (tl a) (tl b)=cmpI (rank (a[k]'h1)) (rank (b[k]'h2)):=cmpL_at k _ _ _ _ HT.out E1.out E2.out hab
     have HR:Hid (cmpL (tl a) (tl b)=cmpI (rank (a[k]'h1)) (rank (b[k]'h2))):=hr
     have hne:=u8_neI hab
     clear hr
     go_wp2_with fail
     go_quiet (fail)
     obtain ⟨wq,hq⟩:∃ wq,wr.drewN nq=wq:=⟨_,rfl⟩
     rw [hq]
     have HW2:Hid (Drew w wq):=by show Drew w wq;rw [← hq];exact HW.out.more _
     clear hq HW
     go_wp2_with fail
     go_quiet (first
      | (go_at_call 129;exact Calls.quiet_of_same (C1 _ _))
      | (go_at_call 128;exact Calls.quiet_of_same (C2 _ _ _)))
     go_wp2
     go_ret
     exact ⟨by rw [HR.out];rfl,HW2.out.more _⟩
   ·have hr:cmpL (tl a) (tl b)=cmpI a.size b.size:=by rw [← jg a,← jg b];exact cmpL_len k _ _ (by rw [jg,jg];have:=HM.out;omega) HT.out
    have HR:Hid (cmpL (tl a) (tl b)=cmpI a.size b.size):=hr
    clear hr
    have n1:mn=k:=by omega
    have n2:¬ ((k:Int)<(a.size:Int))∨¬ ((k:Int)<(b.size:Int)):=by have:=HM.out;omega
    have n3:¬ ((k:Int)<(if b.size<a.size then b.size else a.size:Nat)):=by have:=HM.out;split<;>omega
    first
     | rw [if_pos (by assumption)] at n3
     | rw [if_neg (by assumption)] at n3
    clear n1 n2
    go_wp2_with (go_at_call 128;refine (C2 _ _ _).mono ?_;rintro e w1 ⟨rfl,rfl⟩)
    go_ret
    exact ⟨by rw [HR.out];rfl,HW.out⟩
end Go.Proofs.YthfcanpkhjgomaaGreat
