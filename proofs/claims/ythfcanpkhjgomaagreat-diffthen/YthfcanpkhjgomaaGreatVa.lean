import Derived.Test.YthfcanpkhjgomaaGreatPutL
namespace Go.Proofs.YthfcanpkhjgomaaGreat
open Go.RowKit
def val (t:T3) (L:List ByteArray):Option (Vd × Md):=(dn t L).map fun x=>(x.1,x.2.1)
theorem val_nil (t:T3):val t []=some (t.1,t.2.1):=rfl
theorem val_cons (t:T3) (n:ByteArray) (L:List ByteArray):val t (n::L)=(t.2.2.get n).bind fun s=>val s L:=by
 unfold val
 rw [dn]
 cases t.2.2.get n<;>rfl
theorem val_none {t:T3} {L:List ByteArray}:val t L=none↔dn t L=none:=by unfold val;simp
theorem val_app (t:T3) (L M:List ByteArray):val t (L++M)=(dn t L).bind fun s=>val s M:=by
 unfold val
 rw [dn_app]
 cases dn t L<;>rfl
theorem val_some {t s:T3} {L:List ByteArray} (h:dn t L=some s):val t L=some (s.1,s.2.1):=by unfold val;rw [h];rfl
theorem dn_some {t:T3} {L:List ByteArray} {x:Vd × Md} (h:val t L=some x):∃ s,dn t L=some s∧x=(s.1,s.2.1):=by
 unfold val at h
 cases e:dn t L with
 | none=>rw [e] at h;cases h
 | some s=>rw [e] at h;exact ⟨s,rfl,(Option.some.inj h).symm⟩
theorem val_putT:∀ {t:T3} {L:List ByteArray} {s:T3},t.2.2.rises→s.2.2.rises→wayTo t L→(∀ n N,val s (n::N)=val t (L++n::N))→∀ M,val (putT t L s) M=if M=L then some (s.1,s.2.1) else val t M
 | t,[],s,_,_,_,h,M=>by
  rw [putT]
  cases M with
  | nil=>rw [if_pos rfl,val_nil]
  | cons n N=>rw [if_neg (by simp),h];rfl
 | t,nm::L,s,ht,hs,hw,h,M=>by
  cases M with
  | nil=>rw [if_neg (by simp)];rfl
  | cons x N=>
   rw [val_cons,val_cons,putT_get ht]
   by_cases hx:x=nm
   ·subst hx
    rw [if_pos rfl,Option.bind_some]
    cases e:t.2.2.get x with
    | some y=>
     rw [Option.getD_some,Option.bind_some]
     have hy:y.2.2.rises:=(F.rises_get ht e).1
     have hw2:wayTo y L:=by
      rcases hw with rfl | ⟨s',q1,q2⟩
      ·trivial
      ·rw [e] at q1;cases q1;exact q2
     rw [val_putT hy hs hw2 (fun n N=>by rw [h,List.cons_append,val_cons,e];rfl) N]
     by_cases hN:N=L
     ·rw [if_pos hN,if_pos (by rw [hN])]
     ·rw [if_neg hN,if_neg (by intro q;injection q;contradiction)]
    | none=>
     obtain rfl:L=[]:=by
      rcases hw with rfl | ⟨s',q1,_⟩
      ·rfl
      ·rw [e] at q1;cases q1
     rw [Option.getD_none,putT]
     cases N with
     | nil=>rw [if_pos rfl,val_nil]
     | cons n N=>rw [if_neg (by simp),h,List.cons_append,val_cons,e];rfl
   ·rw [if_neg hx,if_neg (by intro q;injection q;contradiction)]
theorem F.nil_of_depth:∀ {f:F},f.depth=0→f=.nil
 | .nil,_=>rfl
 | .cons _ _ _ k r,h=>by simp [F.depth] at h
theorem val_dropT:∀ {t:T3} {L:List ByteArray} {s:T3},L≠[]→t.2.2.rises→dn t L=some s→s.2.2=.nil→∀ M,val (dropT t L) M=if M=L then none else val t M
 | t,[nm],s,_,ht,hd,hk,M=>by
  cases M with
  | nil=>rw [if_neg (by simp),val_nil,val_nil,dropT]
  | cons x N=>
   rw [val_cons,val_cons,dropT_get1 ht]
   rw [dn] at hd
   by_cases hx:x=nm
   ·subst hx
    rw [if_pos rfl,Option.bind_none]
    cases N with
    | nil=>rw [if_pos rfl]
    | cons n N=>
     rw [if_neg (by simp)]
     cases e:t.2.2.get x with
     | none=>rfl
     | some y=>
      rw [e,Option.bind_some,dn] at hd
      cases hd
      rw [Option.bind_some,val_cons,hk,F.get]
      rfl
   ·rw [if_neg hx,if_neg (by intro q;injection q;contradiction)]
 | t,nm::b::L,s,_,ht,hd,hk,M=>by
  rw [dn] at hd
  cases e:t.2.2.get nm with
  | none=>rw [e] at hd;cases hd
  | some y=>
   rw [e,Option.bind_some] at hd
   cases M with
   | nil=>rw [if_neg (by simp),val_nil,val_nil,dropT_val.1,dropT_val.2]
   | cons x N=>
    rw [val_cons,val_cons,dropT_get ht e]
    by_cases hx:x=nm
    ·subst hx
     rw [if_pos rfl,Option.bind_some,e,Option.bind_some,val_dropT (by simp) (F.rises_get ht e).1 hd hk N]
     by_cases hN:N=b::L
     ·rw [if_pos hN,if_pos (by rw [hN])]
     ·rw [if_neg hN,if_neg (by intro q;injection q;contradiction)]
    ·rw [if_neg hx,if_neg (by intro q;injection q;contradiction)]
theorem F.ext_val:∀ (Z:Nat) {f g:F},f.size<Z→f.rises→g.rises→(∀ n N,(f.get n).bind (fun s=>val s N)=(g.get n).bind fun s=>val s N)→f=g:=by
 intro Z
 induction Z with
 | zero=>intro f g h;omega
 | succ Z ih=>
  intro f g hZ hf hg h
  refine F.ext_get hf hg fun n=>?_
  cases ef:f.get n with
  | none=>
   cases eg:g.get n with
   | none=>rfl
   | some y=>have:=h n [];rw [ef,eg] at this;cases this
  | some x=>
   cases eg:g.get n with
   | none=>have:=h n [];rw [ef,eg] at this;cases this
   | some y=>
    have h0:=h n []
    rw [ef,eg] at h0
    injection h0 with h0
    injection h0 with h1 h2
    have hx:=F.rises_get hf ef
    have hy:=F.rises_get hg eg
    have h3:x.2.2=y.2.2:=ih (by omega) hx.1 hy.1 fun m M=>by
     have:=h n (m::M)
     rw [ef,eg] at this
     simpa only [Option.bind_some,val_cons] using this
    rw [T3.ext' h1 h2 h3]
theorem T3.ext_val {t u:T3} (ht:t.2.2.rises) (hu:u.2.2.rises) (h:∀ M,val t M=val u M):t=u:=by
 have h0:=h []
 injection h0 with h0
 injection h0 with h1 h2
 exact T3.ext' h1 h2 (F.ext_val _ (Nat.lt_succ_self _) ht hu fun n N=>by have:=h (n::N);rwa [val_cons,val_cons] at this)
end Go.Proofs.YthfcanpkhjgomaaGreat
