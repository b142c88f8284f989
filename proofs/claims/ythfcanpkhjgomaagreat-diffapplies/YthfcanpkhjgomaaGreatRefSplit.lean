import Derived.Test.YthfcanpkhjgomaaGreatPSplit
set_option maxRecDepth 100000
set_option maxHeartbeats 2000000
namespace Go.Proofs.YthfcanpkhjgomaaGreat
open Go.RowKit
theorem cut_smallR:∀ l:By,(cut l).1.length≤l.length∧∀ p∈(cut l).2,p.length≤l.length
 | []=>by simp [cut]
 | x::xs=>by
  have ⟨i1,i2⟩:=cut_smallR xs
  rw [cut]
  by_cases h:x=47
  ·rw [if_pos h]
   refine ⟨by simp,fun p hp=>?_⟩
   simp only [List.mem_cons] at hp
   rcases hp with rfl | hp
   ·simp;omega
   ·have:=i2 p hp;simp;omega
  ·rw [if_neg h]
   refine ⟨by simp;omega,fun p hp=>by have:=i2 p hp;simp;omega⟩
theorem pieces_smallR (l p:By) (hp:p∈pieces l):p.length≤l.length:=by
 unfold pieces at hp
 split at hp
 ·simp at hp
 ·simp only [cuts,List.mem_cons] at hp
  rcases hp with rfl | hp
  ·exact (cut_smallR l).1
  ·exact (cut_smallR l).2 p hp
theorem pieces_lenR (l:By):(pieces l).length≤l.length+1:=by
 unfold pieces
 split
 ·simp
 ·rw [cuts_len];have:=List.count_le_length (a:=(47:UInt8)) (l:=l);omega
theorem refSplit_nat (s:ByteArray) (mo:Nat) (w:World) (hs:s.size≤1048576):
  Calls Tryz.prog 108 #[.string s,.int .i64 mo] w fun e w'=>(∃ v L,e=.returned (.tuple #[v,.int .i64 (splitE (tl s) mo)])∧OwnsT w' w.heap.size v L∧L.map tl=splitL (tl s) mo)∧Below w.heap.size w w':=by
 have C28:=pieces_any s w hs
 have C26:=fun x W h=>name_any x W h
 obtain ⟨E,hE⟩:∃ E,splitE (tl s) mo=E:=⟨_,rfl⟩
 have HE:Hid (splitE (tl s) mo=E):=hE
 have HL:Hid (splitL (tl s) mo=if E=0 then pieces (tl s) else []):=by show _=_;unfold splitL;rw [hE]
 rw [hE]
 clear hE
 have z0:¬ ((mo:Int)<0):=by omega
 go_enter Tryz.func108,Tryz.ntmps108
 go_wp2_with fail
 refine C28.mono ?_
 rintro e w1 ⟨v,L,rfl,hown,hL,b1⟩
 have HO:Hid (OwnsT w1 w.heap.size v L):=hown
 have HB:Hid (Below w.heap.size w w1):=b1
 have HP:Hid (L.map tl=pieces (tl s)):=hL
 have hLn:L.length≤1048577:=by
  rw [← List.length_map (f:=tl),hL]
  have:=pieces_lenR (tl s);rw [jg] at this;omega
 obtain ⟨ao,cap,hv,_⟩:=hown.has.form
 subst hv
 clear C28 hown hL b1
 by_cases h64:mo<L.length
 ·have i1:(mo:Int)<(L.length:Int):=by omega
  have HE2:Hid (E=31):=by
   show _=_
   rw [← HE.out];unfold splitE
   rw [if_pos (by rw [← HP.out,List.length_map];show max (mo:Int) 0<_;omega)]
  go_wp2
  go_ret2
  exact ⟨⟨_,[],by rw [HE2.out];rfl,OwnsT.nil _ _,by rw [HL.out,HE2.out];rfl⟩,HB.out⟩
 ·have i1:¬ ((mo:Int)<(L.length:Int)):=by omega
  have HE2:Hid (E=if (L.map tl).all nameB then 0 else 30):=by
   show _=_
   rw [← HE.out];unfold splitE
   rw [if_neg (by rw [← HP.out,List.length_map];show ¬ max (mo:Int) 0<_;omega),HP.out]
  go_wp2
  go_loop [7] (fun y=>∃ k:Nat,y=.int .i64 k∧k≤L.length∧Hid (∀ j x,j<k→L[j]?=some x→nameB (tl x)=true)) (fun y=>L.length-iOf y)
  case atStart=>exact ⟨0,rfl,Nat.zero_le _,fun j x h=>absurd h (Nat.not_lt_zero _)⟩
  case round=>
   obtain ⟨k,rfl,hk,HJ⟩:=hrel
   by_cases hlt:k<L.length
   ·have i2:(k:Int)<(L.length:Int):=by omega
    obtain ⟨x,hx⟩:∃ x,L[k]?=some x:=⟨_,List.getElem?_eq_getElem hlt⟩
    obtain ⟨a0,_,hva,hca⟩:=HO.out.has.at hx
    simp at hva
    obtain ⟨rfl,rfl⟩:=hva
    have hxs:x.size≤1048576:=by
     rw [← jg x]
     have:=pieces_smallR (tl s) (tl x) (by rw [← HP.out];exact List.mem_map_of_mem (List.mem_of_getElem? hx))
     rw [jg s] at this;omega
    have CX:=C26 x w1 (by omega)
    by_cases hn:nameB (tl x)=true
    ·rw [hn] at CX
     have HJ2:Hid (∀ j x,j<k+1→L[j]?=some x→nameB (tl x)=true):=by
      intro j y hj hy
      by_cases e:j=k
      ·subst e;rw [hx] at hy;cases hy;exact hn
      ·exact HJ.out j y (by omega) hy
     clear hn HJ hx
     go_wp2_with (go_at_call 130;refine CX.mono ?_;rintro e w2 ⟨rfl,e2⟩;subst e2)
     exact ⟨⟨k+1,rfl,by omega,HJ2⟩,by simp;omega⟩
    ·rw [Bool.not_eq_true] at hn
     rw [hn] at CX
     have HE3:Hid (E=30):=by
      show _=_
      rw [HE2.out,if_neg]
      rw [Bool.not_eq_true,Bool.eq_false_iff,ne_eq,List.all_eq_true]
      intro h
      have:=h _ (List.mem_map_of_mem (List.mem_of_getElem? hx))
      rw [hn] at this;cases this
     clear hn HJ hx HE2
     go_wp2_with (go_at_call 130;refine CX.mono ?_;rintro e w2 ⟨rfl,e2⟩;subst e2)
     go_ret2
     exact ⟨⟨_,[],by rw [HE3.out];rfl,OwnsT.nil _ _,by rw [HL.out,HE3.out];rfl⟩,HB.out⟩
   ·have i2:¬ ((k:Int)<(L.length:Int)):=by omega
    have HE3:Hid (E=0):=by
     show _=_
     rw [HE2.out,if_pos]
     rw [List.all_eq_true]
     intro p hp
     obtain ⟨x,hx,rfl⟩:=List.mem_map.1 hp
     obtain ⟨j,hj,ej⟩:=List.mem_iff_getElem.1 hx
     exact HJ.out j x (by omega) (by rw [List.getElem?_eq_getElem hj,ej])
    clear HJ HE2
    go_wp2
    go_ret2
    refine ⟨⟨.slice ao L.length cap,?_,L,HO.out,?_⟩,HB.out⟩
    ·rw [HE3.out];rfl
    ·rw [HL.out,HE3.out,HP.out];rfl
theorem refSplit_neg (s:ByteArray) (mo:Int) (hneg:mo<0) (w:World) (hs:s.size≤1048576):
  Calls Tryz.prog 108 #[.string s,.int .i64 mo] w fun e w'=>(∃ v L,e=.returned (.tuple #[v,.int .i64 (splitE (tl s) mo)])∧OwnsT w' w.heap.size v L∧L.map tl=splitL (tl s) mo)∧Below w.heap.size w w':=by
 have C28:=pieces_any s w hs
 have C26:=fun x W h=>name_any x W h
 obtain ⟨E,hE⟩:∃ E,splitE (tl s) mo=E:=⟨_,rfl⟩
 have HE:Hid (splitE (tl s) mo=E):=hE
 have HL:Hid (splitL (tl s) mo=if E=0 then pieces (tl s) else []):=by show _=_;unfold splitL;rw [hE]
 rw [hE]
 clear hE
 have HN:Hid (mo<0):=hneg
 go_enter Tryz.func108,Tryz.ntmps108
 go_wp2_with fail
 refine C28.mono ?_
 rintro e w1 ⟨v,L,rfl,hown,hL,b1⟩
 have HO:Hid (OwnsT w1 w.heap.size v L):=hown
 have HB:Hid (Below w.heap.size w w1):=b1
 have HP:Hid (L.map tl=pieces (tl s)):=hL
 have hLn:L.length≤1048577:=by
  rw [← List.length_map (f:=tl),hL]
  have:=pieces_lenR (tl s);rw [jg] at this;omega
 obtain ⟨ao,cap,hv,_⟩:=hown.has.form
 subst hv
 clear C28 hown hL b1
 have hneg:=HN.out
 by_cases h64:0<L.length
 ·have i1:(0:Int)<(L.length:Int):=by omega
  have HE2:Hid (E=31):=by
   show _=_
   rw [← HE.out];unfold splitE
   rw [if_pos (by rw [← HP.out,List.length_map];show max (mo:Int) 0<_;omega)]
  go_wp2
  go_ret2
  exact ⟨⟨_,[],by rw [HE2.out];rfl,OwnsT.nil _ _,by rw [HL.out,HE2.out];rfl⟩,HB.out⟩
 ·have i1:¬ ((0:Int)<(L.length:Int)):=by omega
  have HE2:Hid (E=if (L.map tl).all nameB then 0 else 30):=by
   show _=_
   rw [← HE.out];unfold splitE
   rw [if_neg (by rw [← HP.out,List.length_map];show ¬ max (mo:Int) 0<_;omega),HP.out]
  go_wp2
  go_loop [7] (fun y=>∃ k:Nat,y=.int .i64 k∧k≤L.length∧Hid (∀ j x,j<k→L[j]?=some x→nameB (tl x)=true)) (fun y=>L.length-iOf y)
  case atStart=>exact ⟨0,rfl,Nat.zero_le _,fun j x h=>absurd h (Nat.not_lt_zero _)⟩
  case round=>
   obtain ⟨k,rfl,hk,HJ⟩:=hrel
   by_cases hlt:k<L.length
   ·have i2:(k:Int)<(L.length:Int):=by omega
    obtain ⟨x,hx⟩:∃ x,L[k]?=some x:=⟨_,List.getElem?_eq_getElem hlt⟩
    obtain ⟨a0,_,hva,hca⟩:=HO.out.has.at hx
    simp at hva
    obtain ⟨rfl,rfl⟩:=hva
    have hxs:x.size≤1048576:=by
     rw [← jg x]
     have:=pieces_smallR (tl s) (tl x) (by rw [← HP.out];exact List.mem_map_of_mem (List.mem_of_getElem? hx))
     rw [jg s] at this;omega
    have CX:=C26 x w1 (by omega)
    by_cases hn:nameB (tl x)=true
    ·rw [hn] at CX
     have HJ2:Hid (∀ j x,j<k+1→L[j]?=some x→nameB (tl x)=true):=by
      intro j y hj hy
      by_cases e:j=k
      ·subst e;rw [hx] at hy;cases hy;exact hn
      ·exact HJ.out j y (by omega) hy
     clear hn HJ hx
     go_wp2_with (go_at_call 130;refine CX.mono ?_;rintro e w2 ⟨rfl,e2⟩;subst e2)
     exact ⟨⟨k+1,rfl,by omega,HJ2⟩,by simp;omega⟩
    ·rw [Bool.not_eq_true] at hn
     rw [hn] at CX
     have HE3:Hid (E=30):=by
      show _=_
      rw [HE2.out,if_neg]
      rw [Bool.not_eq_true,Bool.eq_false_iff,ne_eq,List.all_eq_true]
      intro h
      have:=h _ (List.mem_map_of_mem (List.mem_of_getElem? hx))
      rw [hn] at this;cases this
     clear hn HJ hx HE2
     go_wp2_with (go_at_call 130;refine CX.mono ?_;rintro e w2 ⟨rfl,e2⟩;subst e2)
     go_ret2
     exact ⟨⟨_,[],by rw [HE3.out];rfl,OwnsT.nil _ _,by rw [HL.out,HE3.out];rfl⟩,HB.out⟩
   ·have i2:¬ ((k:Int)<(L.length:Int)):=by omega
    have HE3:Hid (E=0):=by
     show _=_
     rw [HE2.out,if_pos]
     rw [List.all_eq_true]
     intro p hp
     obtain ⟨x,hx,rfl⟩:=List.mem_map.1 hp
     obtain ⟨j,hj,ej⟩:=List.mem_iff_getElem.1 hx
     exact HJ.out j x (by omega) (by rw [List.getElem?_eq_getElem hj,ej])
    clear HJ HE2
    go_wp2
    go_ret2
    refine ⟨⟨.slice ao L.length cap,?_,L,HO.out,?_⟩,HB.out⟩
    ·rw [HE3.out];rfl
    ·rw [HL.out,HE3.out,HP.out];rfl
theorem refSplit_any (s:ByteArray) (mo:Int) (w:World) (hs:s.size≤1048576):
  Calls Tryz.prog 108 #[.string s,.int .i64 mo] w fun e w'=>(∃ v L,e=.returned (.tuple #[v,.int .i64 (splitE (tl s) mo)])∧OwnsT w' w.heap.size v L∧L.map tl=splitL (tl s) mo)∧Below w.heap.size w w':=by
 by_cases h:mo<0
 ·exact refSplit_neg s mo h w hs
 ·obtain ⟨k,rfl⟩:=Int.eq_ofNat_of_zero_le (show 0≤mo by omega)
  exact refSplit_nat s k w hs
end Go.Proofs.YthfcanpkhjgomaaGreat
