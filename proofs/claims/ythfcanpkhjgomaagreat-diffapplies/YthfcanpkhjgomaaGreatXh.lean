import Derived.Test.YthfcanpkhjgomaaGreatXe
set_option maxRecDepth 100000
set_option maxHeartbeats 8000000
namespace Go.Proofs.YthfcanpkhjgomaaGreat
open Go.RowKit
def AboveR (l u v:By):Prop:=(u=[]∧v=l∧47 ∉ l)∨(l=u++47::v∧47 ∉ v)
theorem split_last {u v u' v':By} (h:u++47::v=u'++47::v') (h1:(47:UInt8) ∉ v) (h2:(47:UInt8) ∉ v'):u=u'∧v=v':=by
 induction u generalizing u' with
 | nil=>
  cases u' with
  | nil=>simp at h;exact ⟨rfl,h⟩
  | cons x xs=>simp at h;exfalso;apply h1;rw [h.2];simp
 | cons y ys ih=>
  cases u' with
  | nil=>simp at h;exfalso;apply h2;rw [← h.2];simp
  | cons x xs=>
   simp at h
   obtain ⟨a,b⟩:=ih h.2
   exact ⟨by rw [h.1,a],b⟩
theorem AboveR.one {l u v u' v':By} (h:AboveR l u v) (k:AboveR l u' v'):u=u'∧v=v':=by
 rcases h with ⟨h1,h2,h3⟩ | ⟨h1,h2⟩
 ·rcases k with ⟨k1,k2,k3⟩ | ⟨k1,k2⟩
  ·exact ⟨by rw [h1,k1],by rw [h2,k2]⟩
  ·exfalso;apply h3;rw [k1];simp
 ·rcases k with ⟨k1,k2,k3⟩ | ⟨k1,k2⟩
  ·exfalso;apply k3;rw [h1];simp
  ·exact split_last (h1.symm.trans k1) h2 k2
noncomputable def underB (p root:By):Bool:=@decide (underL p root) (Classical.propDecidable _)
theorem underB_iff {p root:By}:underB p root=true↔underL p root:=by unfold underB;simp
theorem cut_mid:∀ (a r:By),cut (a++47::r)=((cut a).1,(cut a).2++cuts r)
 | [],r=>by simp [cut,cuts]
 | x::xs,r=>by
  have ih:=cut_mid xs r
  rw [List.cons_append,cut,cut,ih]
  split<;>simp
theorem cuts_mid (a r:By):cuts (a++47::r)=cuts a++cuts r:=by
 rw [cuts,cut_mid];rfl
theorem join_append:∀ {A Z:List By},A≠[]→Z≠[]→joinL (A++Z)=joinL A++47::joinL Z
 | [],_,h,_=>absurd rfl h
 | [x],Z,_,hz=>by
  cases Z with
  | nil=>exact absurd rfl hz
  | cons z Z=>rfl
 | x::y::A,Z,_,hz=>by
  have ih:=join_append (A:=y::A) (Z:=Z) (by simp) hz
  rw [List.cons_append,List.cons_append,joinL,joinL,← List.cons_append,ih]
  simp
theorem under_pieces (p root:By):(pieces root <+: pieces p)↔underL p root:=by
 unfold pieces
 by_cases hr:root=[]
 ·rw [if_pos hr];simp [underL,hr]
 ·rw [if_neg hr]
  by_cases hp:p=[]
  ·rw [if_pos hp]
   constructor
   ·intro h;simp [cuts] at h
   ·rintro (h | h | ⟨r,h⟩)
    ·exact absurd h hr
    ·rw [hp] at h;exact absurd h.symm hr
    ·rw [hp] at h;simp at h
  ·rw [if_neg hp]
   constructor
   ·rintro ⟨Z,hZ⟩
    have hj:=congrArg joinL hZ
    rw [join_cuts] at hj
    by_cases hz:Z=[]
    ·rw [hz,List.append_nil,join_cuts] at hj;exact .inr (.inl hj.symm)
    ·rw [join_append (by simp [cuts]) hz,join_cuts] at hj
     exact .inr (.inr ⟨_,hj.symm⟩)
   ·rintro (h | h | ⟨r,h⟩)
    ·exact absurd h hr
    ·rw [h];exact List.prefix_rfl
    ·rw [h,cuts_mid];exact List.prefix_append _ _
theorem prefix_take {α:Type} {a b:List α} (ht:a.take b.length=b):b <+: a:=by
 rw [← ht];exact List.take_prefix _ _
theorem prefix_get {α:Type} {a b:List α} (h:b <+: a) {k:Nat} {x:α} (hk:b[k]?=some x):a[k]?=some x:=by
 obtain ⟨r,rfl⟩:=h
 rw [List.getElem?_append_left (List.getElem?_eq_some_iff.1 hk).1];exact hk
theorem refUnder_any (a b:ByteArray) (w:World) (ha:a.size≤1048576) (hb:b.size≤1048576):
  Calls Tryz.prog 111 #[.string a,.string b] w fun e w'=>e=.returned (.bool (underB (tl a) (tl b)))∧Below w.heap.size w w':=by
 have CA:=pieces_any a w ha
 have CB:=fun W=>pieces_any b W hb
 have HC:Hid (underB (tl a) (tl b)=true↔(pieces (tl b) <+: pieces (tl a))):=by
  show _↔_
  rw [underB_iff,under_pieces]
 have hpa:=pieces_len (tl a)
 have hpb:=pieces_len (tl b)
 rw [jg] at hpa hpb
 generalize hPA:pieces (tl a)=PA at *
 generalize hPB:pieces (tl b)=PB at *
 generalize underB (tl a) (tl b)=res at *
 clear hPA hPB
 go_enter Tryz.func111,Tryz.ntmps111
 go_wp2_with fail
 refine CA.mono ?_
 rintro e w1 ⟨vx,X,rfl,ownX,hX,b1⟩
 go_wp2_with fail
 refine (CB _).mono ?_
 rintro e w2 ⟨vy,Y,rfl,ownY,hY,b2⟩
 have HX:Hid (HasT w2 vx X):=ownX.has.below b2
 have HY:Hid (HasT w2 vy Y):=ownY.has
 have HB:Hid (Below w.heap.size w w2):=Below.up b1 b2
 have lX:=map_len hX
 have lY:=map_len hY
 have hx0:X.length≤a.size+1:=by omega
 have hy0:Y.length≤b.size+1:=by omega
 have MX:Hid (X.map tl=PA):=hX
 have MY:Hid (Y.map tl=PB):=hY
 clear ownX ownY b1 b2 CA CB hX hY lX lY hpa hpb
 obtain ⟨xo,cx,hvx,_⟩:=HX.out.form
 obtain ⟨yo,cy,hvy,_⟩:=HY.out.form
 subst hvx hvy
 by_cases hle:X.length<Y.length
 ·have i0:(X.length:Int)<(Y.length:Int):=by omega
  have hf:Hid (res=false):=by
   show _=_
   rw [Bool.eq_false_iff]
   intro q
   have:=(HC.out.1 q).length_le
   rw [← MX.out,← MY.out,List.length_map,List.length_map] at this
   omega
  clear HC
  go_wp2
  go_ret
  exact ⟨by rw [hf.out];rfl,HB.out⟩
 ·have i0:¬ ((X.length:Int)<(Y.length:Int)):=by omega
  go_wp2
  go_loopw [7] (fun i wr=>∃ k:Nat,Hid (Drew w2 wr)∧k≤Y.length∧i=.int .i64 k∧Hid (PA.take k=PB.take k)) (fun i _=>Y.length-iOf i)
  case atStart=>exact ⟨0,Drew.refl _,Nat.zero_le _,rfl,by show _=_;simp⟩
  case round=>
   obtain ⟨k,HW,hk,rfl,HT⟩:=hrel
   by_cases h2:k<Y.length
   ·have h1:k<X.length:=by omega
    have i1:(k:Int)<(X.length:Int):=by omega
    have i2:(k:Int)<(Y.length:Int):=by omega
    obtain ⟨x,ex,fx⟩:=at_map h1
    obtain ⟨y,ey,fy⟩:=at_map h2
    rw [MX.out] at fx
    rw [MY.out] at fy
    obtain ⟨a0,_,hva,hca⟩:=(HX.out.drew HW.out).at ex
    obtain ⟨b0,_,hvb,hcb⟩:=(HY.out.drew HW.out).at ey
    simp at hva hvb
    obtain ⟨rfl,rfl⟩:=hva
    obtain ⟨rfl,rfl⟩:=hvb
    by_cases hxy:x.toList=y.toList
    ·have hq:(x.toList==y.toList)=true:=by simpa using hxy
     have T2:Hid (PA.take (k+1)=PB.take (k+1)):=take_more HT.out fx (by rw [show tl x=tl y from hxy];exact fy)
     clear hxy fx fy ex ey
     go_wp2_with fail
     go_quiet (fail)
     go_wp2
     go_roundw
     case rel=>exact ⟨k+1,HW.out.more _,by omega,by go_num,T2⟩
     case measure=>simp;omega
    ·have hq:(x.toList==y.toList)=false:=by simpa using hxy
     have hf:Hid (res=false):=by
      show _=_
      rw [Bool.eq_false_iff]
      intro q
      have:=prefix_get (HC.out.1 q) fy
      rw [fx] at this
      exact hxy (Option.some.inj this)
     clear hxy fx fy ex ey HC
     go_wp2_with fail
     go_quiet (fail)
     go_wp2
     go_ret
     exact ⟨by rw [hf.out];rfl,Below.drews HB.out (HW.out.more _)⟩
   ·have i2:¬ ((k:Int)<(Y.length:Int)):=by omega
    have ht:Hid (res=true):=by
     show _=_
     rw [HC.out]
     have e:PB.length=k:=by rw [← MY.out,List.length_map];omega
     refine prefix_take ?_
     rw [e,HT.out,List.take_of_length_le (by omega)]
    clear HC
    go_wp2
    go_ret
    exact ⟨by rw [ht.out];rfl,Below.drews HB.out HW.out⟩
theorem join_take {L:List By} {k:Nat} {x:By} (h:L[k]?=some x):joinL (L.take (k+1))=(if k=0 then [] else joinL (L.take k)++[47])++x:=by
 obtain ⟨hk,hx⟩:=List.getElem?_eq_some_iff.1 h
 rw [List.take_add_one,h]
 by_cases e:k=0
 ·subst e;simp [joinL]
 ·rw [if_neg e]
  simp only [Option.toList_some]
  rw [join_append (by rw [ne_eq,List.take_eq_nil_iff];rintro (q | q);exact e q;(subst q;simp at hk)) (by simp),joinL]
  simp
theorem join_take_le {L:List By} {k:Nat} (hk:k≤L.length):(joinL (L.take k)).length≤(joinL L).length:=by
 by_cases e:k=0
 ·subst e;simp [joinL]
 ·by_cases e2:L.drop k=[]
  ·rw [List.drop_eq_nil_iff] at e2
   rw [List.take_of_length_le e2];exact Nat.le_refl _
  ·conv=>rhs;rw [← List.take_append_drop k L]
   rw [join_append (by rw [ne_eq,List.take_eq_nil_iff];rintro (q | q);exact e q;(subst q;simp at e2)) e2]
   simp
theorem size_of_tl {s:ByteArray} {l:By} (h:tl s=l):s.size=l.length:=by rw [← h,jg]
def ofLa (l:By):ByteArray:=⟨l.toArray⟩
theorem tl_ofL (l:By):tl (ofLa l)=l:=by simp [tl,ofLa]
theorem eq_ofL {s:ByteArray} {l:By} (h:tl s=l):s=ofLa l:=ext_of _ _ (by rw [tl_ofL];exact h)
theorem refJoin_any (v:Value) (L:List ByteArray) (w:World) (hL:HasT w v L) (hn:L.length≤1048577) (hs:(joinL (L.map tl)).length≤1048576):
  Calls Tryz.prog 110 #[v] w fun e w'=>e=.returned (.string (ofLa (joinL (L.map tl))))∧w'=w:=by
 have HL:Hid (HasT w v L):=hL
 have HS:Hid ((joinL (L.map tl)).length≤1048576):=hs
 clear hs
 obtain ⟨ao,cap,hv,_⟩:=hL.form
 subst hv
 clear hL
 go_enter Tryz.func110,Tryz.ntmps110
 go_wp2
 go_loop [3,4] (fun x i=>∃ (k:Nat) (s:ByteArray),x=.string s∧i=.int .i64 k∧k≤L.length∧Hid (tl s=joinL ((L.map tl).take k))) (fun _ i=>L.length-iOf i)
 case atStart=>exact ⟨0,_,rfl,rfl,Nat.zero_le _,by show _=_;simp [joinL,tl,ByteArray.toList_eq]⟩
 case round=>
  obtain ⟨k,s,rfl,rfl,hk,HT⟩:=hrel
  have hsz:s.size≤1048576:=by
   rw [size_of_tl HT.out]
   exact Nat.le_trans (join_take_le (by rw [List.length_map];exact hk)) HS.out
  by_cases hlt:k<L.length
  ·have i1:(k:Int)<(L.length:Int):=by omega
   obtain ⟨x,ex,fx⟩:=at_map hlt
   have hjt:=join_take fx
   have hle:=Nat.le_trans (join_take_le (L:=L.map tl) (k:=k+1) (by rw [List.length_map];exact hlt)) HS.out
   rw [hjt] at hle
   have hxs:s.size+1+x.size≤1048578∨k=0∧x.size≤1048576:=by
    rw [size_of_tl HT.out,← jg x]
    by_cases e:k=0
    ·rw [if_pos e] at hle;right;refine ⟨e,?_⟩;simpa using hle
    ·rw [if_neg e] at hle;simp at hle;left;omega
   obtain ⟨a0,_,hva,hca⟩:=HL.out.at ex
   simp at hva
   obtain ⟨rfl,rfl⟩:=hva
   have hxs2:x.size≤1048578:=by omega
   by_cases e:k=0
   ·subst e
    have J:Hid (tl (s++x)=joinL ((L.map tl).take (0+1))):=by
     show _=_
     rw [hjt,if_pos rfl,tl_append,HT.out];simp [joinL]
    have hca0:w.cell? a0=some (.string x):=by rw [show a0=a0.add 0 from by cases a0;simp [Addr.add]];exact hca
    have a1:s.size+x.size≤9223372036854775807:=by omega
    clear hjt hle hxs ex fx hca
    go_wp2
    exact ⟨⟨1,_,rfl,rfl,by omega,J⟩,by simp;omega⟩
   ·have J:Hid (tl (s++⟨#[47]⟩++x)=joinL ((L.map tl).take (k+1))):=by
     show _=_
     rw [hjt,if_neg e,tl_append,tl_append,HT.out];simp [tl,ByteArray.toList_eq]
    have a0':s.size+1≤9223372036854775807:=by omega
    have a1:s.size+1+x.size≤9223372036854775807:=by omega
    have k0:(0:Int)<(k:Int):=by omega
    clear hjt hle hxs ex fx e
    go_wp2
    exact ⟨⟨k+1,_,rfl,rfl,by omega,J⟩,by simp;omega⟩
  ·have i1:¬ ((k:Int)<(L.length:Int)):=by omega
   have J:Hid (tl s=joinL (L.map tl)):=by
    have h:=HT.out
    rw [List.take_of_length_le (by rw [List.length_map];omega)] at h
    exact h
   have J2:Hid (s=ofLa (joinL (L.map tl))):=eq_ofL J.out
   clear J
   go_wp2
   go_ret
   exact ⟨by rw [← J2.out];rfl,rfl⟩
theorem above_pieces {l x:By} {A:List By} (e:cuts l=A++[x]):AboveR l (joinL A) x:=by
 have hno:(47:UInt8) ∉ x:=fun hm=>cuts_no (l:=l) x (by rw [e];simp) 47 hm rfl
 have hj:=congrArg joinL e
 rw [join_cuts] at hj
 by_cases hd:A=[]
 ·subst hd
  have hx:l=x:=hj
  subst hx
  exact .inl ⟨rfl,rfl,hno⟩
 ·rw [join_append hd (by simp),joinL] at hj
  exact .inr ⟨hj,hno⟩
theorem HasT.take {w:World} {ao:Option Addr} {cap m:Nat} {l:List ByteArray} (h:HasT w (.slice ao l.length cap) l) (hm:m<l.length):HasT w (.slice ao m cap) (l.take m):=by
 rcases h with ⟨_,rfl⟩ | ⟨a,c,hv,hc,hcell⟩
 ·simp at hm
 ·simp at hv
  obtain ⟨rfl,rfl⟩:=hv
  refine .inr ⟨a,cap,by simp;omega,by simp;omega,fun i s hi=>hcell i s ?_⟩
  rw [List.getElem?_take] at hi
  split at hi
  ·exact hi
  ·simp at hi
theorem refAbove_any (s:ByteArray) (w:World) (hs:s.size≤1048576):
  Calls Tryz.prog 79 #[.string s] w fun e w'=>(∃ u v:ByteArray,e=.returned (.tuple #[.string u,.string v])∧AboveR (tl s) (tl u) (tl v))∧Below w.heap.size w w':=by
 have CA:=pieces_any s w hs
 have hpl:=pieces_len (tl s)
 rw [jg] at hpl
 go_enter Tryz.func79,Tryz.ntmps79
 go_wp2_with fail
 refine CA.mono ?_
 rintro e w1 ⟨vx,X,rfl,ownX,hX,b1⟩
 have lX:=map_len hX
 have HX:Hid (HasT w1 vx X):=ownX.has
 obtain ⟨xo,cx,hvx,hcx⟩:=HX.out.form
 subst hvx
 have MX:Hid (X.map tl=pieces (tl s)):=hX
 have hx0:X.length≤s.size+1:=by omega
 clear ownX CA hX lX hpl
 by_cases h0:tl s=[]
 ·have e0:X=[]:=by
   have h:=MX.out
   unfold pieces at h
   rw [if_pos h0] at h
   simpa using h
  subst e0
  go_wp2
  go_ret2
  exact ⟨⟨_,_,rfl,.inl ⟨by simp [tl,ByteArray.toList_eq],by rw [h0];simp [tl,ByteArray.toList_eq],by rw [h0];simp⟩⟩,b1⟩
 ·have MC:Hid (X.map tl=cuts (tl s)):=by
   have h:=MX.out
   unfold pieces at h
   rw [if_neg h0] at h
   exact h
  obtain ⟨m,hm⟩:∃ m,X.length=m+1:=⟨(cuts (tl s)).length-1,by rw [map_len MC.out,cuts_len];omega⟩
  obtain ⟨x,ex,fx⟩:=at_map (X:=X) (k:=m) (by omega)
  have hXs:X=X.take m++[x]:=by
   conv=>lhs;rw [← List.take_append_drop m X]
   rw [List.drop_eq_getElem_cons (by omega),List.drop_eq_nil_of_le (by omega)]
   congr 2
   obtain ⟨_,q⟩:=List.getElem?_eq_some_iff.1 ex
   exact q
  have AR:Hid (AboveR (tl s) (joinL ((X.take m).map tl)) (tl x)):=by
   refine above_pieces ?_
   have h:=MC.out
   rw [hXs] at h
   rw [← h];simp
  obtain ⟨a0,_,hva,hca⟩:=HX.out.at ex
  simp at hva
  obtain ⟨rfl,rfl⟩:=hva
  have HM:Hid (HasT w1 (.slice (some a0) m cx) (X.take m)):=HX.out.take (by omega)
  have hjl:(joinL ((X.take m).map tl)).length≤1048576:=by
   rcases AR.out with ⟨q,_⟩ | ⟨q,_⟩
   ·rw [q];simp
   ·have:=congrArg List.length q
    rw [jg] at this
    rw [List.length_append] at this
    omega
  have CJ:=fun W (h:HasT W (.slice (some a0) m cx) (X.take m))=>refJoin_any _ _ W h (by simp;omega) hjl
  have hXl:(X.length:Int)=(m:Int)+1:=by omega
  have hm0:m+1≤cx:=by omega
  have z0:¬ ((m:Int)+1=0):=by omega
  clear hjl ex fx hXs MX MC h0
  have e4:(m:Int)+1-1=m:=by omega
  rw [hm]
  have AR2:Hid (AboveR (tl s) (tl (ofLa (joinL ((X.take m).map tl)))) (tl x)):=by rw [tl_ofL];exact AR.out
  clear AR
  generalize ofLa (joinL ((X.take m).map tl))=jo at *
  go_wp2_with fail
  go_quiet ((go_at_call 110;exact Calls.quiet_of_same (CJ _ (HM.out.drew ⟨_,rfl⟩))))
  go_wp2
  go_ret2
  exact ⟨⟨jo,x,rfl,AR2.out⟩,below_drewN b1 _⟩
theorem above_is {p u v:ByteArray} (h:AboveR (tl p) (tl u) (tl v)):u=upP p∧∀ M n,pieces (tl p)=M++[n]→tl v=n:=by
 have hu:upP p=ofB (joinL (pieces (tl p)).dropLast):=by
  unfold upP pth
  have:((cutN p).dropLast).map tl=((cutN p).map tl).dropLast:=by simp
  rw [this,cutN_tl]
 rw [hu]
 by_cases h0:tl p=[]
 ·rw [h0] at h
  have hn:pieces ([]:By)=[]:=rfl
  rw [h0,hn]
  rcases h with ⟨h1,_,_⟩ | ⟨h1,_⟩
  ·exact ⟨by rw [← ofB_tl u,h1];rfl,fun M n e=>by simp at e⟩
  ·simp at h1
 ·have hp:pieces (tl p)=cuts (tl p):=by unfold pieces;rw [if_neg h0]
  have hne:pieces (tl p)≠[]:=by rw [hp];unfold cuts;simp
  obtain ⟨A,x,e⟩:∃ A x,pieces (tl p)=A++[x]:=⟨_,_,(List.dropLast_concat_getLast hne).symm⟩
  have ha:=above_pieces (by rw [← hp];exact e)
  obtain ⟨e1,e2⟩:=h.one ha
  rw [e,List.dropLast_concat]
  refine ⟨by rw [← ofB_tl u,e1],fun M n k=>?_⟩
  rw [e2]
  have:=List.append_inj' k rfl
  simpa using this.2
theorem isEmpty_no {p:ByteArray} (h:p≠⟨#[]⟩):p.toList.isEmpty=false:=by
 cases e:p.toList with
 | nil=>exact absurd (by rw [← ofB_tl p,show tl p=[] from e];rfl) h
 | cons a b=>rfl
def chkE (O:List Et) (x:Et):Bool:=decide ((fndV (upP x.p) O).kind=1)
theorem treeR_cons (e:Et) (r:List Et):treeR (e::r)=(decide (e.p=⟨#[]⟩)&&r.all (chkE (e::r))):=rfl
theorem ec_kind {w:World} {g o:Nat} {e:Et} (h:Lies w g o (ec e)):w.cell? ⟨g,o+1,none⟩=some (.int .i64 e.v.kind):=ec_lies_val h 0 _ rfl
theorem tree36_any (ao:Option Addr) (cp:Nat) (O:List Et) (w:World) (h:HasE w (.slice ao O.length cp) O) (hn:O.length≤1000000) (hp:∀ e∈O,e.p.size≤1048576):
  Calls Tryz.prog 36 #[.slice ao O.length cp] w fun e w'=>e=.returned (.bool (treeR O))∧G w w':=by
 obtain ⟨n,hn'⟩:∃ n,O.length=n:=⟨_,rfl⟩
 have HA:=hid h
 have HN:=hid hn'
 have HP:=hid hp
 rw [hn'] at hn HA ⊢
 clear h hn' hp
 go_enter Tryz.func36,Tryz.ntmps36
 by_cases h0:n=0
 ·subst h0
  have hO:O=[]:=List.length_eq_zero_iff.1 HN.out
  subst hO
  go_wp2
  go_ret
  exact ⟨rfl,G.refl _⟩
 obtain ⟨e0,r,hO⟩:∃ e0 r,O=e0::r:=by
  cases O with
  | nil=>exact absurd HN.out.symm h0
  | cons a b=>exact ⟨a,b,rfl⟩
 obtain ⟨g,rfl,l0⟩:=HA.out.at (i:=0) (x:=e0) (by rw [hO];rfl)
 have c0:=lies_path l0
 rw [Nat.zero_mul] at c0
 have i0:(0:Int)<(n:Int):=by omega
 have n0:((n:Int)==0)=false:=by rw [beq_eq_false_iff_ne];omega
 have HTR:Hid (treeR O=(decide (e0.p=⟨#[]⟩)&&r.all (chkE O))):=by show _=_;rw [hO];exact treeR_cons e0 r
 have HD:Hid (O.drop 1=r):=by show _=_;rw [hO];rfl
 clear l0 hO
 by_cases hr':e0.p≠⟨#[]⟩
 ·have HE:Hid (treeR O=false):=by show _=_;rw [HTR.out,decide_eq_false hr'];rfl
  have hb:e0.p.toList.isEmpty=false:=isEmpty_no hr'
  go_wp2
  go_ret
  exact ⟨by rw [HE.out];rfl,G.refl _⟩
 have hr:e0.p=⟨#[]⟩:=Classical.byContradiction hr'
 have HT1:Hid (treeR O=(O.drop 1).all (chkE O)):=by show _=_;rw [HTR.out,HD.out,decide_eq_true hr,Bool.true_and]
 rw [hr] at c0
 clear hr hr' HTR HD
 go_wp2
 go_loopg [3] (n-1) (fun gh i wr=>∃ k:Nat,1≤k∧k≤n∧gh=n-k∧i=.int .i64 (k:Int)∧Hid (G w wr)∧Hid (treeR O=(O.drop k).all (chkE O)))
 case atStart=>exact ⟨1,Nat.le_refl _,by omega,rfl,by first | rfl | go_num,G.refl _,HT1⟩
 case round=>
  obtain ⟨k,hk1,hk,rfl,rfl,HG,HR⟩:=hrel
  by_cases hlt:k<n
  ·have i1:(k:Int)<(n:Int):=by omega
   have i2:(0:Int)≤(k:Int):=by omega
   obtain ⟨x,hx⟩:∃ x,O[k]?=some x:=⟨O[k]'(by rw [HN.out];exact hlt),by simp⟩
   obtain ⟨g',e',la⟩:=(HA.out.below HG.out).at hx
   cases e'
   have hd:O.drop k=x::O.drop (k+1):=by
    rw [List.drop_eq_getElem_cons (by rw [HN.out];exact hlt)]
    rw [List.getElem?_eq_getElem (by rw [HN.out];exact hlt)] at hx
    injection hx with hx
    rw [hx]
   have HRX:Hid (treeR O=(chkE O x&&(O.drop (k+1)).all (chkE O))):=by show _=_;rw [HR.out,hd,List.all_cons]
   have hs:=HP.out x (List.mem_of_getElem? hx)
   have hc:=lies_path la
   have CA:=refAbove_any x.p wr hs
   clear hd la HR hx
   go_upto_region 7 with (go_at_call 79;refine CA.mono ?_;rintro e w1 ⟨⟨u,v,rfl,hab⟩,g1⟩;have HU:=hid hab;have H1:=hid (HG.out.trans g1);clear hab g1 CA)
   obtain ⟨rfl,_⟩:=above_is HU.out
   have CF:=find75_any (some ⟨g,0,none⟩) cp O (upP x.p) w1 (by rw [HN.out];exact HA.out.below H1.out) (by rw [HN.out];exact hn)
   rw [HN.out] at CF
   go_upto_region 8 with (go_at_call 75;refine CF.mono ?_;rintro e w2 ⟨rfl,e2⟩;subst e2;clear CF)
   rcases fndV_at (p:=upP x.p) (L:=O) (k:=0) with ⟨h1,h2⟩ | ⟨i,e,h1,h2,h3⟩
   ·have HE:Hid (treeR O=false):=by show _=_;rw [HRX.out];unfold chkE;rw [h2];rfl
    rw [h1]
    clear h1 h2 HRX
    go_wp2
    go_ret
    exact ⟨by rw [HE.out];rfl,H1.out⟩
   ·rw [h2,Nat.zero_add]
    obtain ⟨g',e',le⟩:=(HA.out.below H1.out).at h1
    cases e'
    have hi:i<n:=by rw [← HN.out];exact (List.getElem?_eq_some_iff.1 h1).1
    have j1:¬ ((i:Nat):Int)<0:=by omega
    have j2:(0:Int)≤(i:Int):=by omega
    have j3:(i:Int)<(n:Int):=by omega
    have ck:=ec_kind le
    have HC:Hid (chkE O x=decide (e.v.kind=1)):=by show _=_;unfold chkE;rw [h3]
    clear le h1 h2 h3
    obtain ⟨kd,hkd⟩:∃ kd,e.v.kind=kd:=⟨_,rfl⟩
    rw [hkd] at ck HC
    clear hkd
    by_cases hk1':kd=1
    ·subst hk1'
     have HE:Hid (treeR O=(O.drop (k+1)).all (chkE O)):=by show _=_;rw [HRX.out,HC.out];rfl
     clear HRX HC
     go_wp2
     go_roundg (n-(k+1))
     case measure=>omega
     case rel=>exact ⟨k+1,by omega,by omega,rfl,by go_num,H1,HE⟩
    ·have hb:(kd != 1)=true:=by simpa using hk1'
     have HE:Hid (treeR O=false):=by show _=_;rw [HRX.out,HC.out,decide_eq_false hk1'];rfl
     clear HRX HC
     go_wp2
     go_ret
     exact ⟨by rw [HE.out];rfl,H1.out⟩
  ·obtain rfl:k=n:=by omega
   have i1:¬ ((k:Int)<(k:Int)):=by omega
   have HE:Hid (treeR O=true):=by
    show _=_
    rw [HR.out,List.drop_of_length_le (by rw [HN.out];omega)]
    rfl
   clear HR
   go_wp2
   go_ret
   exact ⟨by rw [HE.out];rfl,HG.out⟩
theorem ec_marks (e:Et):(ec e).extract 36 40=(mx e.m).toArray:=by
 simp only [ec,List.extract_toArray,List.extract_eq_take_drop,List.drop_succ_cons]
 rw [List.drop_append_of_le_length (by simp [jQ]),List.drop_of_length_le (by simp [jQ])]
 simp [mx]
theorem ec_lies_marks {w:World} {g o:Nat} {e:Et} (h:Lies w g o (ec e)):Lies w g (o+36) (mx e.m).toArray:=fun k u hk=>by
 rw [← ec_marks,Array.getElem?_extract] at hk
 split at hk
 ·have:=h (36+k) u hk
  rw [Nat.add_assoc]
  exact this
 ·cases hk
def GNI (w:World) (B:Nat) (n0:ByteArray) (v:Vd) (m:Md) (fs:F) (k:Nat) (W:World):Prop:=∃ u xs T,G w W∧Var W B z30∧Var W (B+1) (nc n0 v m u)∧W.ownsRow (B+2) 30 41 u k xs∧RCells W T fs xs∧
 ∀ b,T b→B+2≤b∧(∃ o:Obj,W.heap[b]?=some o∧o.isCells=true)∧some b≠u.ownBlock
structure GLeft (Wa Wz:World) (B g k:Nat) (n0:ByteArray) (v:Vd) (m:Md) (u':Value) (ys:List Value):Prop where
 os:Wz.os=Wa.os
 tape:Wz.tape=Wa.tape
 output:Wz.output=Wa.output
 size:Wz.heap.size=Wa.heap.size
 block:∀ b,b≠B+1→b≠g→Wz.heap[b]?=Wa.heap[b]?
 var:Var Wz (B+1) (nc n0 v m u')
 row:Wz.ownsRow (B+2) 30 41 u' (k+1) ys
theorem GNI.step {w W W3 Wa Wz:World} {B g k cap:Nat} {n0:ByteArray} {v:Vd} {m:Md} {fs:F} {u:Value} {xs:List Value} {T:Nat→Prop} {xn:ByteArray} {xv:Vd} {xm:Md} {xk:F} {kv:Value}
  (hB:w.heap.size=B) (h1:G w W) (h2:Var W B z30) (h3:Var W (B+1) (nc n0 v m u)) (h4:W.ownsRow (B+2) 30 41 u k xs) (h6:RCells W T fs xs) (h7:∀ b,T b→B+2≤b∧(∃ o:Obj,W.heap[b]?=some o∧o.isCells=true)∧some b≠u.ownBlock)
  (hg3:G W W3) (hk:HasSP W3 (NewC W W3) kv xk) (hga:W3.grownBy Wa u.ownBlock) (hat:u.ownBlock=some g∨W3.heap.size≤g)
  (hL:GLeft Wa Wz B g k n0 v m (.slice (some ⟨g,0,none⟩) (k+1) cap) (xs++(nc xn xv xm kv).toList)):
  Below B W Wz∧GNI w B n0 v m (fs.app (.cons xn xv xm xk .nil)) (k+1) Wz:=by
 have hs1:=h1.size
 have hs3:=hg3.size
 have hsa:=hga.size
 have hlt:=World.ownsRow.lt h4
 have hB1:=h3.lt
 have hgB:B+2≤g:=by
  rcases hat with e | e
  ·exact (hlt g e).1
  ·have:=hB1;omega
 have hsame:∀ b,b<W3.heap.size→b≠B+1→some b≠u.ownBlock→Wz.heap[b]?=W3.heap[b]?:=fun b hb hn hu=>by
  rw [hL.block b hn (fun e=>by
   rcases hat with q | q
   ·exact hu (by rw [e,q])
   ·omega)]
  exact hga.block b hb hu
 have hold:∀ b,b<W.heap.size→b≠B+1→some b≠u.ownBlock→Wz.heap[b]?=W.heap[b]?:=fun b hb hn hu=>(hsame b (by omega) hn hu).trans (Below.block hg3 b hb)
 have hbel:Below B W Wz:=⟨by rw [hL.os,hga.os];exact hg3.os,by rw [hL.tape,hga.tape];exact hg3.tape,by rw [hL.output,hga.output];exact hg3.output,by rw [hL.size];omega,fun b hb=>hold b (by omega) (by omega) fun e=>by have:=(hlt b e.symm).1;omega⟩
 have hnu:∀ b,b<B+2→some b≠u.ownBlock:=fun b hb e=>by have:=(hlt b e.symm).1;omega
 refine ⟨hbel,_,_,fun b=>T b∨NewC W W3 b,Below.trans (B:=w.heap.size) h1 (by rw [hB];exact hbel),(hold B h2.lt (by omega) (hnu B (by omega))).trans h2,hL.var,hL.row,?_,?_⟩
 ·refine RCells.snoc (hk.keep fun b hb=>⟨?_,.inr hb⟩) (h6.keep fun b hb=>⟨?_,.inl hb⟩)
  ·obtain ⟨h8,o,ho,hoc⟩:=hb
   exact hsame b (Array.getElem?_eq_some_iff.1 ho).1 (by omega) fun e=>by have:=(hlt b e.symm).2;omega
  ·obtain ⟨h8,⟨o,ho,hoc⟩,h9⟩:=h7 b hb
   exact hold b (Array.getElem?_eq_some_iff.1 ho).1 (by omega) h9
 ·rintro b (hb | hb)
  ·obtain ⟨h8,⟨o,ho,hoc⟩,h9⟩:=h7 b hb
   have hbl:=(Array.getElem?_eq_some_iff.1 ho).1
   refine ⟨h8,⟨o,(hold b hbl (by omega) h9).trans ho,hoc⟩,fun e=>?_⟩
   obtain rfl:b=g:=by simpa [Value.ownBlock] using e
   rcases hat with q | q
   ·exact h9 q.symm
   ·omega
  ·obtain ⟨h8,o,ho,hoc⟩:=hb
   have hbl:=(Array.getElem?_eq_some_iff.1 ho).1
   have hu:some b≠u.ownBlock:=fun e=>by have:=(hlt b e.symm).2;omega
   refine ⟨by omega,⟨o,(hsame b hbl (by omega) hu).trans ho,hoc⟩,fun e=>?_⟩
   obtain rfl:b=g:=by simpa [Value.ownBlock] using e
   rcases hat with q | q
   ·exact hu q.symm
   ·omega
theorem GNI.start {w W:World} {B:Nat} {n0:ByteArray} {v:Vd} {m:Md} (hG:G w W) (h0:Var W B z30) (h1:Var W (B+1) (nc n0 v m (.slice none 0 0))):GNI w B n0 v m .nil 0 W:=
 ⟨.slice none 0 0,[],fun _=>False,hG,h0,h1,⟨rfl,.inl ⟨rfl,rfl⟩⟩,rfl,fun _ h=>h.elim⟩
theorem GLeft.mk' {Wa:World} {B g k cap:Nat} {n0:ByteArray} {v:Vd} {m:Md} {u:Value} {ys:List Value} (hv:Var Wa (B+1) (nc n0 v m u)) (ho:Wa.ownsRow (B+2) 30 41 (.slice (some ⟨g,0,none⟩) (k+1) cap) (k+1) ys):
  GLeft Wa (Wa.setCell ⟨B+1,40,none⟩ (.slice (some ⟨g,0,none⟩) (k+1) cap)) B g k n0 v m (.slice (some ⟨g,0,none⟩) (k+1) cap) ys:=by
 have hg:B+2≤g:=(World.ownsRow.lt ho g rfl).1
 refine ⟨rfl,rfl,rfl,World.size_setCell ..,fun b hb _=>Below.heap_setCell _ _ _ _ hb,?_,owns_other ho (Below.heap_setCell _ _ _ _ (by show g≠B+1;omega))⟩
 have h:=Var.setCell (w:=Wa) hv 40 (.slice (some ⟨g,0,none⟩) (k+1) cap)
 rw [nc_kset] at h
 exact h
theorem GNI.up {w W W':World} {B k:Nat} {n0:ByteArray} {v:Vd} {m:Md} {fs:F} (h:GNI w B n0 v m fs k W) (hg:G W W'):GNI w B n0 v m fs k W':=by
 obtain ⟨u,xs,T,h1,h2,h3,h4,h6,h7⟩:=h
 refine ⟨u,xs,T,h1.trans hg,h2.grow hg,h3.grow hg,World.ownsRow.kept h4 (Ch.grown_of hg) (by cases hv:u.ownBlock<;>simp),h6.keep fun b hb=>⟨?_,hb⟩,fun b hb=>?_⟩
 ·obtain ⟨_,⟨o,ho,_⟩,_⟩:=h7 b hb
  exact Below.block hg b (Array.getElem?_eq_some_iff.1 ho).1
 ·obtain ⟨a1,⟨o,ho,hoc⟩,a3⟩:=h7 b hb
  exact ⟨a1,⟨o,(Below.block hg b (Array.getElem?_eq_some_iff.1 ho).1).trans ho,hoc⟩,a3⟩
theorem app30_run {W:World} {base k E:Nat} {u:Value} {xs:List Value} {c:Array Value} (hown:W.ownsRow base 30 41 u k xs) (hE:W.heap[E]?=some (.cells c 30 (0,0))) (hc:c.size=41) (h1:c.all (·.oneCell')=true) (hk:k≤100000) (hb:base≤W.heap.size):
  ∃ g cap W',(Builtin.append_ #[28,28] 28 #[u,.slice (some ⟨E,0,none⟩) 1 1]).run Tryz.prog W=.ok (.slice (some ⟨g,0,none⟩) (k+1) cap) W'∧W'.ownsRow base 30 41 (.slice (some ⟨g,0,none⟩) (k+1) cap) (k+1) (xs++c.toList)∧W.grownBy W' u.ownBlock∧(u.ownBlock=some g∨W.heap.size≤g):=by
 obtain ⟨i0,hi,hz0,hz1,hz2⟩:=info_parts info30
 obtain ⟨v',w',hr,h2,h3,_,h5⟩:=run_append_own_at (P:=Tryz.prog) W base 28 28 30 i0 (.agg z30) 41 128 Tryz.underlying28 hi hz0 hz1 hz2 jU (by decide) u k xs hown ⟨E,0,none⟩ 1 1 c.toList (by simpa using hc) (fun j x hj=>by
  rw [Addr.add_mid,Nat.zero_add]
  simp only [World.cell?,hE]
  simpa using hj) (fun x hx=>(Array.all_eq_true_iff_forall_mem.1 h1) x (by simpa using hx)) (by unfold maxLen;omega) (by omega) hb
 obtain ⟨g,cap,rfl⟩:=row_form h2
 refine ⟨g,cap,w',hr,h2,h3,?_⟩
 rcases h5 with h5 | h5
 ·exact .inl h5.symm
 ·have e:g=W.heap.size:=by simpa [Value.ownBlock] using h5
  exact .inr (by omega)
theorem exec_app28 {o:Oper} {a:Act} {s x:Operand} {v src v':Value} {w w':World} (ho:o.op=.call { callee:=.builtin .append,args:=#[s,x],argTypes:=#[28,28] }) (ht:o.type=28) (hs:a.eval s=v) (hx:a.eval x=src) (hr:(Builtin.append_ #[28,28] 28 #[v,src]).run Tryz.prog w=.ok v' w'):(execOp a.eval o).run Tryz.prog w=.ok (.value v') w':=by
 unfold execOp
 simp only [ho,ht,resolve,invoke,builtin,Sem.run_bind,Sem.run_pure,Result.andThen_ok,List.map_toArray,List.map_cons,List.map_nil,hs,hx,hr]
theorem GNI.done {w W:World} {B k:Nat} {n0:ByteArray} {v:Vd} {m:Md} {fs:F} (hk:fs.len=k) (h:GNI w B n0 v m fs k W):∃ c,Var W (B+1) c∧HasNP W (fun b=>B+2≤b∧∃ o:Obj,W.heap[b]?=some o∧o.isCells=true) c n0 v m fs∧G w W∧Var W B z30:=by
 obtain ⟨u,xs,T,h1,h2,h3,h4,h6,h7⟩:=h
 subst hk
 refine ⟨_,h3,⟨u,rfl,?_⟩,h1,h2⟩
 refine RCells.slice (lo:=B+2) (h6.keep fun b hb=>⟨rfl,(h7 b hb).1,(h7 b hb).2.1⟩) h4 fun g hg=>⟨(World.ownsRow.lt h4 g hg).1,?_⟩
 obtain ⟨_,q | ⟨g',cap',cur,hv,_,hh,_⟩⟩:=h4
 ·rw [q.1] at hg;cases hg
 ·rw [hv] at hg
  obtain rfl:g'=g:=by simpa [Value.ownBlock] using hg
  exact ⟨_,hh,rfl⟩
open Ch
def MAg (jb ja:Nat) (w1 w2 wr:World) (_:Unit) (done:Nat→Bool) (w:World):Prop:=w=(if done ja=true then w2 else if done jb=true then w1 else wr.drew)
theorem MAg.step {jb ja:Nat} {w1 w2 wr:World} {r:Unit} {done:Nat→Bool} {w:World} (h:MAg jb ja w1 w2 wr r done w) {j:Nat} (h1:j≠jb) (h2:j≠ja):MAg jb ja w1 w2 wr r (upd done j) w:=by
 unfold MAg at *
 rw [upd_ne done (Ne.symm h1),upd_ne done (Ne.symm h2)]
 exact h
theorem built30n (n0:ByteArray) (v:Vd) (m:Md):Tryz.prog.built 30 [(0,.string n0),(1,.agg (vx v).toArray),(2,.agg (mx m).toArray)]=some (nc n0 v m (.slice none 0 0)):=by
 have hz:∃ z:List Value,(Tryz.prog.info? 30).bind (·.zero)=some (.agg (List.toArray (.string ⟨#[]⟩::(z++[.slice none 0 0]))))∧z.length=39:=⟨vx Vd.zero++mx Md.zero,by kernel_rfl,by kernel_rfl⟩
 obtain ⟨z,hz,hl⟩:=hz
 have hp:(Tryz.prog.fieldsOf 30).toList.mapM (fun f=>(Tryz.prog.info? f.type).map fun i=>(f.offset,i.size))=some [(0,1),(1,35),(36,4),(40,1)]:=by kernel_rfl
 have hu2:Tryz.prog.underlying 30=some (.struct (Tryz.prog.fieldsOf 30)):=by kernel_rfl
 unfold Program.built
 cases hi:Tryz.prog.info? 30 with
 | none=>rw [hi] at hz;cases hz
 | some it=>
  rw [hi] at hz
  simp only [Option.bind_some] at hz
  simp only [hu2,hz,hp]
  show Instr.fill _ (List.toArray _) _=_
  have hx:=jQ v
  have hm:=ji m
  rw [fill_cons _ _ 0 0 1 _ [.string n0] _ rfl rfl rfl (by simp),fill_cons _ _ 1 1 35 _ (vx v) _ rfl rfl hx (by simp [over,hl]),fill_cons _ _ 2 36 4 _ (mx m) _ rfl rfl hm (by simp [over,hx,hl]),Instr.fill]
  simp only [over,nc,hx,hm]
  refine congrArg some (congrArg List.toArray ?_)
  have t1:∀ r:List Value,(vx v++r).take 35=vx v:=fun r=>by
   rw [List.take_append_of_le_length (by omega),List.take_of_length_le (by omega)]
  have t2:((vx v++(z++[Value.slice none 0 0]).drop 35).drop 39)=[Value.slice none 0 0]:=by
   rw [List.drop_append,hx,List.drop_of_length_le (by omega),List.drop_drop,List.nil_append,List.drop_append,hl,List.drop_of_length_le (by omega)]
   rfl
  simp only [List.take_succ_cons,List.take_zero,List.cons_append,List.nil_append,List.drop_succ_cons,List.drop_zero,List.length_cons,List.length_nil,Nat.zero_add,Nat.reduceAdd,t1,t2]
  simp
theorem exec_b30 {o:Oper} {a:Act} (x y z:Operand) (ho:o.op=.build 30 #[(0,x),(1,y),(2,z)]) (n0:ByteArray) (v:Vd) (m:Md) (X Y C:Array Value) (hX:X=(vx v).toArray) (hY:Y=(mx m).toArray) (hC:nc n0 v m (.slice none 0 0)=C) (hx:a.eval x=.string n0) (hy:a.eval y=.agg X) (hz:a.eval z=.agg Y) (w:World):(execOp a.eval o).run Tryz.prog w=.ok (.value (.agg C)) w:=by
 subst hX;subst hY;subst hC
 unfold execOp
 simp only [ho]
 have hmap:(#[(0,x),(1,y),(2,z)].map fun (p:Nat × Operand)=>match p with | (i,x)=>(i,a.eval x))=#[(0,.string n0),(1,.agg (vx v).toArray),(2,.agg (mx m).toArray)]:=by simp [hx,hy,hz]
 rw [hmap]
 have hb:(Instr.build 30 #[(0,.string n0),(1,.agg (vx v).toArray),(2,.agg (mx m).toArray)]).run Tryz.prog w=.ok (.agg (nc n0 v m (.slice none 0 0))) w:=run_build w 30 _ _ (built30n n0 v m)
 simp only [Sem.run_bind,hb,Result.andThen_ok,Sem.run_pure]
noncomputable abbrev o80x1:Array Oper:=opsAt Tryz.f80 1
theorem backGR:backB o80x1=true:=by kernel_rfl
theorem dstGR:dstB o80x1 75=true:=by kernel_rfl
theorem sizeGR:o80x1.size=14:=by kernel_rfl
theorem freeGR0:freeB o80x1 0=true:=by kernel_rfl
theorem freeGR1:freeB o80x1 1=true:=by kernel_rfl
theorem freeGR2:freeB o80x1 2=true:=by kernel_rfl
theorem sGR_0:say o80x1 0=some (some 14,.move (.tmp 2),none):=by kernel_rfl
theorem dGR_0:slotB o80x1 0=some 14:=by kernel_rfl
theorem sGR_1:say o80x1 1=some (some 15,.move (.tmp 0),none):=by kernel_rfl
theorem dGR_1:slotB o80x1 1=some 15:=by kernel_rfl
theorem sGR_2:say o80x1 2=some (some 16,.move (.tmp 1),none):=by kernel_rfl
theorem dGR_2:slotB o80x1 2=some 16:=by kernel_rfl
theorem sGR_3:say o80x1 3=some (some 17,.indexAddr 86 (.tmp 15) (.tmp 16),none):=by kernel_rfl
theorem dGR_3:slotB o80x1 3=some 17:=by kernel_rfl
theorem sGR_4:say o80x1 4=some (some 18,.fieldAddr 91 (.tmp 17) 1,none):=by kernel_rfl
theorem dGR_4:slotB o80x1 4=some 18:=by kernel_rfl
theorem sGR_5:say o80x1 5=some (some 19,.load 24 (.tmp 18),none):=by kernel_rfl
theorem dGR_5:slotB o80x1 5=some 19:=by kernel_rfl
theorem sGR_6:say o80x1 6=some (some 20,.move (.tmp 0),none):=by kernel_rfl
theorem dGR_6:slotB o80x1 6=some 20:=by kernel_rfl
theorem sGR_7:say o80x1 7=some (some 21,.move (.tmp 1),none):=by kernel_rfl
theorem dGR_7:slotB o80x1 7=some 21:=by kernel_rfl
theorem sGR_8:say o80x1 8=some (some 22,.indexAddr 86 (.tmp 20) (.tmp 21),none):=by kernel_rfl
theorem dGR_8:slotB o80x1 8=some 22:=by kernel_rfl
theorem sGR_9:say o80x1 9=some (some 23,.fieldAddr 91 (.tmp 22) 2,none):=by kernel_rfl
theorem dGR_9:slotB o80x1 9=some 23:=by kernel_rfl
theorem sGR_10:say o80x1 10=some (some 24,.load 27 (.tmp 23),none):=by kernel_rfl
theorem dGR_10:slotB o80x1 10=some 24:=by kernel_rfl
theorem sGR_11:say o80x1 11=some (some 25,.build 30 #[(0,.tmp 14),(1,.tmp 19),(2,.tmp 24)],none):=by kernel_rfl
theorem dGR_11:slotB o80x1 11=some 25:=by kernel_rfl
theorem sGR_12:say o80x1 12=some (some 8,.alloc 30,none):=by kernel_rfl
theorem dGR_12:slotB o80x1 12=some 8:=by kernel_rfl
theorem sGR_13:say o80x1 13=some (none,.store 30 (.tmp 8) (.tmp 25),none):=by kernel_rfl
def VGR (g n cp k b:Nat) (n0:ByteArray) (X Y C:Array Value) (_r:Unit):Nat→Value
 | 0=>.string n0
 | 1=>.slice (some ⟨g,0,none⟩) n cp
 | 2=>.int .i64 (k:Int)
 | 3=>.pointer (some ⟨g,k*40,none⟩)
 | 4=>.pointer (some ⟨g,k*40+1,none⟩)
 | 5=>.agg X
 | 6=>.slice (some ⟨g,0,none⟩) n cp
 | 7=>.int .i64 (k:Int)
 | 8=>.pointer (some ⟨g,k*40,none⟩)
 | 9=>.pointer (some ⟨g,k*40+36,none⟩)
 | 10=>.agg Y
 | 11=>.agg C
 | 12=>.pointer (some ⟨b,0,none⟩)
 | 13=>undef
 | _=>undef
theorem regGR (g n cp k b:Nat) (n0:ByteArray) (X Y C:Array Value) (w1 w2:World) (v:Vd) (m:Md) (t0:Array Value) (wr:World) {Q:Exit→Act→World→Prop} (ht:t0.size=75) (h0:t0.getD 0 undef=.slice (some ⟨g,0,none⟩) n cp) (h1:t0.getD 1 undef=.int .i64 (k:Int)) (h2:t0.getD 2 undef=.string n0)
  (kI:(k:Int)<(n:Int)) (k0:(0:Int)≤(k:Int)) (lX:Lies wr g (k*40+1) X) (lY:Lies wr g (k*40+36) Y) (sX:X.size=35) (sY:Y.size=4) (hX:X=(vx v).toArray) (hY:Y=(mx m).toArray) (hC:nc n0 v m (.slice none 0 0)=C) (sC:C.size=41) (oC:C.all (·.oneCell')=true)
  (hD:wr.drew.heap.size=b) (q1:wr.drew.alloc (.cells z30 30)=w1) (q2:w1.setRow b C=w2) (v1:Var w1 b z30) (b0:Below wr.heap.size wr wr.drew) (b1:Below wr.heap.size wr w1) (b2:Below wr.heap.size wr w2)
  (hQ:∀ r,Q .normal ⟨fold o80x1 (VGR g n cp k b n0 X Y C r) t0 14,[]⟩ w2):(Code.region 1 o80x1 true).wp Tryz.prog Q ⟨t0,[]⟩ wr:=by
 have hB:dstB o80x1 t0.size=true:=by rw [ht];exact dstGR
 refine jk (by kernel_rfl) (IE o80x1 (VGR g n cp k b n0 X Y C) t0 (MAg 12 13 w1 w2 wr)) backGR ⟨(),t0,rfl,⟨rfl,fun _ _=>rfl,fun _ _ _ _ _ h=>by cases h⟩,(by show _=_;simp)⟩ ?_ ?_
 rotate_left 1
 ·rintro done a w ⟨r,t,rfl,hS,hM⟩ hall
  rw [hS.end hB hall,sizeGR]
  have a1:=hall 13 (by rw [sizeGR];decide)
  have hw:w=w2:=by rw [hM];simp [a1]
  rw [hw]
  exact hQ r
 ·rintro jz op done a w ho ⟨r,t,rfl,hS,hM⟩ hnd hdep hcl
  have e0:t[0]?.getD undef=.slice (some ⟨g,0,none⟩) n cp:=(hS.old freeGR0).trans h0
  have e1:t[1]?.getD undef=.int .i64 (k:Int):=(hS.old freeGR1).trans h1
  have e2:t[2]?.getD undef=.string n0:=(hS.old freeGR2).trans h2
  have hlt:jz<14:=by rw [← sizeGR];exact (Array.getElem?_eq_some_iff.1 ho).1
  match jz,hlt,ho,hnd,hdep with
  | 0,_,ho,hnd,hdep=>
   obtain ⟨hd,hop,hgd⟩:=jC sGR_0 ho
   refine jK r hB ho (jB hgd) hd hS (hM.step (by decide) (by decide)) ?_
   unfold execOp
   simp only [hop]
   simp [e2,VGR,go_sem]
  | 1,_,ho,hnd,hdep=>
   obtain ⟨hd,hop,hgd⟩:=jC sGR_1 ho
   refine jK r hB ho (jB hgd) hd hS (hM.step (by decide) (by decide)) ?_
   unfold execOp
   simp only [hop]
   simp [e0,VGR,go_sem]
  | 2,_,ho,hnd,hdep=>
   obtain ⟨hd,hop,hgd⟩:=jC sGR_2 ho
   refine jK r hB ho (jB hgd) hd hS (hM.step (by decide) (by decide)) ?_
   unfold execOp
   simp only [hop]
   simp [e1,VGR,go_sem]
  | 3,_,ho,hnd,hdep=>
   obtain ⟨hd,hop,hgd⟩:=jC sGR_3 ho
   have x15:=hS.gt dGR_1 ho hdep
   simp only [VGR] at x15
   have x16:=hS.gt dGR_2 ho hdep
   simp only [VGR] at x16
   refine jK r hB ho (jB hgd) hd hS (hM.step (by decide) (by decide)) ?_
   unfold execOp
   simp only [hop]
   simp [x15,x16,VGR,kI,k0,Ch.addr_add,go_sem]
  | 4,_,ho,hnd,hdep=>
   obtain ⟨hd,hop,hgd⟩:=jC sGR_4 ho
   have x17:=hS.gt dGR_3 ho hdep
   simp only [VGR] at x17
   refine jK r hB ho (jB hgd) hd hS (hM.step (by decide) (by decide)) ?_
   unfold execOp
   simp only [hop]
   simp [x17,VGR,Ch.addr_add,go_sem]
  | 5,_,ho,hnd,hdep=>
   obtain ⟨hd,hop,hgd⟩:=jC sGR_5 ho
   have x18:=hS.gt dGR_4 ho hdep
   simp only [VGR] at x18
   have hb:Below wr.heap.size wr w:=by
    rw [hM]
    split
    ·exact b2
    ·split
     ·exact b1
     ·exact b0
   refine jK r hB ho (jB hgd) hd hS (hM.step (by decide) (by decide)) ?_
   exact jE (a:=⟨t,[]⟩) _ hop g (k*40+1) (by show t.getD 18 undef=_;rw [Array.getD_eq_getD_getElem?];exact x18) X sX (lX.below hb)
  | 6,_,ho,hnd,hdep=>
   obtain ⟨hd,hop,hgd⟩:=jC sGR_6 ho
   refine jK r hB ho (jB hgd) hd hS (hM.step (by decide) (by decide)) ?_
   unfold execOp
   simp only [hop]
   simp [e0,VGR,go_sem]
  | 7,_,ho,hnd,hdep=>
   obtain ⟨hd,hop,hgd⟩:=jC sGR_7 ho
   refine jK r hB ho (jB hgd) hd hS (hM.step (by decide) (by decide)) ?_
   unfold execOp
   simp only [hop]
   simp [e1,VGR,go_sem]
  | 8,_,ho,hnd,hdep=>
   obtain ⟨hd,hop,hgd⟩:=jC sGR_8 ho
   have x20:=hS.gt dGR_6 ho hdep
   simp only [VGR] at x20
   have x21:=hS.gt dGR_7 ho hdep
   simp only [VGR] at x21
   refine jK r hB ho (jB hgd) hd hS (hM.step (by decide) (by decide)) ?_
   unfold execOp
   simp only [hop]
   simp [x20,x21,VGR,kI,k0,Ch.addr_add,go_sem]
  | 9,_,ho,hnd,hdep=>
   obtain ⟨hd,hop,hgd⟩:=jC sGR_9 ho
   have x22:=hS.gt dGR_8 ho hdep
   simp only [VGR] at x22
   refine jK r hB ho (jB hgd) hd hS (hM.step (by decide) (by decide)) ?_
   unfold execOp
   simp only [hop]
   simp [x22,VGR,Ch.addr_add,go_sem]
  | 10,_,ho,hnd,hdep=>
   obtain ⟨hd,hop,hgd⟩:=jC sGR_10 ho
   have x23:=hS.gt dGR_9 ho hdep
   simp only [VGR] at x23
   have hb:Below wr.heap.size wr w:=by
    rw [hM]
    split
    ·exact b2
    ·split
     ·exact b1
     ·exact b0
   refine jK r hB ho (jB hgd) hd hS (hM.step (by decide) (by decide)) ?_
   exact jO (a:=⟨t,[]⟩) _ hop g (k*40+36) (by show t.getD 23 undef=_;rw [Array.getD_eq_getD_getElem?];exact x23) Y sY (lY.below hb)
  | 11,_,ho,hnd,hdep=>
   obtain ⟨hd,hop,hgd⟩:=jC sGR_11 ho
   have x14:=hS.gt dGR_0 ho hdep
   simp only [VGR] at x14
   have x19:=hS.gt dGR_5 ho hdep
   simp only [VGR] at x19
   have x24:=hS.gt dGR_10 ho hdep
   simp only [VGR] at x24
   refine jK r hB ho (jB hgd) hd hS (hM.step (by decide) (by decide)) ?_
   exact exec_b30 _ _ _ hop n0 v m X Y C hX hY hC (by show t.getD 14 undef=_;rw [Array.getD_eq_getD_getElem?];exact x14) (by show t.getD 19 undef=_;rw [Array.getD_eq_getD_getElem?];exact x19) (by show t.getD 24 undef=_;rw [Array.getD_eq_getD_getElem?];exact x24) _
  | 12,_,ho,hnd,hdep=>
   obtain ⟨hd,hop,hgd⟩:=jC sGR_12 ho
   have ny13:done 13=false:=jM (k:=12) (j:=13) (by kernel_rfl) hcl hnd
   have hw0:w=wr.drew:=by rw [hM];simp [hnd,ny13]
   subst hw0
   refine jK (w':=w1) r hB ho (jB hgd) hd hS (by show _=_;simp [upd,ny13]) ?_
   rw [← q1]
   exact jf hop _ b hD
  | 13,_,ho,hnd,hdep=>
   obtain ⟨hd,hop,hgd⟩:=jC sGR_13 ho
   have x8:=hS.gt dGR_12 ho hdep
   simp only [VGR] at x8
   have x25:=hS.gt dGR_11 ho hdep
   simp only [VGR] at x25
   have a12:done 12=true:=waits (j:=12) (by kernel_rfl) ho hdep
   have hw0:w=w1:=by rw [hM];simp [hnd,a12]
   subst hw0
   refine ie_store (w':=w2) r ho (jB hgd) hd hS (by show _=_;simp [upd]) ?_
   rw [← q2]
   exact jX (a:=⟨t,[]⟩) _ _ hop b C z30 (by show t.getD 8 undef=_;rw [Array.getD_eq_getD_getElem?];exact x8) (by show t.getD 25 undef=_;rw [Array.getD_eq_getD_getElem?];exact x25) _ v1 sC jU oC
theorem foldGR (g n cp k b:Nat) (n0:ByteArray) (X Y C:Array Value) (r:Unit) (t0:Array Value):fold o80x1 (VGR g n cp k b n0 X Y C r) t0 14=(((((((((((((t0.setIfInBounds 14 (.string n0)).setIfInBounds 15 (.slice (some ⟨g,0,none⟩) n cp)).setIfInBounds 16 (.int .i64 (k:Int))).setIfInBounds 17 (.pointer (some ⟨g,k*40,none⟩))).setIfInBounds 18 (.pointer (some ⟨g,k*40+1,none⟩))).setIfInBounds 19 (.agg X)).setIfInBounds 20 (.slice (some ⟨g,0,none⟩) n cp)).setIfInBounds 21 (.int .i64 (k:Int))).setIfInBounds 22 (.pointer (some ⟨g,k*40,none⟩))).setIfInBounds 23 (.pointer (some ⟨g,k*40+36,none⟩))).setIfInBounds 24 (.agg Y)).setIfInBounds 25 (.agg C)).setIfInBounds 8 (.pointer (some ⟨b,0,none⟩))):=by kernel_rfl
end Go.Proofs.YthfcanpkhjgomaaGreat
