import Derived.Test.YthfcanpkhjgomaaGreatProg
import Derived.WalkSpells
import Derived.WalkLawsBesides
import Derived.RangeFuncNested
import Derived.RangeFuncBound
import Derived.LoopNIn
import Derived.LoopIn
import Derived.Maps.OwnIn
import Derived.Shelf.RegionOpen
import Derived.Lib.Bytealg
import Derived.Deep.RegionWith
set_option maxRecDepth 100000
set_option maxHeartbeats 2000000
namespace Go.Proofs.YthfcanpkhjgomaaGreat
open Go
abbrev By:=List UInt8
def rank (x:UInt8):Int:=if x=47 then -1 else (x.toNat:Int)
theorem rank_inj {x y:UInt8} (h:rank x=rank y):x=y:=by
 unfold rank at h
 split at h<;>split at h
 ·simp_all
 ·have:=y.toNat_lt;omega
 ·have:=x.toNat_lt;omega
 ·exact UInt8.toNat_inj.1 (by omega)
theorem rank_lo {x:UInt8} (h:x≠47):rank (47:UInt8)<rank x:=by
 unfold rank
 rw [if_pos rfl,if_neg h]
 omega
def cmpL:By→By→Int
 | [],[]=>0
 | [],_::_=>-1
 | _::_,[]=>1
 | x::xs,y::ys=>if x=y then cmpL xs ys else if rank x<rank y then -1 else 1
theorem cmpL_self:∀ a:By,cmpL a a=0
 | []=>rfl
 | x::xs=>by rw [cmpL,if_pos rfl];exact cmpL_self xs
theorem cmpL_neg:∀ a b:By,cmpL b a=- cmpL a b
 | [],[]=>by simp [cmpL]
 | [],_::_=>by simp [cmpL]
 | _::_,[]=>by simp [cmpL]
 | x::xs,y::ys=>by
  rw [cmpL,cmpL]
  by_cases h:x=y
  ·rw [if_pos h,if_pos h.symm];exact cmpL_neg xs ys
  ·rw [if_neg h,if_neg (fun e=>h e.symm)]
   have:rank x≠rank y:=fun e=>h (rank_inj e)
   split<;>split<;>omega
theorem cmpL_zero:∀ a b:By,cmpL a b=0↔a=b
 | [],[]=>by simp [cmpL]
 | [],_::_=>by simp [cmpL]
 | _::_,[]=>by simp [cmpL]
 | x::xs,y::ys=>by
  rw [cmpL]
  by_cases h:x=y
  ·rw [if_pos h,cmpL_zero xs ys];simp [h]
  ·rw [if_neg h]
   constructor
   ·intro e;split at e<;>omega
   ·intro e;simp at e;exact absurd e.1 h
theorem cmpL_trans:∀ a b c:By,cmpL a b≤0→cmpL b c≤0→cmpL a c≤0
 | [],b,[]=>by simp [cmpL]
 | [],b,_::_=>by simp [cmpL]
 | _::_,[],c=>by simp [cmpL]
 | _::_,_::_,[]=>by simp [cmpL]
 | x::xs,y::ys,z::zs=>by
  have ih:=cmpL_trans xs ys zs
  rw [cmpL,cmpL,cmpL]
  by_cases h:x=y
  ·subst h
   rw [if_pos rfl]
   by_cases h2:x=z
   ·rw [if_pos h2,if_pos h2];exact ih
   ·rw [if_neg h2,if_neg h2];intro _ h;exact h
  ·rw [if_neg h]
   by_cases h2:y=z
   ·subst h2
    rw [if_pos rfl,if_neg h];intro h _;exact h
   ·rw [if_neg h2]
    intro h3 h4
    have h5:rank x<rank y:=by by_cases q:rank x<rank y;exact q;rw [if_neg q] at h3;omega
    have h6:rank y<rank z:=by by_cases q:rank y<rank z;exact q;rw [if_neg q] at h4;omega
    have h7:x≠z:=fun e=>by subst e;omega
    rw [if_neg h7,if_pos (by omega)]
    omega
def underL (p root:By):Prop:=root=[]∨p=root∨∃ r,p=root++47::r
def cut:By→By × List By
 | []=>([],[])
 | x::xs=>if x=47 then ([],(cut xs).1::(cut xs).2) else (x::(cut xs).1,(cut xs).2)
def cuts (l:By):List By:=(cut l).1::(cut l).2
def pieces (l:By):List By:=if l=[] then [] else cuts l
def joinL:List By→By
 | []=>[]
 | [x]=>x
 | x::y::t=>x++47::joinL (y::t)
theorem join_cuts:∀ l:By,joinL (cuts l)=l
 | []=>rfl
 | x::xs=>by
  have ih:=join_cuts xs
  unfold cuts at ih ⊢
  rw [cut]
  by_cases h:x=47
  ·rw [if_pos h];subst h;simp only [joinL,List.nil_append];rw [ih]
  ·rw [if_neg h]
   simp only
   revert ih
   cases (cut xs).2 with
   | nil=>intro ih;simp only [joinL] at ih ⊢;rw [ih]
   | cons y t=>intro ih;simp only [joinL,List.cons_append] at ih ⊢;rw [ih]
theorem cuts_none {l:By} (h:∀ x∈l,x≠47):cut l=(l,[]):=by
 induction l with
 | nil=>rfl
 | cons x xs ih=>rw [cut,if_neg (h x (by simp)),ih (fun y hy=>h y (by simp [hy]))]
theorem cut_at {l r:By} (h:∀ x∈l,x≠47):cut (l++47::r)=(l,cuts r):=by
 induction l with
 | nil=>rw [List.nil_append,cut,if_pos rfl];rfl
 | cons x xs ih=>rw [List.cons_append,cut,if_neg (h x (by simp)),ih (fun y hy=>h y (by simp [hy]))]
theorem cuts_join:∀ {l:List By},l≠[]→(∀ p∈l,∀ x∈p,x≠47)→cuts (joinL l)=l
 | [],h,_=>absurd rfl h
 | [x],_,h=>by rw [joinL,cuts,cuts_none (h x (by simp))]
 | x::y::t,_,h=>by
  rw [joinL,cuts,cut_at (h x (by simp)),cuts_join (by simp) (fun p hp=>h p (by simp at hp ⊢;exact .inr hp))]
theorem cut_no:∀ (l:By),(∀ x∈(cut l).1,x≠47)∧∀ p∈(cut l).2,∀ x∈p,x≠47
 | []=>by simp [cut]
 | x::xs=>by
  have ⟨i1,i2⟩:=cut_no xs
  rw [cut]
  by_cases h:x=47
  ·rw [if_pos h]
   refine ⟨by simp,fun p hp=>?_⟩
   simp only [List.mem_cons] at hp
   rcases hp with rfl | hp
   ·exact i1
   ·exact i2 p hp
  ·rw [if_neg h]
   refine ⟨fun y hy=>?_,i2⟩
   simp only [List.mem_cons] at hy
   rcases hy with rfl | hy
   ·exact h
   ·exact i1 y hy
theorem cuts_no {l:By}:∀ p∈cuts l,∀ x∈p,x≠47:=by
 intro p hp
 simp only [cuts,List.mem_cons] at hp
 rcases hp with rfl | hp
 ·exact (cut_no l).1
 ·exact (cut_no l).2 p hp
theorem cut_len:∀ l:By,(cut l).2.length=l.count 47
 | []=>rfl
 | x::xs=>by
  rw [cut,List.count_cons]
  by_cases h:x=47
  ·rw [if_pos h,if_pos (by simp [h])];simp [cut_len xs]
  ·rw [if_neg h,if_neg (by simp [h])];simp [cut_len xs]
theorem cuts_len (l:By):(cuts l).length=l.count 47+1:=by
 rw [cuts,List.length_cons,cut_len]
theorem decode_skip (s:ByteArray) (pos k:Nat) (h1:pos<k) (h2:k<pos+(Utf8.decode s pos).2):k<s.size∧128≤(s.get! k).toNat:=by
  have key:∀ j,pos+j<s.size→(s.get! (pos+j)).toNat/64=2→k=pos+j→k<s.size∧128≤(s.get! k).toNat:=by
    rintro j a b rfl;exact ⟨a,by omega⟩
  revert h2
  simp only [Utf8.decode,Bool.and_eq_true,beq_iff_eq,decide_eq_true_eq]
  repeat' split
  all_goals intro h2
  all_goals simp only at h2
  all_goals first
    | omega
    | (rename_i c _;exact key 1 c.2.1 c.2.2 (by omega))
    | (rename_i c _
       by_cases e:k=pos+1
       · exact key 1 c.1.2.1 c.1.2.2 e
       · exact key 2 c.2.1 c.2.2 (by omega))
    | (rename_i c _
       by_cases e:k=pos+1
       · exact key 1 c.1.1.2.1 c.1.1.2.2 e
       · by_cases e:k=pos+2
         · exact key 2 c.1.2.1 c.1.2.2 e
         · exact key 3 c.2.1 c.2.2 (by omega))
theorem decode_small (s:ByteArray) (pos:Nat) (h:pos<s.size) (c:Nat) (hc:c<128):(Utf8.decode s pos).1=c↔(s.get! pos).toNat=c:=by
  have e:s.get! pos=s[pos]'h:=get_at s pos h
  by_cases ha:(s[pos]'h).toNat<128
  · rw [decode_ascii s pos h ha,e]
  · have:=(decode_high s pos h (by omega)).1
    rw [e];omega
theorem decode_wide (s:ByteArray) (pos:Nat) (h:pos<s.size):1≤(Utf8.decode s pos).2:=by
  by_cases ha:(s[pos]'h).toNat<128
  · rw [decode_ascii s pos h ha];exact Nat.le_refl _
  · exact (decode_high s pos h (by omega)).2
theorem decode_in (s:ByteArray) (pos:Nat) (h:pos<s.size):pos+(Utf8.decode s pos).2≤s.size:=by
  have h1:=decode_wide s pos h
  by_cases e:(Utf8.decode s pos).2=1
  · omega
  · have:=(decode_skip s pos (pos+(Utf8.decode s pos).2-1) (by omega) (by omega)).1
    omega
theorem decode_one (s:ByteArray) (pos:Nat) (h:pos<s.size) (ha:(s.get! pos).toNat<128):(Utf8.decode s pos).2=1:=by
  rw [decode_ascii s pos h (by rw [← get_at s pos h];exact ha)]
abbrev tl (s:ByteArray):By:=s.toList
theorem jg (s:ByteArray):(tl s).length=s.size:=by simp [tl,ByteArray.toList_eq]
theorem tl_at (s:ByteArray) (k:Nat) (h:k<s.size):(tl s)[k]?=some (s[k]'h):=by
  rw [tl,ByteArray.toList_eq,List.getElem?_eq_some_iff]
  exact ⟨by simpa using h,by simp [ByteArray.getElem_eq_getElem_data]⟩
theorem tl_get (s:ByteArray) (k:Nat) (h:k<s.size):(tl s)[k]?=some (s.get! k):=by
  have:s.get! k=s[k]'h:=get_at s k h
  rw [this];exact tl_at s k h
theorem tl_mem {s:ByteArray} {x:UInt8} (h:x∈tl s):∃ k,∃ h:k<s.size,s[k]'h=x:=by
  obtain ⟨k,hk,e⟩:=List.mem_iff_getElem.1 h
  have hk':k<s.size:=by rw [jg] at hk;exact hk
  refine ⟨k,hk',?_⟩
  have:=tl_at s k hk'
  rw [List.getElem?_eq_getElem hk] at this
  rw [← Option.some.inj this,e]
theorem tl_in (s:ByteArray) (k:Nat) (h:k<s.size):s[k]'h∈tl s:=List.mem_of_getElem? (tl_at s k h)
theorem decode_none (s:ByteArray) (pos c:Nat) (h:pos<s.size) (hc:c<128) (hn:(Utf8.decode s pos).1≠c):∀ k,pos≤k→k<pos+(Utf8.decode s pos).2→(s.get! k).toNat≠c:=by
  intro k h1 h2 e
  by_cases h3:k=pos
  · subst h3;exact hn ((decode_small s k h c hc).2 e)
  · have:=(decode_skip s pos k (by omega) h2).2;omega
def nameB (l:By):Bool:=decide (1≤l.length∧l.length≤255∧l≠[46]∧l≠[46,46]∧∀ x∈l,x≠47∧x≠0)
def belowL:By→By→Bool
  | [],[]=>false
  | [],_::_=>true
  | _::_,[]=>false
  | x::xs,y::ys=>if x=y then belowL xs ys else decide (x.toNat<y.toNat)
def cmpP:List By→List By→Int
  | [],[]=>0
  | [],_::_=>-1
  | _::_,[]=>1
  | x::xs,y::ys=>if belowL x y then -1 else if belowL y x then 1 else cmpP xs ys
theorem belowL_cons (x:UInt8) (a b:By):belowL (x::a) (x::b)=belowL a b:=by rw [belowL,if_pos rfl]
theorem cmpP_cuts:∀ a b:By,cmpP (cuts a) (cuts b)=cmpL a b
  | [],[]=>by simp [cuts,cut,cmpP,belowL,cmpL]
  | [],y::ys=>by
    rw [cmpL]
    by_cases h:y=47
    · subst h;simp [cuts,cut,cmpP,belowL]
    · simp [cuts,cut,h,cmpP,belowL]
  | x::xs,[]=>by
    rw [cmpL]
    by_cases h:x=47
    · subst h;simp [cuts,cut,cmpP,belowL]
    · simp [cuts,cut,h,cmpP,belowL]
  | x::xs,y::ys=>by
    have ih:=cmpP_cuts xs ys
    rw [cmpL]
    by_cases e:x=y
    · subst e
      rw [if_pos rfl,← ih]
      by_cases h:x=47
      · subst h;simp [cuts,cut,cmpP,belowL]
      · simp [cuts,cut,h,cmpP,belowL_cons]
    · rw [if_neg e]
      by_cases hx:x=47
      · subst hx
        have e':¬ y=47:=fun q=>e q.symm
        rw [if_pos (rank_lo e')]
        simp [cuts,cut,e',cmpP,belowL]
      · by_cases hy:y=47
        · subst hy
          have:=rank_lo hx
          rw [if_neg (by omega)]
          simp [cuts,cut,hx,cmpP,belowL]
        · have hr:rank x=(x.toNat:Int):=by rw [rank,if_neg hx]
          have hs:rank y=(y.toNat:Int):=by rw [rank,if_neg hy]
          have hne:x.toNat≠y.toNat:=fun q=>e (UInt8.toNat_inj.1 q)
          rw [hr,hs]
          have b1:∀ p q:By,belowL (x::p) (y::q)=decide (x.toNat<y.toNat):=fun p q=>by rw [belowL,if_neg e]
          have b2:∀ p q:By,belowL (y::q) (x::p)=decide (y.toNat<x.toNat):=fun p q=>by rw [belowL,if_neg (fun q=>e q.symm)]
          simp only [cuts,cut,hx,hy,if_false,cmpP,b1,b2,decide_eq_true_eq]
          by_cases q:x.toNat<y.toNat
          · rw [if_pos q,if_pos (by omega)]
          · rw [if_neg q,if_pos (by omega),if_neg (by omega)]
theorem cmpP_pieces (a b:By):cmpP (pieces a) (pieces b)=cmpL a b:=by
  unfold pieces
  cases a with
  | nil=>cases b with
    | nil=>rfl
    | cons y ys=>rfl
  | cons x xs=>cases b with
    | nil=>rfl
    | cons y ys=>simp only [reduceCtorEq,if_false];exact cmpP_cuts _ _
def cmpI (x y:Int):Int:=if x<y then -1 else if y<x then 1 else 0
theorem take_more {α:Type} {a b:List α} {k:Nat} {x:α} (h:a.take k=b.take k) (ha:a[k]?=some x) (hb:b[k]?=some x):a.take (k+1)=b.take (k+1):=by
 rw [List.take_add_one,List.take_add_one,h,ha,hb]
theorem cmpL_at:∀ (k:Nat) (a b:By) (x y:UInt8),a.take k=b.take k→a[k]?=some x→b[k]?=some y→x≠y→cmpL a b=cmpI (rank x) (rank y)
 | 0,a,b,x,y,_,ha,hb,hn=>by
  cases a with
  | nil=>simp at ha
  | cons a0 a=>cases b with
   | nil=>simp at hb
   | cons b0 b=>
    simp at ha hb
    subst ha hb
    rw [cmpL,if_neg hn,cmpI]
    have:rank a0≠rank b0:=fun e=>hn (rank_inj e)
    by_cases h:rank a0<rank b0
    ·rw [if_pos h,if_pos h]
    ·rw [if_neg h,if_neg h,if_pos (by omega)]
 | k+1,a,b,x,y,h,ha,hb,hn=>by
  cases a with
  | nil=>simp at ha
  | cons a0 a=>cases b with
   | nil=>simp at hb
   | cons b0 b=>
    simp at h ha hb
    rw [cmpL,if_pos h.1]
    exact cmpL_at k a b x y h.2 ha hb hn
theorem cmpL_len:∀ (k:Nat) (a b:By),k=min a.length b.length→a.take k=b.take k→cmpL a b=cmpI a.length b.length
 | 0,a,b,hk,_=>by
  cases a with
  | nil=>cases b with
   | nil=>rfl
   | cons b0 b=>rw [cmpL,cmpI,if_pos (by simp)]
  | cons a0 a=>cases b with
   | nil=>rw [cmpL,cmpI,if_neg (by simp;omega),if_pos (by simp)]
   | cons b0 b=>simp at hk
 | k+1,a,b,hk,h=>by
  cases a with
  | nil=>simp at hk
  | cons a0 a=>cases b with
   | nil=>simp at hk
   | cons b0 b=>
    simp at h
    rw [cmpL,if_pos h.1,cmpL_len k a b (by simp at hk;omega) h.2]
    simp only [cmpI,List.length_cons]
    repeat' split
    all_goals omega
theorem belowL_at:∀ (k:Nat) (a b:By) (x y:UInt8),a.take k=b.take k→a[k]?=some x→b[k]?=some y→x≠y→belowL a b=decide ((x.toNat:Int)<(y.toNat:Int))
 | 0,a,b,x,y,_,ha,hb,hn=>by
  cases a with
  | nil=>simp at ha
  | cons a0 a=>cases b with
   | nil=>simp at hb
   | cons b0 b=>
    simp at ha hb
    subst ha hb
    rw [belowL,if_neg hn]
    simp
 | k+1,a,b,x,y,h,ha,hb,hn=>by
  cases a with
  | nil=>simp at ha
  | cons a0 a=>cases b with
   | nil=>simp at hb
   | cons b0 b=>
    simp at h ha hb
    rw [belowL,if_pos h.1]
    exact belowL_at k a b x y h.2 ha hb hn
theorem belowL_len:∀ (k:Nat) (a b:By),k=min a.length b.length→a.take k=b.take k→belowL a b=decide ((a.length:Int)<(b.length:Int))
 | 0,a,b,hk,_=>by
  cases a with
  | nil=>cases b with
   | nil=>rfl
   | cons b0 b=>rw [belowL];simp
  | cons a0 a=>cases b with
   | nil=>rw [belowL];simp;omega
   | cons b0 b=>simp at hk
 | k+1,a,b,hk,h=>by
  cases a with
  | nil=>simp at hk
  | cons a0 a=>cases b with
   | nil=>simp at hk
   | cons b0 b=>
    simp at h
    rw [belowL,if_pos h.1,belowL_len k a b (by simp at hk;omega) h.2]
    simp
theorem ext_of (s t:ByteArray) (h:tl s=tl t):s=t:=by
 have:s.data.toList=t.data.toList:=by rw [← ByteArray.toList_eq,← ByteArray.toList_eq];exact h
 cases s;cases t;congr;exact Array.toList_inj.1 this
theorem tl_extract (s:ByteArray) (a b:Nat):tl (s.extract a b)=((tl s).drop a).take (b-a):=by
 rw [tl,Lib.extract_toList,tl,ByteArray.toList_eq]
theorem tl_append (s t:ByteArray):tl (s++t)=tl s++tl t:=by
 simp only [tl,ByteArray.toList_eq]
 rw [ByteArray.data_append,Array.toList_append]
end Go.Proofs.YthfcanpkhjgomaaGreat
namespace Go.Proofs.YthfcanpkhjgomaaGreat
open Go.RowKit
def iOf (v:Value):Nat:=match v with | .int _ i=>i.toNat | _=>0
@[simp] theorem iOf_int (k:IntKind) (i:Int):iOf (.int k i)=i.toNat:=rfl
def Hid (p:Prop):Prop:=p
theorem Hid.out {p:Prop} (h:Hid p):p:=h
def Drew (w w':World):Prop:=∃ n,w'=w.drewN n
theorem Drew.refl (w:World):Drew w w:=⟨0,rfl⟩
theorem Drew.more {w w':World} (h:Drew w w') (n:Nat):Drew w (w'.drewN n):=by
 obtain ⟨m,rfl⟩:=h
 exact ⟨m+n,by rw [World.drewN_drewN]⟩
theorem Drew.trans {w w' w'':World} (h:Drew w w') (k:Drew w' w''):Drew w w'':=by
 obtain ⟨n,rfl⟩:=k
 exact h.more n
theorem Drew.heap {w w':World} (h:Drew w w'):w'.heap=w.heap:=by
 obtain ⟨n,rfl⟩:=h
 simp
theorem Drew.cell {w w':World} (h:Drew w w') (p:Addr):w'.cell? p=w.cell? p:=by
 obtain ⟨n,rfl⟩:=h
 simp
theorem Drew.below {w w':World} (h:Drew w w'):Below w.heap.size w w':=by
 obtain ⟨n,rfl⟩:=h
 exact below_drewN (Below.refl _ w) n
theorem Tryz.info9:(Tryz.prog.info? 9).map (fun i=>(i.zero,i.size,i.bytes))=some (some (.string ⟨#[]⟩),1,16):=by kernel_rfl
def HasT (w:World) (v:Value) (L:List ByteArray):Prop:=
 (v=.slice none 0 0∧L=[])∨∃ a cap,v=.slice (some a) L.length cap∧L.length≤cap∧∀ i s,L[i]?=some s→w.cell? (a.add i)=some (.string s)
def OwnsT (w:World) (lo:Nat) (v:Value) (L:List ByteArray):Prop:=w.ownsRow lo 9 1 v L.length (L.map Value.string)
theorem OwnsT.has {w:World} {lo:Nat} {v:Value} {l:List ByteArray} (h:OwnsT w lo v l):HasT w v l:=by
 have h0:=h
 obtain ⟨_,h | ⟨g,cap,cur,hv,hg,hh,hn,hm,hs,ht⟩⟩:=h
 ·obtain ⟨rfl,hl⟩:=h
  exact .inl ⟨rfl,List.length_eq_zero_iff.1 hl⟩
 ·subst hv
  refine .inr ⟨_,cap,rfl,hn,fun i s hi=>?_⟩
  have:=World.ownsRow.cells h0 (g:=g) rfl i (.string s) (by simp [hi])
  exact this
theorem OwnsT.nil (w:World) (lo:Nat):OwnsT w lo (.slice none 0 0) []:=World.ownsRow_nil _ _ _ _
theorem OwnsT.lt {w:World} {lo:Nat} {v:Value} {l:List ByteArray} (h:OwnsT w lo v l):∀ k,v.ownBlock=some k→lo≤k∧k<w.heap.size:=World.ownsRow.lt h
theorem OwnsT.mono {w:World} {lo lo':Nat} {v:Value} {l:List ByteArray} (h:OwnsT w lo v l) (hl:lo'≤lo):OwnsT w lo' v l:=by
 obtain ⟨h1,h | ⟨g,cap,cur,hv,hg,hr⟩⟩:=h
 ·exact ⟨h1,.inl h⟩
 ·exact ⟨h1,.inr ⟨g,cap,cur,hv,Nat.le_trans hl hg,hr⟩⟩
theorem HasT.block {w w':World} {v:Value} {l:List ByteArray} (h:HasT w v l) (hb:∀ a:Addr,a.block<w.heap.size→w'.cell? a=w.cell? a):HasT w' v l:=by
 rcases h with h | ⟨a,cap,hv,hc,h⟩
 ·exact .inl h
 ·refine .inr ⟨a,cap,hv,hc,fun i s hi=>?_⟩
  have h1:=h i s hi
  rw [hb _ (World.block_lt_of_cell? w _ h1)]
  exact h1
theorem HasT.below {w w':World} {v:Value} {l:List ByteArray} (h:HasT w v l) (hb:Below w.heap.size w w'):HasT w' v l:=
 h.block fun _ ha=>hb.cell ha
theorem HasT.drew {w w':World} {v:Value} {l:List ByteArray} (h:HasT w v l) (hb:Drew w w'):HasT w' v l:=h.below hb.below
theorem Below.up {w w1 w2:World} (h:Below w.heap.size w w1) (k:Below w1.heap.size w1 w2):Below w.heap.size w w2:=h.trans (k.mono h.size)
theorem Below.drews {w w1 w2:World} {B:Nat} (h:Below B w w1) (k:Drew w1 w2):Below B w w2:=by
 obtain ⟨n,rfl⟩:=k
 exact below_drewN h n
theorem HasT.form {w:World} {v:Value} {l:List ByteArray} (h:HasT w v l):∃ ao cap,v=.slice ao l.length cap∧l.length≤cap:=by
 rcases h with ⟨rfl,rfl⟩ | ⟨a,cap,rfl,hc,_⟩
 ·exact ⟨none,0,rfl,Nat.le_refl _⟩
 ·exact ⟨some a,cap,rfl,hc⟩
theorem HasT.at {w:World} {v:Value} {l:List ByteArray} (h:HasT w v l) {k:Nat} {s:ByteArray} (hk:l[k]?=some s):∃ a cap,v=.slice (some a) l.length cap∧w.cell? (a.add k)=some (.string s):=by
 rcases h with ⟨_,rfl⟩ | ⟨a,cap,rfl,_,hc⟩
 ·simp at hk
 ·exact ⟨a,cap,rfl,hc k s hk⟩
theorem one_new {w:World} {x:Value} {T:TypeId}:∀ (j:Nat) (u:Value),[x][j]?=some u→(w.alloc (Obj.cells #[x] T)).cell? ((⟨w.heap.size,0,none⟩:Addr).add j)=some u:=by
 intro j u hj
 match j,hj with
 | 0,hj=>simp at hj;subst hj;simp [Addr.add]
theorem rel_own {w wr w1:World} {v:Value} {o:Obj} (hb:Below w.heap.size w wr) (hown:∀ k,v.ownBlock=some k→w.heap.size≤k) (hg:(wr.alloc o).grownBy w1 v.ownBlock):Below w.heap.size w w1:=
 (hb.alloc hb.size o).grown hg (by have:=hb.size;simp;omega) hown
theorem drop_take_cut {l:By} {f k:Nat} (hf:f≤k) (hx:l[k]?=some 47) (hno:∀ j,f≤j→j<k→l[j]?≠some 47):cuts (l.drop f)=(l.drop f).take (k-f)::cuts (l.drop (k+1)):=by
 obtain ⟨hk,hx'⟩:=List.getElem?_eq_some_iff.1 hx
 have e:l.drop f=(l.drop f).take (k-f)++47::l.drop (k+1):=by
  conv=>lhs;rw [← List.take_append_drop (k-f) (l.drop f)]
  rw [List.drop_drop,show f+(k-f)=k from by omega,List.drop_eq_getElem_cons hk,hx']
 rw [cuts]
 conv=>lhs;rw [e]
 rw [cut_at]
 intro x hx1 e2
 subst e2
 obtain ⟨j,hj,ej⟩:=List.mem_iff_getElem.1 hx1
 rw [List.getElem_take,List.getElem_drop] at ej
 simp at hj
 exact hno (f+j) (by omega) (by omega) (by rw [List.getElem?_eq_getElem (by omega),ej])
theorem drop_no_cut {l:By} {f:Nat} (hno:∀ j,f≤j→j<l.length→l[j]?≠some 47):cuts (l.drop f)=[l.drop f]:=by
 rw [cuts,cuts_none]
 intro x hx1 e2
 subst e2
 obtain ⟨j,hj,ej⟩:=List.mem_iff_getElem.1 hx1
 rw [List.getElem_drop] at ej
 simp at hj
 exact hno (f+j) (by omega) (by omega) (by rw [List.getElem?_eq_getElem (by omega),ej])
theorem pieces_any (s:ByteArray) (w:World) (hs:s.size≤1048576):
  Calls Tryz.prog 76 #[.string s] w fun e w'=>∃ v L,e=.returned v∧OwnsT w' w.heap.size v L∧L.map tl=pieces (tl s)∧Below w.heap.size w w':=by
 obtain ⟨i0,hi,hz0,hz1,hz2⟩:=info_parts Tryz.info9
 have hlen:=jg s
 by_cases h0:s.toList=[]
 ·have b0:s.toList.isEmpty=true:=by simpa using h0
  go_enter Tryz.func76,Tryz.ntmps76
  go_wp2
  go_ret
  exact ⟨_,[],rfl,OwnsT.nil _ _,by unfold pieces;rw [if_pos h0];rfl,Below.refl _ _⟩
 ·have b0:s.toList.isEmpty=false:=by simpa using h0
  have HP:Hid (pieces (tl s)=cuts (tl s)):=by show _=_;unfold pieces;rw [if_neg h0]
  go_enter Tryz.func76,Tryz.ntmps76
  go_wp2
  go_loopw [3,4,5] (fun v x y wr=>∃ (L:List ByteArray) (f k:Nat),x=.int .i64 f∧y=.int .i64 k∧f≤k∧k≤s.size∧L.length≤k∧OwnsT wr w.heap.size v L∧Below w.heap.size w wr∧Hid (L.map tl++cuts ((tl s).drop f)=cuts (tl s)∧∀ j,f≤j→j<k→(tl s)[j]?≠some 47)) (fun _ _ y _=>s.size-iOf y)
  case atStart=>exact ⟨[],0,0,rfl,rfl,Nat.le_refl _,Nat.zero_le _,Nat.le_refl _,OwnsT.nil _ _,Below.refl _ _,by simp,fun j _ h=>absurd h (Nat.not_lt_zero _)⟩
  case round=>
   obtain ⟨L,f,k,rfl,rfl,hfk,hk,hLk,hown,hb,HI⟩:=hrel
   by_cases hlt:k<s.size
   ·have i1:(k:Int)<(s.size:Int):=by omega
    have e1:=tl_at s k hlt
    by_cases hx:s[k]'hlt=47
    ·have hx':(((s[k]'hlt).toNat:Int)==47)=true:=by rw [hx];rfl
     rw [hx] at e1
     have i2:(f:Int)≤(k:Int):=by omega
     have i3:(k:Int)≤(s.size:Int):=by omega
     have E1:Hid ((tl s)[k]?=some 47):=e1
     clear hx e1
     go_wp2_with (at_builtin;refine wpList_append_own _ rfl _ _ 130 rfl w.heap.size 9 i0 (.string ⟨#[]⟩) 1 16 Tryz.underlying130 hi hz0 hz1 hz2 rfl (by decide) _ _ _ rfl (World.ownsRow.alloc hown _) ⟨wr.heap.size,0,none⟩ 1 1 [.string (s.extract f k)] rfl rfl ?c1 ?c2 ?c3 ?c4 ?c5 ?_)
     case c1=>exact one_new
     case c2=>intro u hu;simp at hu;subst hu;rfl
     case c3=>unfold maxLen;omega
     case c4=>omega
     case c5=>have:=hb.size;simp;omega
     intro v' w1 hown' hgrow _
     have R1:OwnsT w1 w.heap.size v' (L++[s.extract f k]):=by unfold OwnsT;simpa using hown'
     have R2:=rel_own hb (fun k hk=>(hown.lt k hk).1) hgrow
     have R3:Hid ((L++[s.extract f k]).map tl++cuts ((tl s).drop (k+1))=cuts (tl s)∧∀ j,k+1≤j→j<k+1→(tl s)[j]?≠some 47):=by
      refine ⟨?_,fun j a b=>by omega⟩
      rw [← HI.out.1,drop_take_cut hfk E1.out HI.out.2]
      simp [tl_extract]
     clear hown' hgrow hown HI
     go_wp2
     go_roundw
     case rel=>exact ⟨_,k+1,k+1,by go_num,by go_num,Nat.le_refl _,by omega,by simp;omega,R1,R2,R3⟩
     case measure=>simp;omega
    ·have hx':(((s[k]'hlt).toNat:Int)==47)=false:=by
      simp only [beq_eq_false_iff_ne,ne_eq]
      intro q;exact hx (UInt8.toNat_inj.1 (by show (s[k]'hlt).toNat=47;omega))
     have R3:Hid (L.map tl++cuts ((tl s).drop f)=cuts (tl s)∧∀ j,f≤j→j<k+1→(tl s)[j]?≠some 47):=by
      refine ⟨HI.out.1,fun j a b=>?_⟩
      by_cases e:j=k
      ·subst e;rw [e1];simpa using hx
      ·exact HI.out.2 j a (by omega)
     clear hx e1 HI
     go_wp2
     go_roundw
     case rel=>exact ⟨L,f,k+1,rfl,by go_num,by omega,by omega,by omega,hown,hb,R3⟩
     case measure=>simp;omega
   ·have i1:¬ ((k:Int)<(s.size:Int)):=by omega
    have i2:(f:Int)≤(s.size:Int):=by omega
    go_wp2_with (at_builtin;refine wpList_append_own _ rfl _ _ 130 rfl w.heap.size 9 i0 (.string ⟨#[]⟩) 1 16 Tryz.underlying130 hi hz0 hz1 hz2 rfl (by decide) _ _ _ rfl (World.ownsRow.alloc hown _) ⟨wr.heap.size,0,none⟩ 1 1 [.string (s.extract f s.size)] rfl rfl ?c1 ?c2 ?c3 ?c4 ?c5 ?_)
    case c2=>rfl
    case c3=>unfold maxLen;omega
    case c4=>omega
    case c5=>have:=hb.size;simp;omega
    intro v' w1 hown' hgrow _
    have R1:OwnsT w1 w.heap.size v' (L++[s.extract f s.size]):=by unfold OwnsT;simpa using hown'
    have R2:=rel_own hb (fun k hk=>(hown.lt k hk).1) hgrow
    have R3:Hid ((L++[s.extract f s.size]).map tl=pieces (tl s)):=by
     show _=_
     rw [HP.out,← HI.out.1,drop_no_cut (fun j a b=>HI.out.2 j a (by omega)),List.map_append]
     congr 1
     simp only [List.map_cons,List.map_nil]
     rw [tl_extract,List.take_of_length_le (by rw [List.length_drop];omega)]
    clear hown' hgrow hown HI
    go_wp2
    go_ret
    exact ⟨_,_,rfl,R1,R3.out,R2⟩
attribute [local go_sem] Oper.semAt_some
abbrev Str:Type:={ x:ByteArray // x.size≤9223372036854775807 }
abbrev tls (ys:List Str):List By:=ys.map fun x=>tl x.1
theorem piecesF_any (s:ByteArray) (w:World):
  Calls Tryz.prog 113 #[.string s] w fun e w'=>e=.returned (.func (.func 135) #[] #[.pointer (some ⟨w.heap.size,0,none⟩)])∧w'=w.alloc (.cells #[.string s] 9):=by
 have hmf:∀ (fn:Fn) (first cap:Array Value) (w:World),(Instr.makeFunc fn first cap).run Tryz.prog w=.ok (.func fn first cap) w:=fun _ _ _ _=>rfl
 go_enter Tryz.func113,Tryz.ntmps113
 go_wp2
 go_ret
 exact ⟨rfl,rfl⟩
theorem grownBy_alloc1 (w:World) (o:Obj):w.grownBy (w.alloc o) none:=⟨rfl,rfl,rfl,by simp,fun k hk _=>Below.heap_alloc w o k hk⟩
theorem iterAt_grown (w:World) (k:Nat) (s:ByteArray) (p:Nat):w.grownBy (w.iterAt k s p) (some k):=grownBy_putObj' w k (.stringIter s p)
theorem pieces1_in (F:Fence) (n:Nat) (h62:F.fn 135) (hro:F.round=none) (hn:1≤n) (l Bs:Nat) (s:ByteArray) (hs:s.size≤1152921504606846976) (J Jx:List Str→World→Prop) (W:World) (hJ:AbidesFrom W.heap.size J)
  (hY:∀ pre x W1,J pre W1→pre.length<(pieces (tl s)).length→YieldAt F (n-1) Tryz.prog l #[.string x.1] W1 fun e W'=>
   (e=.returned (.bool true)∧J (pre++[x]) W'∧(KeepsWalks W1 W'∧W'.heap[Bs]?=W1.heap[Bs]?))∨(e=.returned (.bool false)∧Jx (pre++[x]) W'))
  (hc1:W.cell? ⟨Bs,0,none⟩=some (.string s)) (h0:J [] W):
  CallsIn F n Tryz.prog 135 #[.func (.yield l) #[] #[],.pointer (some ⟨Bs,0,none⟩)] W fun e W'=>(∃ v,e=.returned v)∧
   ((∃ ys,tls ys=pieces (tl s)∧J ys W')∨(∃ pre,tls pre <+: pieces (tl s)∧Jx pre W')):=by
 have hlen:=jg s
 by_cases hz:s.toList=[]
 ·have b0:s.toList.isEmpty=true:=by simpa using hz
  refine callsIn_of_wp Tryz.func135 rfl h62 ?_ hro
  simp only [Tryz.ntmps135,List.size_toArray,List.length_cons,List.length_nil,Nat.reduceAdd,Nat.reduceSub,Array.replicate_succ,Array.replicate_zero,List.push_toArray,List.append_toArray,List.nil_append,List.cons_append]
  gi_wp2
  refine bodyPost_ret (results_none rfl _ _ _) rfl ?_
  exact ⟨⟨_,rfl⟩,.inl ⟨[],by unfold pieces;rw [if_pos hz];rfl,h0⟩⟩
 ·have b0:s.toList.isEmpty=false:=by simpa using hz
  have HP:Hid (pieces (tl s)=cuts (tl s)):=by show _=_;unfold pieces;rw [if_neg hz]
  rw [HP.out] at hY
  have hBs:Bs<W.heap.size:=World.block_lt_of_cell? W _ hc1
  refine callsIn_of_wp Tryz.func135 rfl h62 ?_ hro
  simp only [Tryz.ntmps135,List.size_toArray,List.length_cons,List.length_nil,Nat.reduceAdd,Nat.reduceSub,Array.replicate_succ,Array.replicate_zero,List.push_toArray,List.append_toArray,List.nil_append,List.cons_append]
  gi_wp2
  gi_loopw [3] (fun x wr=>∃ (f pos:Nat) (ys:List Str),x=.int .i64 f∧f≤pos∧pos≤s.size∧wr.heap[W.heap.size]?=some (.stringIter s pos)∧wr.cell? ⟨Bs,0,none⟩=some (.string s)∧Hid (J ys wr∧tls ys++cuts ((tl s).drop f)=cuts (tl s)∧∀ j,f≤j→j<pos→(tl s)[j]?≠some 47))
   (fun _ wr=>s.size-wr.iterPos W.heap.size)
  case atStart=>
   refine ⟨0,0,[],rfl,Nat.le_refl _,Nat.zero_le _,World.iter_heap W s 0,?_,?_,by simp,fun j _ h=>absurd h (Nat.not_lt_zero _)⟩
   ·exact (((Below.refl W.heap.size W).alloc (Nat.le_refl _) _).cell (p:=⟨Bs,0,none⟩) hBs).trans hc1
   ·exact hJ _ _ _ none h0 (grownBy_alloc1 W _) (fun r e=>by cases e)
  case round=>
   obtain ⟨f,pos,ys,rfl,hfp,hps,hit,hcb,HI⟩:=hrel
   have hksz:W.heap.size<wr.heap.size:=(Array.getElem?_eq_some_iff.1 hit).1
   have hylen:ys.length<(cuts (tl s)).length:=by
    rw [← HI.out.2.1];simp [cuts]
   by_cases hp:pos<s.size
   ·have hnx:∀ ty,(Instr.next (.pointer (some ⟨W.heap.size,0,none⟩)) true ty).run Tryz.prog wr=_:=fun ty=>Lib.run_next_any_at wr W.heap.size s pos ty hit hp
    have hwd:=decode_wide s pos hp
    have hin:=decode_in s pos hp
    have hd1:=decode_le s pos
    have hit2:=Lib.iterAt_heap wr W.heap.size s pos (pos+(Utf8.decode s pos).2) hit
    have hJ2:J ys (wr.iterAt W.heap.size s (pos+(Utf8.decode s pos).2)):=hJ _ _ _ _ HI.out.1 (iterAt_grown _ _ _ _) (fun r e=>by cases e;exact ⟨Nat.le_refl _,_,hit,rfl⟩)
    have hcb2:(wr.iterAt W.heap.size s (pos+(Utf8.decode s pos).2)).cell? ⟨Bs,0,none⟩=some (.string s):=by
     rw [← hcb]
     exact World.cell?_of_block (Lib.iterAt_other wr W.heap.size Bs s _ (by omega))
    by_cases h47:(Utf8.decode s pos).1=47
    ·have h1:(Utf8.decode s pos).2=1:=decode_one s pos hp (by rw [(decode_small s pos hp 47 (by decide)).1 h47];decide)
     rw [h1] at hnx hit2 hJ2 hcb2
     rw [h47] at hnx
     have hat:(tl s)[pos]?=some 47:=by
      rw [tl_get s pos hp]
      have:=(decode_small s pos hp 47 (by decide)).1 h47
      rw [show s.get! pos=47 from UInt8.toNat_inj.1 this]
     have hxs:(s.extract f pos).size≤9223372036854775807:=by rw [← jg,tl_extract,List.length_take,List.length_drop,jg];omega
     obtain ⟨fn,tmps,assign,body,hy,hR⟩:=hY ys ⟨s.extract f pos,hxs⟩ _ hJ2 hylen
     dsimp only at hy
     have HN:Hid (tls (ys++[⟨s.extract f pos,hxs⟩])++cuts ((tl s).drop (pos+1))=cuts (tl s)):=by
      show _=_
      rw [← HI.out.2.1,drop_take_cut hfp hat HI.out.2.2]
      simp [tls,tl_extract]
     have i1:(f:Int)≤(pos:Int):=by omega
     have i2:(pos:Int)≤(s.size:Int):=by omega
     have PRE:Hid (tls (ys++[⟨s.extract f pos,hxs⟩]) <+: pieces (tl s)):=by rw [HP.out,← HN.out];exact List.prefix_append _ _
     clear hJ2 HI hat hd1 hwd hin h47 h1
     gi_wp2
     refine hR.mono ?_
     rintro e W3 (⟨rfl,hJ3,hk3,hb3⟩ | ⟨rfl,hJx3⟩)
     ·have it3:=hk3.same _ _ hit2 rfl
      have c3:W3.cell? ⟨Bs,0,none⟩=some (.string s):=(World.cell?_of_block hb3).trans hcb2
      have HJ3:Hid (J (ys++[⟨s.extract f pos,hxs⟩]) W3):=hJ3
      clear hJ3 hk3 hb3 hR hy
      gi_wp2
      go_roundw
      case rel=>exact ⟨pos+1,pos+1,_,by go_num,Nat.le_refl _,hp,it3,c3,HJ3.out,HN.out,fun j a b=>by omega⟩
      case measure=>simp only [World.iterPos,it3,hit];omega
     ·have HX3:Hid (Jx (ys++[⟨s.extract f pos,hxs⟩]) W3):=hJx3
      clear hJx3 hR hy
      gi_wp2
      refine bodyPost_ret (results_none rfl _ _ _) rfl ?_
      exact ⟨⟨_,rfl⟩,.inr ⟨_,PRE.out,HX3.out⟩⟩
    ·have q1:(((Utf8.decode s pos).1:Int) != 47)=true:=by simp;omega
     have HN:Hid (∀ j,f≤j→j<pos+(Utf8.decode s pos).2→(tl s)[j]?≠some 47):=by
      intro j a b
      by_cases e:j<pos
      ·exact HI.out.2.2 j a e
      ·have n1:=decode_none s pos 47 hp (by decide) h47 j (by omega) b
       rw [tl_get s j (by omega)]
       intro q
       rw [Option.some.inj q] at n1
       exact n1 rfl
     have HI2:Hid (tls ys++cuts ((tl s).drop f)=cuts (tl s)):=HI.out.2.1
     have HJ2:Hid (J ys (wr.iterAt W.heap.size s (pos+(Utf8.decode s pos).2))):=hJ2
     clear hJ2 HI h47
     gi_wp2
     go_roundw
     case rel=>exact ⟨f,_,ys,rfl,by omega,hin,hit2,hcb2,HJ2.out,HI2.out,HN.out⟩
     case measure=>simp only [World.iterPos,hit2,hit];omega
   ·have hnx:∀ ty,(Instr.next (.pointer (some ⟨W.heap.size,0,none⟩)) true ty).run Tryz.prog wr=_:=fun ty=>Lib.run_next_end_at wr W.heap.size s pos ty hit hp
    have hxs:(s.extract f s.size).size≤9223372036854775807:=by rw [← jg,tl_extract,List.length_take,List.length_drop,jg];omega
    obtain ⟨fn,tmps,assign,body,hy,hR⟩:=hY ys ⟨s.extract f s.size,hxs⟩ _ HI.out.1 hylen
    dsimp only at hy
    have HN:Hid (tls (ys++[⟨s.extract f s.size,hxs⟩])=pieces (tl s)):=by
     show _=_
     rw [HP.out,← HI.out.2.1,drop_no_cut (fun j a b=>HI.out.2.2 j a (by omega))]
     simp only [tls,List.map_append,List.map_cons,List.map_nil]
     rw [tl_extract,List.take_of_length_le (by rw [List.length_drop];omega)]
    have i1:(f:Int)≤(s.size:Int):=by omega
    clear HI
    gi_wp2
    refine hR.mono ?_
    rintro e W3 (⟨rfl,hJ3,hk3,hb3⟩ | ⟨rfl,hJx3⟩)
    ·have HJ3:Hid (J (ys++[⟨s.extract f s.size,hxs⟩]) W3):=hJ3
     clear hJ3 hk3 hb3 hR hy
     gi_wp2
     go_end0
     exact ⟨⟨_,rfl⟩,.inl ⟨_,HN.out,HJ3.out⟩⟩
    ·have HX3:Hid (Jx (ys++[⟨s.extract f s.size,hxs⟩]) W3):=hJx3
     clear hJx3 hR hy
     gi_wp2
     go_end0
     exact ⟨⟨_,rfl⟩,.inr ⟨_,by rw [HN.out];exact List.prefix_rfl,HX3.out⟩⟩
open Go.Shelf
def KeepP (Bs:Nat) (W W':World):Prop:=KeepsWalks W W'∧W'.heap[Bs]?=W.heap[Bs]?
theorem keepP_t {Bs:Nat} {A B C:World} (h:KeepP Bs A B) (k:KeepP Bs B C):KeepP Bs A C:=⟨h.1.trans k.1,k.2.trans h.2⟩
theorem keepP_b {Bs:Nat} {w:World} (hB:Bs<w.heap.size) (W:World) (l:Nat) (o o':Obj) (hl:w.heap.size≤l) (h:W.heap[l]?=some o) (_:o.isCells=false) (hw:o.isWalk=false):KeepP Bs W (W.putObj l o'):=
 ⟨KeepsWalks.putObj _ h hw,World.putObj_heap_other (by omega)⟩
theorem pieces_stops (n:Nat) (hn:1≤n) (Bs:Nat) (s:ByteArray) (hs:s.size≤1152921504606846976) (w:World) (hB:w.heap[Bs]?=some (.cells #[.string s] 9)):
  SeqStopsK Fence.wide n Tryz.prog 135 #[.pointer (some ⟨Bs,0,none⟩)] (fun x:Str=>#[Value.string x.1]) (KeepP Bs) (fun ys=>tls ys=pieces (tl s)) (fun pre=>tls pre <+: pieces (tl s)) (pieces (tl s)).length w:=fun l J Jx W hW hJ _ hY h0=>by
 have hlt:Bs<w.heap.size:=(Array.getElem?_eq_some_iff.1 hB).1
 refine pieces1_in Fence.wide n trivial rfl hn l Bs s hs J Jx W hJ hY ?_ h0
 have hc:w.cell? ⟨Bs,0,none⟩=some (.string s):=by simp [World.cell?,hB]
 exact (hW.cell (p:=⟨Bs,0,none⟩) hlt).trans hc
theorem appendSeq_any (lo Bs:Nat) (v0:Value) (s:ByteArray) (w:World) (hs:s.size≤1048576) (hrow0:w.ownsRow lo 9 1 v0 0 []) (hlo:lo≤w.heap.size) (hB:w.heap[Bs]?=some (.cells #[.string s] 9)) (hne:v0.ownBlock≠some Bs):
  Calls Tryz.prog 136 #[v0,.func (.func 135) #[] #[.pointer (some ⟨Bs,0,none⟩)]] w fun e w'=>∃ v L,e=.returned v∧OwnsT w' lo v L∧L.map tl=pieces (tl s)∧Below lo w w':=by
 obtain ⟨i0,hi,hz0,hz1,hz2⟩:=info_parts Tryz.info9
 obtain ⟨ao,cap,rfl⟩:∃ ao cap,v0=.slice ao 0 cap:=by
  obtain ⟨_,h | ⟨g,cap,cur,hv,_⟩⟩:=hrow0
  ·exact ⟨none,0,h.1⟩
  ·exact ⟨_,cap,hv⟩
 have hlt:Bs<w.heap.size:=(Array.getElem?_eq_some_iff.1 hB).1
 have hpl:(pieces (tl s)).length≤s.size+1:=by
  unfold pieces
  split
  ·simp
  ·rw [cuts_len,← jg];have:=List.count_le_length (a:=(47:UInt8)) (l:=tl s);omega
 refine (callsIn_wide (n:=3)).1 ?_
 refine callsIn_of_wp_marks Tryz.func136 rfl trivial ?_ rfl
 simp only [Tryz.ntmps136,List.size_toArray,List.length_cons,List.length_nil,Nat.reduceAdd,Nat.reduceSub,Array.replicate_succ,Array.replicate_zero,List.push_toArray,List.append_toArray,List.nil_append,List.cons_append]
 gi_wp2
 have bO:=Boxed.new w 130 (.slice ao 0 cap)
 have hB1:(w.alloc (.cells #[(.slice ao 0 cap)] 130)).heap[Bs]?=some (.cells #[.string s] 9):=(Below.heap_alloc w _ Bs hlt).trans hB
 refine wpIn_rangeFunc_ownF rfl (by omega) (gf:=135) (lb:=#[.pointer (some ⟨Bs,0,none⟩)]) rfl trivial (enters_of Tryz.func135 (by kernel_rfl) rfl)
  (pieces_stops 2 (by omega) Bs s (by omega) _ hB1) (fun h k=>keepP_t h k) (keepP_b (by simp;omega)) (Below.refl _ _) (fun _=>rfl)
  (fun pre W=>(∃ v,Boxed W w.heap.size 130 v∧W.ownsRow lo 9 1 v pre.length (pre.map fun x=>Value.string x.1)∧v.ownBlock≠some Bs)∧(W.heap[Bs]?=some (.cells #[.string s] 9)∧Below lo w W))
  (fun _ _ _=>False)
  (OwnFrom.and (Own.from (holdsRow_own lo w.heap.size 130 9 1 (fun pre:List Str=>pre.length) (fun pre=>pre.map fun x=>Value.string x.1) (fun _ v=>v.ownBlock≠some Bs)) _) (OwnFrom.and ?own (ownFrom_below hlo (by simp;omega))))
  (fun _ _ _ _ _ hs _ _=>hs)
  ⟨⟨_,bO,World.ownsRow.alloc hrow0 _,hne⟩,hB1,(Below.refl lo w).alloc hlo _⟩
  (fun x=>{ tmps:=#[(.slice ao 0 cap),.func (.func 135) #[] #[.pointer (some ⟨Bs,0,none⟩)],.pointer (some ⟨w.heap.size,0,none⟩),undef,.slice none 0 0,.string x.1,.func (.func 135) #[] #[.pointer (some ⟨Bs,0,none⟩)],.string x.1,undef,undef,undef,undef,undef],defers:=[] }) ?assign ?body ?done ?stop
 case own=>
  intro _ X Y row h hg hr
  refine (hg.block Bs (Array.getElem?_eq_some_iff.1 h).1 (fun e=>?_)).trans h
  obtain ⟨_,o,ho,hc⟩:=hr Bs e.symm
  rw [h] at ho;cases ho;cases hc
 case assign=>
  intro l x W K hK
  gi_wp2
  exact hK
 case body=>
  rintro l pre x W ⟨⟨v,hv,hrow,hvn⟩,hBs,hb⟩ hpre
  have hc:=hv.cell
  have hBsl:=(Array.getElem?_eq_some_iff.1 hBs).1
  have hszW:=hb.size
  gi_wp2_with (gi_at_builtin;refine wpListIn_append_own_at _ rfl _ _ 130 rfl lo 9 i0 (.string ⟨#[]⟩) 1 16 Tryz.underlying130 hi hz0 hz1 hz2 rfl (by decide) _ _ _ rfl (World.ownsRow.alloc hrow _) ⟨W.heap.size,0,none⟩ 1 1 [.string x.1] rfl rfl one_new (by simp [Value.oneCell']) (by unfold maxLen;omega) (by omega) (by simp;omega) ?_;intro v' w1 hown' hgrow _ hat;obtain ⟨g',cap',rfl⟩:=ownsRow_succ hown';obtain ⟨hv1,hv2,hr2,hk2,hb2⟩:=hv.appended (by decide) hrow (by omega) hlo hown' hgrow;have hc1:=hv1.cell;have hf1:=hv1.frozen)
  have hg2:(W.alloc (.cells #[.string x.1] 9)).grownBy w1 v.ownBlock:=hgrow
  have hat2:(Value.slice (some ⟨g',0,none⟩) (pre.length+1) cap').ownBlock=v.ownBlock∨(Value.slice (some ⟨g',0,none⟩) (pre.length+1) cap').ownBlock=some (W.alloc (.cells #[.string x.1] 9)).heap.size:=hat
  have hkb:(w1.setCell ⟨w.heap.size,0,none⟩ (.slice (some ⟨g',0,none⟩) (pre.length+1) cap')).heap[Bs]?=W.heap[Bs]?:=by
   rw [Below.heap_setCell _ _ _ _ (by show Bs≠w.heap.size;omega),hg2.block Bs (by simp;omega) (fun e=>hvn e.symm)]
   exact Below.heap_alloc W _ Bs hBsl
  refine ⟨hk2,⟨hk2.walks,hkb⟩,⟨_,hv2,by simpa using hr2,?_⟩,hkb.trans hBs,hb.trans hb2⟩
  rcases hat2 with q | q
  ·rw [q];exact hvn
  ·rw [q];simp;omega
 case done=>
  rintro D ys W hD hys ⟨⟨v,hv,hrow,_⟩,_,hb⟩ hK
  have hc:=hv.cell
  gi_wp2
  refine ⟨by simp,.inl ⟨_,_,rfl,run_takeDeferred hK,?_⟩⟩
  refine ⟨_,results_tmp rfl _ _ _,v,ys.map (fun x=>x.1),rfl,?_,by rw [← hys,List.map_map];rfl,hb.trans (belowK_b (w:=w) hlo W D _ _ (by simp at hD;omega) hK rfl rfl)⟩
  have:=ownsRow_putObj hrow (.deferred none) hK rfl
  unfold OwnsT
  rw [List.length_map,List.map_map]
  exact this
 case stop=>
  rintro D c pre W _ _ h _
  exact h.elim
end Go.Proofs.YthfcanpkhjgomaaGreat
namespace Go.Proofs.YthfcanpkhjgomaaGreat
open Go.RowKit
theorem pcount_any (s:ByteArray) (w:World):
  Calls Tryz.prog 134 #[.string s,.string ⟨#[47]⟩] w fun e w'=>e=.returned (.int .i64 ((tl s).count 47:Nat))∧w'=w:=by
 rw [show (tl s).count 47=Lib.countByte s.data.toList (47:Int).toNat.toUInt8 by rw [tl,ByteArray.toList_eq];rfl]
 go_enter Tryz.func134,Tryz.ntmps134
 go_wp2
 rw [run_callFunc_extern Tryz.func147 (by kernel_rfl) (by kernel_rfl) (by kernel_rfl) (e:=Extern.BytealgCount.count) (by kernel_rfl),Lib.run_countString]
 simp only [Result.andThen]
 rw [Oper.upon_value]
 go_wp2
 go_ret
 exact ⟨rfl,rfl⟩
theorem countPieces_any (s:ByteArray) (w:World) (hs:s.size≤1152921504606846976):
  Calls Tryz.prog 112 #[.string s] w fun e w'=>e=.returned (.int .i64 ((pieces (tl s)).length:Nat))∧w'=w:=by
 have C:=fun W=>pcount_any s W
 have hc:(tl s).count 47≤s.size:=by rw [← jg];exact List.count_le_length
 by_cases h0:s.toList=[]
 ·have b0:s.toList.isEmpty=true:=by simpa using h0
  rw [show pieces (tl s)=[] by unfold pieces;rw [if_pos h0]]
  go_enter Tryz.func112,Tryz.ntmps112
  go_wp2
  go_ret
  exact ⟨rfl,rfl⟩
 ·have b0:s.toList.isEmpty=false:=by simpa using h0
  rw [show (pieces (tl s)).length=(tl s).count 47+1 by unfold pieces;rw [if_neg h0,cuts_len]]
  generalize (tl s).count 47=z at *
  go_enter Tryz.func112,Tryz.ntmps112
  go_wp2_with (go_at_call 134;refine (C _).mono ?_;rintro e w' ⟨rfl,rfl⟩)
  go_ret
  exact ⟨rfl,rfl⟩
theorem madeRow (lo:Nat) (w:World) (k:Nat) (hlo:lo≤w.heap.size) (hk:k≤2000000):(w.alloc (.cells (madeCells #[.string ⟨#[]⟩] k) 9)).ownsRow lo 9 1 (.slice (some ⟨w.heap.size,0,none⟩) 0 k) 0 []:=
 World.ownsRow_made w _ k hlo (by unfold maxLen;omega) (by rw [size_madeCells,Nat.mul_one])
theorem seqA (s:ByteArray) (w:World) (k:Nat) (hs:s.size≤1048576) (hk:k≤2000000):
  Calls Tryz.prog 136 #[.slice (some ⟨w.heap.size,0,none⟩) 0 k,.func (.func 135) #[] #[.pointer (some ⟨w.heap.size+1,0,none⟩)]] ((w.alloc (.cells (madeCells #[.string ⟨#[]⟩] k) 9)).alloc (.cells #[.string s] 9)).drew
   fun e w'=>∃ v L,e=.returned v∧OwnsT w' w.heap.size v L∧L.map tl=pieces (tl s)∧Below w.heap.size w w':=by
 refine (appendSeq_any w.heap.size (w.heap.size+1) _ s ((w.alloc (.cells (madeCells #[.string ⟨#[]⟩] k) 9)).alloc (.cells #[.string s] 9)).drew hs (World.ownsRow.drew (World.ownsRow.alloc (madeRow w.heap.size w k (Nat.le_refl _) hk) _)) (by simp;omega) ?_ (by simp [Value.ownBlock])).mono ?_
 ·show ((w.alloc (.cells (madeCells #[.string ⟨#[]⟩] k) 9)).alloc (.cells #[.string s] 9)).heap[w.heap.size+1]?=_
  have:=World.alloc_heap_new (w.alloc (.cells (madeCells #[.string ⟨#[]⟩] k) 9)) (.cells #[.string s] 9)
  rw [World.size_alloc] at this
  exact this
 ·rintro e w' ⟨v,L,rfl,h1,h2,h3⟩
  refine ⟨v,L,rfl,h1,h2,Below.trans ?_ h3⟩
  exact (((Below.refl _ w).alloc (Nat.le_refl _) _).alloc (by simp) _).trans ⟨rfl,rfl,rfl,Nat.le_refl _,fun _ _=>rfl⟩
theorem seqB (s:ByteArray) (w:World) (k:Nat) (hs:s.size≤1048576) (hk:k≤2000000):
  Calls Tryz.prog 136 #[.slice (some ⟨w.heap.size+1,0,none⟩) 0 k,.func (.func 135) #[] #[.pointer (some ⟨w.heap.size,0,none⟩)]] ((w.alloc (.cells #[.string s] 9)).alloc (.cells (madeCells #[.string ⟨#[]⟩] k) 9)).drew
   fun e w'=>∃ v L,e=.returned v∧OwnsT w' w.heap.size v L∧L.map tl=pieces (tl s)∧Below w.heap.size w w':=by
 have hr:=madeRow w.heap.size (w.alloc (.cells #[.string s] 9)) k (by simp) hk
 rw [World.size_alloc] at hr
 refine (appendSeq_any w.heap.size w.heap.size _ s ((w.alloc (.cells #[.string s] 9)).alloc (.cells (madeCells #[.string ⟨#[]⟩] k) 9)).drew hs (World.ownsRow.drew hr) (by simp;omega) ?_ (by simp [Value.ownBlock])).mono ?_
 ·show ((w.alloc (.cells #[.string s] 9)).alloc (.cells (madeCells #[.string ⟨#[]⟩] k) 9)).heap[w.heap.size]?=_
  rw [Below.heap_alloc _ _ _ (by simp)]
  exact World.alloc_heap_new w _
 ·rintro e w' ⟨v,L,rfl,h1,h2,h3⟩
  refine ⟨v,L,rfl,h1,h2,Below.trans ?_ h3⟩
  exact (((Below.refl _ w).alloc (Nat.le_refl _) _).alloc (by simp) _).trans ⟨rfl,rfl,rfl,Nat.le_refl _,fun _ _=>rfl⟩
theorem listPieces_any (s:ByteArray) (w:World) (hs:s.size≤1048576):
  Calls Tryz.prog 115 #[.string s] w fun e w'=>∃ v L,e=.returned v∧OwnsT w' w.heap.size v L∧L.map tl=pieces (tl s)∧Below w.heap.size w w':=by
 have C43:=fun W=>countPieces_any s W (by omega)
 have C44:=fun W=>piecesF_any s W
 have hk2:(pieces (tl s)).length≤2000000:=by
  unfold pieces
  split
  ·simp
  ·rw [cuts_len];have:=List.count_le_length (a:=(47:UInt8)) (l:=tl s);rw [jg] at this;omega
 obtain ⟨i0,hi,hz0,hz1,hz2⟩:=info_parts Tryz.info9
 generalize hk:(pieces (tl s)).length=k at *
 have hM:∀ W:World,(Instr.makeSlice 130 (.int .i64 0) (.int .i64 (k:Int))).run Tryz.prog W=.ok (.slice (some ⟨W.heap.size,0,none⟩) 0 k) (W.alloc (.cells (madeCells #[.string ⟨#[]⟩] k) 9)):=by
  intro W
  have:=run_make (P:=Tryz.prog) W 130 9 i0 (.string ⟨#[]⟩) Tryz.underlying130 hi hz0 .i64 .i64 0 k (Int.le_refl _) (by omega) (by rw [hz2];omega) (by omega)
  rw [hz1] at this
  simpa [Value.cells] using this
 have CA:=seqA s w k hs hk2
 have CB:=seqB s w k hs hk2
 go_enter Tryz.func115,Tryz.ntmps115
 go_wp2_with fail
 go_region_with (first
  | (go_at_call 112;refine (C43 _).mono ?_;rintro e w' ⟨rfl,rfl⟩)
  | (go_at_call 113;refine (C44 _).mono ?_;rintro e w' ⟨rfl,rfl⟩)
  | (go_at_call_of 136 (Value.slice (some ⟨w.heap.size,0,none⟩) 0 k);refine CA.mono ?_;rintro e w' ⟨v,L,rfl,hL⟩)
  | (go_at_call 136;refine CB.mono ?_;rintro e w' ⟨v,L,rfl,hL⟩))
 all_goals
  have HL:Hid (OwnsT w' w.heap.size v L∧L.map tl=pieces (tl s)∧Below w.heap.size w w'):=hL
  clear hL CA CB C43 C44 hM
  obtain ⟨ao,cap,hv,_⟩:=HL.out.1.has.form
  subst hv
  go_wp2
  go_ret
  exact ⟨_,L,rfl,HL.out.1,HL.out.2.1,HL.out.2.2⟩
theorem u8_eq {x:UInt8} {c:Nat} (hc:c<256) (h:(x.toNat:Int)=(c:Int)):x=UInt8.ofNat c:=by
 apply UInt8.toNat_inj.1
 simp;omega
def eno (b:Bool):Int:=if b then 0 else 30
theorem name_no {l:By} {x:UInt8} (hx:x∈l) (h:x=47∨x=0):nameB l=false:=
 decide_eq_false (fun q=>by have:=q.2.2.2.2 x hx;rcases h with h | h<;>simp [h] at this)
theorem name_yes {s:ByteArray} (h1:1≤s.size) (h2:s.size≤255) (h3:s.toList≠[46]) (h4:s.toList≠[46,46]) (h5:∀ j (h:j<s.size),s[j]'h≠47∧s[j]'h≠0):nameB (tl s)=true:=by
 have hlen:=jg s
 refine decide_eq_true ⟨by omega,by omega,h3,h4,fun x hx=>?_⟩
 obtain ⟨k,hk,rfl⟩:=tl_mem hx
 exact h5 k hk
theorem name_any (s:ByteArray) (w:World) (hs:s.size≤9223372036854775807):Calls Tryz.prog 130 #[.string s] w fun e w'=>e=.returned (.bool (nameB (tl s)))∧w'=w:=by
 have hlen:=jg s
 by_cases hA:1≤s.size∧s.size≤255∧s.toList≠[46]∧s.toList≠[46,46]
 ·obtain ⟨h1,h2,h3,h4⟩:=hA
  have i1:¬ ((s.size:Int)<1):=by omega
  have i2:¬ ((255:Int)<(s.size:Int)):=by omega
  have b3:(s.toList==[46])=false:=by simpa using h3
  have b4:(s.toList==[46,46])=false:=by simpa using h4
  go_enter Tryz.func130,Tryz.ntmps130
  go_wp2
  go_loop [3] (fun i=>∃ k:Nat,i=.int .i64 k∧k≤s.size∧∀ j (h:j<s.size),j<k→s[j]'h≠47∧s[j]'h≠0) (fun i=>s.size-iOf i)
  case atStart=>exact ⟨0,rfl,Nat.zero_le _,fun j _ h=>absurd h (Nat.not_lt_zero _)⟩
  case round=>
   obtain ⟨k,rfl,hk,hj⟩:=hrel
   by_cases hlt:k<s.size
   ·have hltI:(k:Int)<(s.size:Int):=by omega
    by_cases hbad:s[k]'hlt=47∨s[k]'hlt=0
    ·have hf:=name_no (tl_in s k hlt) hbad
     rcases hbad with hb | hb
     ·go_wp2
      go_ret
      exact ⟨rfl,rfl⟩
     ·go_wp2
      go_ret
      exact ⟨rfl,rfl⟩
    ·have q1:¬ (((s[k]'hlt).toNat:Int)=47):=fun q=>hbad (.inl (u8_eq (c:=47) (by decide) q))
     have q2:¬ (((s[k]'hlt).toNat:Int)=0):=fun q=>hbad (.inr (u8_eq (c:=0) (by decide) q))
     have b1:(((s[k]'hlt).toNat:Int)==47)=false:=by simpa using q1
     have b2:(((s[k]'hlt).toNat:Int)==0)=false:=by simpa using q2
     go_wp2
     refine ⟨⟨k+1,rfl,hlt,fun j h hjk=>?_⟩,by simp;omega⟩
     by_cases e:j=k
     ·subst e;exact ⟨fun q=>hbad (.inl q),fun q=>hbad (.inr q)⟩
     ·exact hj j h (by omega)
   ·have hltI:¬ ((k:Int)<(s.size:Int)):=by omega
    have ht:=name_yes h1 h2 h3 h4 (fun j h=>hj j h (by omega))
    go_wp2
    go_ret
    exact ⟨rfl,rfl⟩
 ·have hf:nameB (tl s)=false:=decide_eq_false (fun q=>hA ⟨by omega,by omega,q.2.2.1,q.2.2.2.1⟩)
  rw [hf]
  go_enter Tryz.func130,Tryz.ntmps130
  go_wp2
  all_goals first
   | (go_ret;exact ⟨rfl,rfl⟩)
   | (exfalso;simp_all;omega)
theorem refCheck_any (s:ByteArray) (w:World) (hs:s.size≤9223372036854775807):Calls Tryz.prog 105 #[.string s] w fun e w'=>e=.returned (.int .i64 (eno (nameB (tl s))))∧w'=w:=by
 have C:=name_any s w hs
 by_cases h:nameB (tl s)=true
 ·rw [h] at C
  rw [h]
  go_enter Tryz.func105,Tryz.ntmps105
  go_wp2_with (go_at_call 130;refine C.mono ?_;rintro e w1 ⟨rfl,rfl⟩)
  go_ret
  exact ⟨rfl,rfl⟩
 ·rw [Bool.not_eq_true] at h
  rw [h] at C
  rw [h]
  go_enter Tryz.func105,Tryz.ntmps105
  go_wp2_with (go_at_call 130;refine C.mono ?_;rintro e w1 ⟨rfl,rfl⟩)
  go_ret
  exact ⟨rfl,rfl⟩
theorem check_any (s:ByteArray) (w:World) (hs:s.size≤9223372036854775807):Calls Tryz.prog 114 #[.string s] w fun e w'=>e=.returned (.int .i64 (eno (nameB (tl s))))∧Below w.heap.size w w':=by
 have hlen:=jg s
 by_cases hA:s.toList≠[]∧s.toList≠[46]∧s.toList≠[46,46]∧s.size≤255
 ·obtain ⟨h1,h3,h4,h2⟩:=hA
  have i2:¬ ((255:Int)<(s.size:Int)):=by omega
  have b1:(s.toList.isEmpty)=false:=by simpa using h1
  have b3:(s.toList==[46])=false:=by simpa using h3
  have b4:(s.toList==[46,46])=false:=by simpa using h4
  have h0:1≤s.size:=by
   cases e:s.toList with
   | nil=>exact absurd e h1
   | cons a b=>rw [tl,e] at hlen;simp at hlen;omega
  go_enter Tryz.func114,Tryz.ntmps114
  go_wp2
  go_loopw [] (fun wr=>∃ pos,wr=w.iter s pos∧pos≤s.size∧∀ j (h:j<s.size),j<pos→s[j]'h≠47∧s[j]'h≠0) (fun wr=>s.size-wr.iterPos w.heap.size)
  case atStart=>exact ⟨0,rfl,Nat.zero_le _,fun j _ h=>absurd h (Nat.not_lt_zero _)⟩
  case round=>
   obtain ⟨pos,rfl,hk,hj⟩:=hrel
   by_cases hp:pos<s.size
   ·have hnx:∀ ty,(Instr.next (.pointer (some ⟨w.heap.size,0,none⟩)) true ty).run Tryz.prog (w.iter s pos)=_:=fun ty=>run_next_any w s pos ty hp
    have hwd:=decode_wide s pos hp
    have hin:=decode_in s pos hp
    by_cases hbad:(Utf8.decode s pos).1=47∨(Utf8.decode s pos).1=0
    ·have hf:nameB (tl s)=false:=by
      refine name_no (x:=s.get! pos) (List.mem_of_getElem? (tl_get s pos hp)) ?_
      rcases hbad with q | q
      ·exact .inl (u8_eq (c:=47) (by decide) (by exact_mod_cast (decode_small s pos hp 47 (by decide)).1 q))
      ·exact .inr (u8_eq (c:=0) (by decide) (by exact_mod_cast (decode_small s pos hp 0 (by decide)).1 q))
     rcases hbad with hb | hb
     all_goals
      go_wp2
      go_ret
      exact ⟨by rw [hf];rfl,(Below.refl _ w).alloc (Nat.le_refl _) _⟩
    ·have q1:(((Utf8.decode s pos).1:Int)==47)=false:=by simp;omega
     have q2:(((Utf8.decode s pos).1:Int)==0)=false:=by simp;omega
     go_wp2
     refine ⟨⟨_,rfl,hin,fun j h hjk=>?_⟩,by rw [World.iterPos_iter,World.iterPos_iter];omega⟩
     by_cases e:j<pos
     ·exact hj j h e
     ·have n1:=decode_none s pos 47 hp (by decide) (fun q=>hbad (.inl q)) j (by omega) hjk
      have n2:=decode_none s pos 0 hp (by decide) (fun q=>hbad (.inr q)) j (by omega) hjk
      rw [show s.get! j=s[j]'h from get_at s j h] at n1 n2
      exact ⟨fun q=>n1 (by rw [q];rfl),fun q=>n2 (by rw [q];rfl)⟩
   ·have hnx:∀ ty,(Instr.next (.pointer (some ⟨w.heap.size,0,none⟩)) true ty).run Tryz.prog (w.iter s pos)=_:=fun ty=>run_next_end w s pos ty hp
    have ht:=name_yes h0 h2 h3 h4 (fun j h=>hj j h (by omega))
    go_wp2
    go_ret
    exact ⟨by rw [ht];rfl,(Below.refl _ w).alloc (Nat.le_refl _) _⟩
 ·have hf:nameB (tl s)=false:=decide_eq_false (fun q=>hA ⟨fun e=>by have:=q.1;rw [tl,e] at this;simp at this,q.2.2.1,q.2.2.2.1,by omega⟩)
  rw [hf]
  go_enter Tryz.func114,Tryz.ntmps114
  go_wp2
  all_goals first
   | (go_ret;exact ⟨rfl,Below.refl _ _⟩)
   | (exfalso;simp_all;omega)
end Go.Proofs.YthfcanpkhjgomaaGreat
