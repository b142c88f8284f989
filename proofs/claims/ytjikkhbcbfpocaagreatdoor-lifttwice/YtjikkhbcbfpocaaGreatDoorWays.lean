import Derived.Test.YtjikkhbcbfpocaaGreatDoorFind
import Derived.Test.YtjikkhbcbfpocaaGreatDoorPSplit
set_option maxRecDepth 100000
set_option maxHeartbeats 1000000
namespace Go.Proofs.YtjikkhbcbfpocaaGreatDoor
open Go.RowKit
def AtF (w:World) (u:Value) (f:F):Prop:=∃ k,At w k u∧k.flat=f
def AtTF (w:World) (p:Nat) (v:Vd) (m:Md) (f:F):Prop:=∃ k,AtT w p v m k∧k.flat=f
theorem AtTF.grow {w w':World} {p:Nat} {v:Vd} {m:Md} {f:F} (h:AtTF w p v m f) (hg:G w w'):AtTF w' p v m f:=by obtain ⟨k,h,e⟩:=h;exact ⟨k,h.grow hg,e⟩
abbrev T3:=Vd × Md × F
def zy (w:World) (u:Value):Option T3→Prop
 | none=>u=.pointer none
 | some t=>∃ p,u=.pointer (some ⟨p,0,none⟩)∧AtTF w p t.1 t.2.1 t.2.2
theorem zy.grow {w w':World} {u:Value} {o:Option T3} (h:zy w u o) (hg:G w w'):zy w' u o:=by
 cases o with
 | none=>exact h
 | some t=>obtain ⟨p,h1,h2⟩:=h;exact ⟨p,h1,h2.grow hg⟩
theorem zy.form {w:World} {u:Value} {o:Option T3} (h:zy w u o):∃ a,u=.pointer a:=by
 cases o with
 | none=>exact ⟨_,h⟩
 | some t=>obtain ⟨p,h1,_⟩:=h;exact ⟨_,h1⟩
theorem AtTF.kids {w:World} {p:Nat} {v:Vd} {m:Md} {f:F} (h:AtTF w p v m f):∃ ak,Lies w p 0 (tc v m (.pointer ak))∧AtF w (.pointer ak) f:=by
 obtain ⟨k,⟨pk,h1,h2⟩,e⟩:=h
 obtain ⟨ak,rfl⟩:=h2.form
 exact ⟨ak,h1,k,h2,e⟩
theorem sj {w:World} {au:Option Addr} {f:F} (h:AtF w (.pointer au) f) (hr:f.rises) (nm:ByteArray):∃ u,zy w u (f.get nm)∧∀ W,G w W→Calls Tryz.prog 143 #[.pointer au,.string nm] W fun e w'=>e=.returned u∧w'=W:=by
 obtain ⟨k,h,rfl⟩:=h
 refine ⟨a05 (k.find nm),?_,fun W hW=>sr k (.pointer au) nm W (h.grow hW)⟩
 rw [← K.find_get hr]
 cases hf:k.find nm with
 | none=>rfl
 | some x=>
  obtain ⟨p,v,m,kk⟩:=x
  exact ⟨p,rfl,kk,K.find_at h p v m kk hf,rfl⟩
theorem F.rises_get {nm:ByteArray} {t:T3}:∀ {f:F},f.rises→f.get nm=some t→t.2.2.rises∧t.2.2.size<f.size
 | .nil,_,h=>by cases h
 | .cons n v m k r,⟨_,h2,h3⟩,h=>by
  rw [F.get] at h
  split at h
  ·cases h;exact ⟨h2,by simp only [F.size];omega⟩
  ·have:=F.rises_get h3 h
   exact ⟨this.1,by simp only [F.size];omega⟩
def dn:T3→List ByteArray→Option T3
 | t,[]=>some t
 | t,nm::L=>(t.2.2.get nm).bind fun s=>dn s L
theorem oy:∀ (t:T3) (L M:List ByteArray),dn t (L++M)=(dn t L).bind fun s=>dn s M
 | t,[],M=>rfl
 | t,nm::L,M=>by
  rw [List.cons_append,dn,dn]
  cases t.2.2.get nm with
  | none=>rfl
  | some s=>exact oy s L M
theorem lm:∀ {t:T3} {L:List ByteArray} {s:T3},t.2.2.rises→dn t L=some s→s.2.2.rises∧s.2.2.size≤t.2.2.size
 | t,[],s,hr,h=>by cases h;exact ⟨hr,Nat.le_refl _⟩
 | t,nm::L,s,hr,h=>by
  rw [dn] at h
  cases hg:t.2.2.get nm with
  | none=>rw [hg] at h;cases h
  | some x=>
   rw [hg] at h
   have h1:=F.rises_get hr hg
   have h2:=lm h1.1 h
   exact ⟨h2.1,by omega⟩
theorem so (p:Nat) (t:T3) (names:Value) (L:List ByteArray) (w:World) (ht:AtTF w p t.1 t.2.1 t.2.2) (hr:t.2.2.rises) (hn:HasT w names L) (hl:L.length≤1000000):
  Calls Tryz.prog 110 #[.pointer (some ⟨p,0,none⟩),names] w fun e w'=>(∃ u,e=.returned u∧zy w u (dn t L))∧w'=w:=by
 obtain ⟨ao,cap,rfl,_⟩:=hn.form
 have HN:=hid hn
 have H0:Hid (zy w (.pointer (some ⟨p,0,none⟩)) (dn t (L.take 0))):=by rw [List.take_zero];exact ⟨p,rfl,ht⟩
 have HR:=hid hr
 obtain ⟨N,hN⟩:∃ N,L.length=N:=⟨_,rfl⟩
 have HL:=hid hN
 rw [hN] at HN hl ⊢
 clear hn ht hr hN
 go_enter Tryz.func110,Tryz.ntmps110
 go_wp2_with fail
 go_loopw [0,9] (fun u i wr=>∃ k:Nat,i=.int .i64 k∧k≤N∧(∃ a,u=.pointer a)∧wr=w∧Hid (zy w u (dn t (L.take k)))) (fun _ i _=>N-iOf i)
 case atStart=>exact ⟨0,rfl,Nat.zero_le _,⟨_,rfl⟩,rfl,H0.o⟩
 case round=>
  clear H0
  obtain ⟨k,rfl,hk,⟨a,rfl⟩,rfl,HP⟩:=hrel
  by_cases hlt:k<N
  ·have hltI:(k:Int)<(N:Int):=by omega
   obtain ⟨x,hx⟩:∃ x,L[k]?=some x:=⟨_,gl (by rw [HL.o];exact hlt)⟩
   obtain ⟨ad,cap',hv,hc⟩:=HN.o.at hx
   obtain rfl:ao=some ad:=by injection hv
   clear hv
   have hsplit:L.take (k+1)=L.take k++[x]:=by rw [List.take_add_one,hx];rfl
   cases hd:dn t (L.take k) with
   | none=>
    rw [hd] at HP
    have e:=HP.o
    have e:Value.pointer a=.pointer none:=e
    injection e with e
    subst e
    have HD:Hid (zy wr (.pointer none) (dn t L)):=by
     have h:=oy t (L.take k) (L.drop k)
     rw [List.take_append_drop,hd] at h
     rw [h];rfl
    clear hd hsplit HP
    go_wp2_with fail
    go_ret
    exact ⟨⟨_,rfl,HD.o⟩,rfl⟩
   | some s=>
    rw [hd] at HP
    obtain ⟨p',e,hs⟩:=HP.o
    injection e with e
    subst e
    obtain ⟨ak,hli,hak⟩:=hs.kids
    have c39:=jB hli 39 _ (zi ..)
    obtain ⟨u,hu,hC⟩:=sj hak (lm HR.o hd).1 x
    have C:=hC wr (G.refl _)
    obtain ⟨au,rfl⟩:=hu.form
    have HU:Hid (zy wr (.pointer au) (dn t (L.take (k+1)))):=by
     show zy _ _ _
     rw [hsplit,oy,hd]
     have e:((some s).bind fun s=>dn s [x])=s.2.2.get x:=by
      show (s.2.2.get x).bind (fun s=>some s)=_
      cases s.2.2.get x<;>rfl
     rw [e]
     exact hu
    clear hd hsplit HP hs hli hak hu hC
    go_wp2_with (go_at_call 143;refine C.mono ?_;rintro e w2 ⟨rfl,e2⟩;subst e2)
    go_roundw
    case rel=>exact ⟨k+1,by go_num,by omega,⟨_,rfl⟩,by trivial,HU.o⟩
    case measure=>simp;omega
  ·have hltI:¬ (k:Int)<(N:Int):=by omega
   have HD:Hid (zy wr (.pointer a) (dn t L)):=by
    have h:=HP.o
    rw [List.take_of_length_le (by rw [HL.o];omega)] at h
    exact h
   go_wp2_with fail
   go_ret
   exact ⟨⟨_,rfl,HD.o⟩,rfl⟩
theorem zy.isSome {w:World} {au:Option Addr} {o:Option T3} (h:zy w (.pointer au) o):au.isSome=o.isSome:=by
 cases o with
 | none=>have e:Value.pointer au=.pointer none:=h;injection e with e;rw [e];rfl
 | some t=>obtain ⟨p,e,_⟩:=h;injection e with e;rw [e];rfl
def cutN (s:ByteArray):List ByteArray:=(jo (tl s)).map ofB
theorem uI {s:ByteArray} {L:List ByteArray} (h:L.map tl=dy (tl s) 64) (he:yo (tl s) 64=0):L=cutN s:=by
 unfold dy at h
 rw [if_pos he] at h
 unfold cutN
 rw [← h,List.map_map]
 have:(ofB ∘ tl)=id:=by funext x;exact uu x
 rw [this,List.map_id]
theorem sK {s:ByteArray} (he:yo (tl s) 64=0):(cutN s).length≤64:=by
 unfold yo at he
 split at he
 ·cases he
 ·rename_i h
  unfold cutN
  rw [List.length_map]
  omega
def subS (t:T3) (s:ByteArray):Option T3:=if yo (tl s) 64=0 then dn t (cutN s) else none
theorem wQ (p:Nat) (t:T3) (s:ByteArray) (w:World) (ht:AtTF w p t.1 t.2.1 t.2.2) (hr:t.2.2.rises) (hs:s.size≤1048576):
  Calls Tryz.prog 74 #[.pointer (some ⟨p,0,none⟩),.string s] w fun e w'=>∃ u,e=.returned (.tuple #[u,.bool (subS t s).isSome])∧zy w' u (subS t s)∧G w w':=by
 have C1:=rQ s 64 w hs
 have HT:=hid (⟨ht,hr⟩:_∧_)
 obtain ⟨E,hE⟩:∃ E,yo (tl s) 64=E:=⟨_,rfl⟩
 have HE:=hid hE
 rw [hE] at C1
 clear ht hr hE
 by_cases h0:E=0
 ·subst h0
  have hS:subS t s=dn t (cutN s):=by unfold subS;rw [if_pos HE.o]
  rw [hS]
  clear hS
  go_enter Tryz.func74,Tryz.ntmps74
  go_wp2_with (first
   | (go_at_call 109;refine C1.mono ?_;rintro e w1 ⟨⟨nv,L,rfl,hO,hL⟩,hg1⟩;obtain rfl:=uI hL HE.o;have hN:=hO.has;obtain ⟨an,cn,rfl,_⟩:=hN.form;have CD:=so p t _ _ w1 (HT.o.1.grow hg1) HT.o.2 hN (by have:=sK HE.o;omega);have HG1:=hid hg1;clear hO hL hN hg1)
   | (go_at_call 110;refine CD.mono ?_;rintro e w2 ⟨⟨u,rfl,hu⟩,e2⟩;subst e2;have HU:=hid hu;obtain ⟨au,rfl⟩:=hu.form;clear hu))
  go_ret2
  refine ⟨.pointer au,?_,HU.o,HG1.o⟩
  rw [← HU.o.isSome]
  rfl
 ·have hS:subS t s=none:=by unfold subS;rw [if_neg (by rw [HE.o];exact h0)]
  rw [hS]
  have h1:(E !=0)=true:=by simpa using h0
  clear hS h0
  go_enter Tryz.func74,Tryz.ntmps74
  go_wp2_with (go_at_call 109;refine C1.mono ?_;rintro e w1 ⟨⟨nv,L,rfl,hO,hL⟩,hg1⟩;obtain ⟨an,cn,rfl,_⟩:=hO.has.form;have HG1:=hid hg1;clear hO hL hg1)
  go_ret2
  exact ⟨_,rfl,rfl,HG1.o⟩
end Go.Proofs.YtjikkhbcbfpocaaGreatDoor
