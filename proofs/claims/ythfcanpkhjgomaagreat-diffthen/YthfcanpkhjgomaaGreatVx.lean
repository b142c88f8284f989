import Derived.Test.YthfcanpkhjgomaaGreatVw
import Derived.Test.YthfcanpkhjgomaaGreatSameB
namespace Go.Proofs.YthfcanpkhjgomaaGreat.Ch
open Go.RowKit
def turnC (c:Cd):Cd:=⟨c.path,c.new,c.old⟩
theorem OwnsR.nil (w:World) (lo:Nat):OwnsR w lo (.slice none 0 0) []:=World.ownsRow_nil _ _ _ _
end Go.Proofs.YthfcanpkhjgomaaGreat.Ch
namespace Go.Proofs.YthfcanpkhjgomaaGreat
open Go.RowKit
open Ch (Cd)
theorem T1.kid {w:World} {p:Nat} {t:T3} (h:T1 w p t):∃ k,AtT w p t.1 t.2.1 k∧k.flat=t.2.2∧k.plain w∧Tr w p:=by
 obtain ⟨k,h1,h2,h3,_,h4⟩:=h
 exact ⟨k,h1,h2,K.all_plain h3,h4⟩
theorem T1.si {w:World} {p:Nat} {t:T3} (h:T1 w p t):∃ q:Kid,kT q=t∧q.p=p∧SiAt w (some q):=by
 obtain ⟨k,h1,h2,h3,h4⟩:=h.kid
 refine ⟨⟨⟨#[]⟩,p,t.1,t.2.1,k⟩,?_,rfl,fun q e=>?_⟩
 ·show (t.1,t.2.1,k.flat)=t
  rw [h2]
 ·cases e
  exact ⟨h1,h3,h4⟩
def difT (t u:T3):List Cd:=(DO.df [] t.1 u.1++DO.wk (t.2.2.size+u.2.2.size+1) [] t.2.2 u.2.2).map toC
theorem difs_T (q r:Kid):difs (some q) (some r)=difT (kT q) (kT r):=rfl
theorem sameT_any (p pu:Nat) (t u:T3) (o:Bool) (w:World) (ht:T1 w p t) (hu:T1 w pu u) (r1:t.2.2.rises) (r2:u.2.2.rises) (s1:t.2.2.size≤100000) (s2:u.2.2.size≤100000):
  Calls Tryz.prog 21 #[.pointer (some ⟨p,0,none⟩),.pointer (some ⟨pu,0,none⟩),.bool o] w fun e w'=>e=.returned (.bool (sameT o t u))∧G w w':=by
 obtain ⟨k,a1,a2,a3,a4⟩:=ht.kid
 obtain ⟨l,b1,b2,b3,b4⟩:=hu.kid
 have:=same_any _ k (Nat.lt_succ_self _) o p t.1 t.2.1 (some ⟨pu,0,none⟩) (some (u.1,u.2.1,l)) w a1 a3 a4 (by rw [a2];exact r1) (by rw [a2];exact s1) ⟨pu,rfl,b1,b3,b4,by rw [b2];exact r2,by rw [b2];exact s2⟩
 have e:sameK o (t.1,t.2.1,k) (some (u.1,u.2.1,l))=sameT o t u:=by
  show sameT o (t.1,t.2.1,k.flat) (u.1,u.2.1,l.flat)=_
  rw [a2,b2]
 rw [e] at this
 exact this
theorem difT_dd {t u:T3} (ht:Good t) (hu:Good u) {q r:Kid} (e1:kT q=t) (e2:kT r=u):difT t u=(dl [] (some q) (some r)).map toC∧Dd t u (dl [] (some q) (some r)):=by
 subst e1;subst e2
 exact ⟨rfl,dl_dd ht hu⟩
theorem turnC_map (D:List DO.Dif):(D.map toC).map Ch.turnC=(D.map swapD).map toC:=by
 rw [List.map_map,List.map_map]
 rfl
theorem difT_turn {t u:T3} (ht:Good t) (hu:Good u) {q r:Kid} (e1:kT q=t) (e2:kT r=u):(difT t u).map Ch.turnC=difT u t:=by
 subst e1;subst e2
 show ((dl [] (some q) (some r)).map toC).map Ch.turnC=(dl [] (some r) (some q)).map toC
 rw [turnC_map,dl_turn ht hu]
theorem difT_apply {t u:T3} (ht:Good t) (hu:Good u) {q r:Kid} (e1:kT q=t) (e2:kT r=u):apE t (difT t u)=0∧∀ z,apM t (difT t u)=some z→Made t u z∧sameT false z u=true:=by
 obtain ⟨e,hd⟩:=difT_dd ht hu e1 e2
 rw [e]
 refine ⟨apE_dd ht hu hd,fun z hz=>?_⟩
 obtain ⟨y,hy,hm⟩:=ap_dd ht hu hd
 rw [hy] at hz
 cases hz
 exact ⟨hm,hm.same ht hu⟩
theorem difT_nil {t u:T3} (ht:Good t) (hu:Good u) {q r:Kid} (e1:kT q=t) (e2:kT r=u):difT t u=[]↔sameT false t u=true:=by
 obtain ⟨e,hd⟩:=difT_dd ht hu e1 e2
 rw [← hd.nil ht hu,e,List.map_eq_nil_iff]
theorem difT_then {t u x:T3} (ht:Good t) (hu:Good u) (hx:Good x) {q r s:Kid} (e1:kT q=t) (e2:kT r=u) (e3:kT s=x):Th.thenE (difT t u) (difT u x)=0∧Th.thenR (difT t u) (difT u x)=difT t x:=by
 subst e1;subst e2;subst e3
 exact dl_then ht hu hx
theorem difT_of_ap {t z:T3} {L:List Cd} (ht:Good t) {q r:Kid} (e1:kT q=t) (e2:kT r=z) (hE:apE t L=0) (h:apM t L=some z):Good z∧difT t z=L:=by
 subst e1;subst e2
 unfold apE at hE
 split at hE
 ·cases hE
 rename_i h1
 split at hE
 ·cases hE
 rename_i h2
 have hr:Ch.riseB none L=true:=by simpa using h1
 have hs:startsB (kT q) L=true:=by simpa using h2
 exact ⟨(Dd.of_ap ht hr hs h).1,dl_ap ht hr hs h⟩
end Go.Proofs.YthfcanpkhjgomaaGreat
