import Derived.Maps.AppendAt
import Derived.Laws.OwnMore
namespace Go.Proofs.YthfcanpkhjgomaaGreat
open Go
theorem ownsRow_shorter {w:World} {base:Nat} {e:TypeId} {size g n m cap:Nat} {xs ys:List Value} (h:w.ownsRow base e size (.slice (some ⟨g,0,none⟩) (n+m) cap) (n+m) (xs++ys)) (hl:xs.length=n*size):w.ownsRow base e size (.slice (some ⟨g,0,none⟩) n cap) n xs:=by
 obtain ⟨_,h | ⟨g',cap',cur,hv,hb,hh,hn,hm,hs,ht⟩⟩:=h
 ·cases h.1
 ·injection hv with e1 e2 e3
  injection e1 with e1
  injection e1 with e1
  subst e1 e3
  refine ⟨hl,.inr ⟨g,cap,cur,rfl,hb,hh,by omega,hm,hs,?_⟩⟩
  have h2:=congrArg (List.take (n*size)) ht
  rw [List.take_take,List.take_append_of_le_length (by omega),List.take_of_length_le (l:=xs) (by omega),Nat.min_eq_left (Nat.mul_le_mul_right _ (by omega))] at h2
  exact h2
def Behind (w:World) (v v':Value):Prop:=(∃ g n m cap,v=.slice (some ⟨g,0,none⟩) n cap∧v'=.slice (some ⟨g,0,none⟩) (n+m) cap)∨v'.ownBlock=some w.heap.size
theorem run_append_both {P:Program} (w:World) (base:Nat) (t ty e:TypeId) (i:TypeInfo) (z:Value) (size bytes:Nat) (ht:P.underlying t=some (.slice e)) (hi:P.info? e=some i) (hz:i.zero=some z)
  (hsize:i.size=size) (hby:i.bytes=bytes) (hzs:z.cells.size=size) (hsz:0<size)
  (v:Value) (n:Nat) (xs:List Value) (hown:w.ownsRow base e size v n xs)
  (a:Addr) (m c:Nat) (news:List Value) (hl:news.length=m*size) (hnews:∀ j u,news[j]?=some u→w.cell? (a.add j)=some u) (h1:∀ u∈news,u.oneCell'=true)
  (h63:n+m≤maxLen) (hbytes:(n+m)*bytes≤140737488355328) (hbase:base≤w.heap.size) (hm0:0<m):
  ∃ v' w',(Builtin.append_ #[t,t] ty #[v,.slice (some a) m c]).run P w=.ok v' w'∧w'.ownsRow base e size v' (n+m) (xs++news)∧w.grownBy w' v.ownBlock∧Behind w v v'∧w'.ownsRow base e size v n xs:=by
 obtain ⟨v',w',hr,h2,h3,_,h5⟩:=run_append_own_at (P:=P) w base t ty e i z size bytes ht hi hz hsize hby hzs hsz v n xs hown a m c news hl hnews h1 h63 hbytes hbase
 rcases hown.2 with ⟨rfl,hn0⟩ | ⟨g',cap,cur,rfl,hbg,hgg,hnc,hcm,hcs,htake⟩
 ·refine ⟨v',w',hr,h2,h3,.inr ?_,hown.1,.inl ⟨rfl,hn0⟩⟩
  rcases h5 with h5 | h5
  ·obtain ⟨_,h | ⟨g,cap,cur,hv,_⟩⟩:=h2
   ·exact absurd h.2 (by omega)
   ·rw [hv] at h5;simp [Value.ownBlock] at h5
  ·exact h5
 ·by_cases hroom:n+m≤cap
  ·obtain ⟨w2,hr2,ho2,hg2⟩:=run_append_fits (P:=P) w base t ty e i size ht hi hsize g' n cap xs hown a m c news hl hnews h1 hroom
   have hr0:=hr2
   rw [hr] at hr0
   injection hr0 with e1 e2
   subst e1 e2
   exact ⟨_,_,hr,h2,h3,.inl ⟨g',n,m,cap,rfl,rfl⟩,ownsRow_shorter h2 hown.1⟩
  ·have hr2:=run_append_grow (P:=P) w t ty e i z ht hi hz ⟨g',0,none⟩ n cap xs (by rw [hsize];exact hown.1) (hown.cells (g:=g') rfl) a m c news (by rw [hsize];exact hl) hnews (by omega) (by simp only [maxLen] at h63;omega) (growslice_fits (by omega) (by rw [hby];exact hbytes))
   have hr0:=hr2
   rw [hr] at hr0
   injection hr0 with e1 e2
   subst e1
   have hlt:=(World.ownsRow.lt hown g' rfl).2
   refine ⟨_,_,hr,h2,h3,.inr rfl,hown.1,.inr ⟨g',cap,cur,rfl,hbg,?_,hnc,hcm,hcs,htake⟩⟩
   rw [e2]
   exact (heap_alloc_old w.drew _ g' hlt).trans hgg
theorem wpList_append_both {P:Program} {w:World} {ops:Array Oper} {rest:List Oper} {o:Oper} {a:Act} {Q:Exit→Act→World→Prop} (hgd:o.guard=none) (s x:Operand) (t:TypeId)
  (ho:o.op=.call { callee:=.builtin .append,args:=#[s,x],argTypes:=#[t,t] })
  (base:Nat) (e:TypeId) (i:TypeInfo) (z:Value) (size bytes:Nat) (ht:P.underlying t=some (.slice e)) (hi:P.info? e=some i) (hz:i.zero=some z)
  (hsize:i.size=size) (hby:i.bytes=bytes) (hzs:z.cells.size=size) (hsz:0<size)
  (v:Value) (n:Nat) (xs:List Value) (hs:a.eval s=v) (hown:w.ownsRow base e size v n xs)
  (ad:Addr) (m c:Nat) (news:List Value) (hx:a.eval x=.slice (some ad) m c) (hl:news.length=m*size) (hnews:∀ j u,news[j]?=some u→w.cell? (ad.add j)=some u) (h1:∀ u∈news,u.oneCell'=true)
  (h63:n+m≤maxLen) (hbytes:(n+m)*bytes≤140737488355328) (hbase:base≤w.heap.size)
  (hm0:0<m) (h:∀ v' w',w'.ownsRow base e size v' (n+m) (xs++news)→w.grownBy w' v.ownBlock→Behind w v v'→w'.ownsRow base e size v n xs→wpList P ops Q rest (a.put o.dst v') w'):
  wpList P ops Q (o::rest) a w:=by
 refine wpList_plain hgd fun K hK=>?_
 obtain ⟨v',w',hr,h2,h3,h4,h5⟩:=run_append_both (P:=P) w base t o.type e i z size bytes ht hi hz hsize hby hzs hsz v n xs hown ad m c news hl hnews h1 h63 hbytes hbase hm0
 unfold Oper.wp execOp
 simp only [ho,resolve,invoke,builtin,Sem.run_bind,Sem.run_pure,Result.andThen_ok,List.map_toArray,List.map_cons,List.map_nil,hs,hx,hr]
 exact hK _ _ (h v' w' h2 h3 h4 h5)
end Go.Proofs.YthfcanpkhjgomaaGreat
