import Derived.Test.YthfcanpkhjgomaaGreatCMem
import Derived.Test.YthfcanpkhjgomaaGreatCBkRows
import Derived.Deep.AppendLies
import Derived.Laws.AppendOwnNone
set_option maxRecDepth 100000
namespace Go.Proofs.YthfcanpkhjgomaaGreat.Ch
open Go.RowKit Bk
abbrev Ru:=Cd
def rcs (L:List Ru):List Value:=flat cc L
theorem rcs_len (L:List Ru):(rcs L).length=L.length*71:=flat_len jl L
theorem rcs_app (K M:List Ru):rcs (K++M)=rcs K++rcs M:=flat_app _ K M
theorem rcs_one (L:List Ru):∀ u∈rcs L,u.oneCell'=true:=flat_one cc_one L
def OwnsR (w:World) (lo:Nat) (v:Value) (L:List Ru):Prop:=w.ownsRow lo 66 71 v L.length (rcs L)
def HasQ (w:World) (v:Value) (L:List Ru):Prop:=Bk.HasV w v L.length (rcs L)
theorem OwnsR.form {w:World} {lo:Nat} {v:Value} {l:List Ru} (h:OwnsR w lo v l):∃ p c,v=.slice p l.length c:=row_form h
theorem HasQ.form {w:World} {v:Value} {L:List Ru} (h:HasQ w v L):∃ ao cap,v=.slice ao L.length cap∧L.length≤cap:=by
 rcases h with ⟨rfl,e⟩ | ⟨g,cap,rfl,hc,_⟩
 ·exact ⟨none,0,by rw [e],by omega⟩
 ·exact ⟨_,cap,rfl,hc⟩
theorem HasQ.below {w w':World} {v:Value} {L:List Ru} (h:HasQ w v L) (hb:Below w.heap.size w w'):HasQ w' v L:=by
 rcases h with h | ⟨g,cap,rfl,hc,h⟩
 ·exact .inl h
 ·exact .inr ⟨g,cap,rfl,hc,fun i u hi=>(hb.cell (p:=⟨g,i,none⟩) (World.block_lt_of_cell? _ ⟨g,i,none⟩ (h i u hi))).trans (h i u hi)⟩
theorem OwnsR.hasq {w:World} {lo:Nat} {v:Value} {L:List Ru} (h:OwnsR w lo v L):HasQ w v L:=Bk.HasV.of_row h
theorem HasQ.at {w:World} {ao:Option Addr} {cap:Nat} {L:List Ru} (h:HasQ w (.slice ao L.length cap) L) {i:Nat} {r:Ru} (hi:L[i]?=some r):∃ g,ao=some ⟨g,0,none⟩∧Lies w g (i*71) (cc r):=by
 rcases h with ⟨_,e⟩ | ⟨g,c,e,_,h⟩
 ·have:=List.length_eq_zero_iff.1 e
  subst this;simp at hi
 ·cases e
  refine ⟨g,rfl,fun j u hj=>h _ _ ?_⟩
  have hl:=(Array.getElem?_eq_some_iff.1 hj).1
  rw [jl] at hl
  unfold rcs
  rw [flat_at jl hi hl]
  exact hj
theorem owns_lit0 (w:World):OwnsR (w.alloc (.cells #[] 66)) w.heap.size (.slice (some ⟨w.heap.size,0,none⟩) 0 0) []:=
 ⟨by simp [rcs,flat],.inr ⟨_,0,#[],rfl,Nat.le_refl _,heap_alloc_new w _,Nat.le_refl _,Nat.zero_le _,by simp,by simp [rcs,flat]⟩⟩
def HasA (w:World) (v:Value) (L:List Cd):Prop:=(v=.slice none 0 0∧L=[])∨∃ g o cap,v=.slice (some ⟨g,o,none⟩) L.length cap∧L.length≤cap∧∀ i x,L[i]?=some x→Lies w g (o+i*71) (cc x)
theorem HasA.at {w:World} {ao:Option Addr} {n cp:Nat} {L:List Cd} (h:HasA w (.slice ao n cp) L) {i:Nat} {x:Cd} (hi:L[i]?=some x):∃ g o,ao=some ⟨g,o,none⟩∧Lies w g (o+i*71) (cc x):=by
 rcases h with ⟨_,rfl⟩ | ⟨g,o,cap,e,_,h⟩
 ·simp at hi
 ·injection e with e1 _ _
  exact ⟨g,o,e1,h i x hi⟩
theorem HasA.below {w w':World} {v:Value} {L:List Cd} (h:HasA w v L) (hb:Below w.heap.size w w'):HasA w' v L:=by
 rcases h with h | ⟨g,o,cap,e,hc,h⟩
 ·exact .inl h
 ·exact .inr ⟨g,o,cap,e,hc,fun i x hi=>(h i x hi).below hb⟩
theorem HasA.form {w:World} {v:Value} {L:List Cd} (h:HasA w v L):∃ ao cap,v=.slice ao L.length cap∧L.length≤cap:=by
 rcases h with ⟨rfl,rfl⟩ | ⟨g,o,cap,e,hc,_⟩
 ·exact ⟨none,0,rfl,Nat.le_refl _⟩
 ·exact ⟨_,cap,e,hc⟩
theorem HasQ.has {w:World} {v:Value} {L:List Cd} (h:HasQ w v L):HasA w v L:=by
 have h0:=h
 rcases h with ⟨rfl,e⟩ | ⟨g,cap,rfl,hc,_⟩
 ·exact .inl ⟨rfl,List.length_eq_zero_iff.1 e⟩
 ·refine .inr ⟨g,0,cap,rfl,hc,fun i y hi=>?_⟩
  obtain ⟨g',e',hl⟩:=h0.at hi
  injection e' with e'
  injection e' with e'
  subst e'
  rw [Nat.zero_add]
  exact hl
theorem hid {p:Prop} (h:p):Hid p:=h
end Go.Proofs.YthfcanpkhjgomaaGreat.Ch
namespace Go.Proofs.YthfcanpkhjgomaaGreat.Ch
open Go.RowKit
theorem addr_add (g o j:Nat):(⟨g,o,none⟩:Addr).add j=⟨g,o+j,none⟩:=Addr.add_mid g o j
theorem grown_of {w w':World} (h:Below w.heap.size w w'):w.grownBy w' none:=⟨h.os,h.tape,h.output,h.size,fun k hk _=>h.block k hk⟩
theorem OwnsR.up {w w':World} {lo:Nat} {v:Value} {R:List Cd} (h:OwnsR w lo v R) (hb:Below w.heap.size w w'):OwnsR w' lo v R:=World.ownsRow.kept h (grown_of hb) (by cases hv:v.ownBlock<;>simp)
theorem app_run {w:World} {lo:Nat} {v u:Value} {R L:List Cd} (ty:TypeId) (h:OwnsR w lo v R) (hs:HasA w u L) (hb:lo≤w.heap.size) (hl:R.length+L.length≤100000):
  ∃ v' w',(Builtin.append_ #[31,31] ty #[v,u]).run Tryz.prog w=.ok v' w'∧OwnsR w' lo v' (R++L)∧w.grownBy w' v.ownBlock∧(v≠.slice none 0 0→v'≠.slice none 0 0)∧(v'.ownBlock=v.ownBlock∨v'.ownBlock=some w.heap.size):=by
 obtain ⟨i0,hi,hz0,hz1,hz2⟩:=info_parts info55
 rcases hs with ⟨rfl,rfl⟩ | ⟨g,o,cp,rfl,hc,hat⟩
 ·exact ⟨v,w,run_append_owned_none (P:=Tryz.prog) (w:=w) lo 31 ty 66 i0 71 Tryz.underlying31 hi v _ _ h,by simpa using h,⟨rfl,rfl,rfl,Nat.le_refl _,fun _ _ _=>rfl⟩,fun h=>h,.inl rfl⟩
 ·obtain ⟨v',w',h1,h2,h3,h4,h5⟩:=run_append_own_at (P:=Tryz.prog) w lo 31 ty 66 i0 (.agg z55) 71 128 Tryz.underlying31 hi hz0 hz1 hz2 z55_size (by omega) v R.length (rcs R) h ⟨g,o,none⟩ L.length cp (rcs L) (rcs_len L) (fun j u hj=>by
   have hlt:j<L.length*71:=by have:=(List.getElem?_eq_some_iff.1 hj).1;rwa [rcs_len] at this
   obtain ⟨x,hx⟩:∃ x,L[j/71]?=some x:=⟨L[j/71]'(by omega),by simp⟩
   have hl2:=hat _ _ hx
   have hm:j%71<71:=Nat.mod_lt _ (by omega)
   have e2:=flat_at (f:=cc) jl hx hm
   unfold rcs at hj
   rw [show j/71*71+j%71=j by omega,hj] at e2
   have:=hl2 (j%71) u e2.symm
   rw [addr_add]
   rw [show o+j=o+j/71*71+j%71 by omega]
   exact this) (rcs_one L) (by unfold maxLen;omega) (by omega) hb
  refine ⟨v',w',h1,?_,h3,fun hv e=>hv (h4.1 e).1,?_⟩
  ·unfold OwnsR
   rw [List.length_append,rcs_app]
   exact h2
  ·rcases h5 with h5 | h5
   ·exact .inl h5
   ·exact .inr h5
theorem exec_app {o:Oper} {a:Act} {s x:Operand} (ho:o.op=.call { callee:=.builtin .append,args:=#[s,x],argTypes:=#[31,31] }) {v src v':Value} {w w':World} (hs:a.eval s=v) (hx:a.eval x=src)
  (hr:(Builtin.append_ #[31,31] o.type #[v,src]).run Tryz.prog w=.ok v' w'):(execOp a.eval o).run Tryz.prog w=.ok (.value v') w':=by
 unfold execOp
 simp only [ho,resolve,invoke,builtin,Sem.run_bind,Sem.run_pure,Result.andThen_ok,List.map_toArray,List.map_cons,List.map_nil,hs,hx,hr]
theorem has_one {w:World} {B:Nat} {Z:Array Value} {c:Cd} (h:w.heap[B]?=some (.cells Z 66 (0,0))) (hc:cc c=Z):HasA w (.slice (some ⟨B,0,none⟩) 1 1) [c]:=by
 refine .inr ⟨B,0,1,rfl,Nat.le_refl _,fun i x hi=>?_⟩
 match i,hi with
 | 0,hi=>
  simp at hi
  subst hi
  intro j u hj
  rw [hc] at hj
  simp only [World.cell?,h]
  simpa using hj
theorem app_one {w:World} {lo:Nat} {v:Value} {R:List Cd} (ty:TypeId) (c:Cd) (Z:Array Value) (hc:cc c=Z) (h:OwnsR w lo v R) (hb:lo≤w.heap.size) (hl:R.length+1≤100000) (B:Nat) (hB:w.heap.size=B):
  ∃ v' w',(Builtin.append_ #[31,31] ty #[v,.slice (some ⟨B,0,none⟩) 1 1]).run Tryz.prog (w.alloc (.cells Z 66))=.ok v' w'∧OwnsR w' lo v' (R++[c])∧Below lo w w'∧(∀ b,b<w.heap.size→v.ownBlock≠some b→w'.heap[b]?=w.heap[b]?)∧v'≠.slice none 0 0∧(∀ b,v'.ownBlock=some b→v.ownBlock=some b∨w.heap.size≤b):=by
 subst hB
 have h1:OwnsR (w.alloc (.cells Z 66)) lo v R:=World.ownsRow.alloc h _
 obtain ⟨v',w',r1,r2,r3,_,r5⟩:=app_run ty h1 (has_one (World.alloc_heap_new w _) hc) (by simp;omega) (by simpa using hl)
 refine ⟨v',w',r1,r2,?_,fun b hb' hn=>?_,?_,fun b e=>?_⟩
 rotate_left 3
 ·rcases r5 with q | q
  ·rw [q] at e;exact .inl e
  ·rw [q] at e
   injection e with e
   simp at e
   exact .inr (by omega)
 ·exact ((Below.refl lo w).alloc hb _).grown r3 (by simp;omega) fun k hk=>(World.ownsRow.lt h1 k hk).1
 ·rw [r3.block b (by simp;omega) (fun e=>hn e.symm),Below.heap_alloc w _ b hb']
 ·rintro rfl
  have:=row_form r2
  obtain ⟨p,q,e⟩:=this
  injection e with _ e _
  simp at e
end Go.Proofs.YthfcanpkhjgomaaGreat.Ch
