import Derived.Test.YthfcanpkhjgomaaGreatXj
import Derived.Deep.CutBlock
set_option maxRecDepth 100000
set_option maxHeartbeats 16000000
namespace Go.Proofs.YthfcanpkhjgomaaGreat
open Go.RowKit Ch
theorem join_size:∀ {L:List By},(∀ x∈L,x.length≤255)→(joinL L).length≤256*L.length
 | [],_=>Nat.le_refl _
 | [x],h=>by have:=h x (by simp);simp only [joinL,List.length_cons,List.length_nil];omega
 | x::y::t,h=>by
  have h1:=h x (by simp)
  have h2:=join_size (L:=y::t) fun z hz=>h z (List.mem_cons_of_mem _ hz)
  simp only [joinL,List.length_append,List.length_cons] at h2 ⊢
  omega
theorem FL_small {t:T3} (ht:Good t):∀ e∈FL t,e.p.size≤1048576:=fun e he=>by
 obtain ⟨M,e1,e2⟩:=(FL_mem ht).1 he
 obtain ⟨g1,g2⟩:=val_good ht e2
 have h:=join_size (L:=M.map tl) fun x hx=>by
  obtain ⟨y,hy,rfl⟩:=List.mem_map.1 hx
  have:=g1 y hy
  unfold nameB at this
  simp only [decide_eq_true_eq] at this
  exact this.2.1
 rw [List.length_map] at h
 rw [e1]
 unfold pth
 rw [← jg,qF]
 omega
theorem grow37_any (t:T3) (ht:Good t) (ao:Option Addr) (cp:Nat) (w:World) (hE:HasE w (.slice ao (FL t).length cp) (FL t)) (hn:(FL t).length≤100000):
  Calls Tryz.prog 37 #[.slice ao (FL t).length cp] w fun e w'=>∃ c,e=.returned (.agg c)∧HasNP w' (NewC w w') c ⟨#[]⟩ t.1 t.2.1 t.2.2∧G w w':=by
 obtain ⟨n,hn'⟩:∃ n,(FL t).length=n:=⟨_,rfl⟩
 obtain ⟨B,hB⟩:∃ B,w.heap.size=B:=⟨_,rfl⟩
 obtain ⟨w0,hw0⟩:∃ w0,w.alloc (.cells z30 30)=w0:=⟨_,rfl⟩
 have g0:G w w0:=by rw [← hw0];exact G.alloc _ _
 have v0:Var w0 B z30:=by rw [← hw0,← hB];exact Var.new _ _
 have hlen:t.2.2.len≤100000:=by
  have h1:=t.2.2.len_le_size
  have h2:(FL t).length=t.2.2.size+1:=by unfold FL;rw [List.length_cons,qN]
  omega
 have C:=hid (grow80_any (t.2.2.size+1) t.2.2 (Nat.lt_succ_self _) ⟨#[]⟩ t.1 t.2.1 [] (FL t) 0 [] ao cp w0 (hE.below g0) hn (FL_small ht) (by rw [List.append_nil];rfl) (fun x hx=>by cases hx) (check_rise ht.c).2 ht.rises (fun e R' q=>by cases q) hlen)
 rw [hn'] at C ⊢
 have H0:=hid (And.intro hw0 (And.intro g0 (And.intro v0 hB)))
 clear hE hn hw0 g0 v0 hlen
 go_enter Tryz.func37,Tryz.ntmps37
 go_upto_region 1 with ((with_reducible refine jJ (.pointer (some ⟨B,0,none⟩)) w0 ?_ ?_ ?_);(rw [← H0.out.1];exact jf rfl _ B H0.out.2.2.2);kernel_rfl)
 go_wp2_with (first
  | (go_at_call 80;refine C.out.mono ?_;rintro e w1 ⟨c,rfl,hk,g1⟩;obtain ⟨kv,rfl,hs⟩:=hk;have ho:kv.oneCell'=true:=(by obtain ⟨_,_,rfl,_⟩:=hs;rfl);obtain ⟨c1,hc1⟩:∃ c1,nc ⟨#[]⟩ t.1 t.2.1 kv=c1:=⟨_,rfl⟩;rw [hc1];obtain ⟨D,hD⟩:∃ D,w1.heap.size=D:=⟨_,rfl⟩;obtain ⟨n1,n2,n3⟩:=new_var w1 c1;obtain ⟨w2,hw2⟩:∃ w2,(w1.alloc (.cells z30 30)).setRow D c1=w2:=⟨_,rfl⟩;rw [hD,hw2] at n1 n2;have H1:=hid (And.intro hD (And.intro hw2 (And.intro n1 (And.intro n2 (And.intro (H0.out.2.2.1.grow (g1.trans n1)) (And.intro (jZ ⟨#[]⟩ t.1 t.2.1 kv) (And.intro (nc_one ⟨#[]⟩ t.1 t.2.1 kv ho) (And.intro hc1 (And.intro hs g1)))))))));clear hD hw2 n1 n2 n3 hc1 hs g1 C)
  | ((with_reducible refine jJ (.pointer (some ⟨D,0,none⟩)) (w1.alloc (.cells z30 30)) ?_ ?_ ?_);exact jf rfl _ D H1.out.1;kernel_rfl)
  | ((with_reducible refine jP w2 ?_ ?_ ?_);(rw [← H1.out.2.1];exact jX _ _ rfl D c1 z30 rfl rfl _ (by rw [← H1.out.1];exact Var.new _ z30) (by rw [← H1.out.2.2.2.2.2.2.2.1];exact H1.out.2.2.2.2.2.1) jU (by rw [← H1.out.2.2.2.2.2.2.2.1];exact H1.out.2.2.2.2.2.2.1));kernel_rfl)
  | ((with_reducible refine jA (.agg c1) ?_ ?_ ?_);exact jH _ rfl D 0 rfl c1 (by rw [← H1.out.2.2.2.2.2.2.2.1];exact H1.out.2.2.2.2.2.1) H1.out.2.2.2.1.lies;kernel_rfl)
  | ((with_reducible refine jP (w2.setRow B c1) ?_ ?_ ?_);exact jX _ _ rfl B c1 z30 rfl rfl _ H1.out.2.2.2.2.1 (by rw [← H1.out.2.2.2.2.2.2.2.1];exact H1.out.2.2.2.2.2.1) jU (by rw [← H1.out.2.2.2.2.2.2.2.1];exact H1.out.2.2.2.2.2.2.1);kernel_rfl))
 obtain ⟨_,_,n1,_,v2,s1,_,hc1,hs,g1⟩:=H1.out
 refine bodyPost_ret (results_cell_row (P:=Tryz.prog) (p:=2) (ty:=30) rfl _ _ B 30 c1 (0,0) _ rfl v2.set under30 rfl (by rw [size30,← hc1,s1])) rfl ⟨c1,rfl,?_,?_⟩
 ·have hup:=HasNP.up (n0:=⟨#[]⟩) (v:=t.1) (m:=t.2.1) ⟨kv,rfl,hs⟩ n1
  obtain ⟨kv2,q1,q2⟩:=hup
  refine ⟨kv2,by rw [← hc1,q1],q2.keep (w':=w2.setRow B c1) (P':=NewC w (w2.setRow B c1)) fun b hb=>?_⟩
  obtain ⟨h1,o,h2,h3⟩:=hb
  have h4:=H0.out.2.2.1.lt
  have h5:=H0.out.2.1.size
  have h6:(w2.setRow B c1).heap[b]?=w2.heap[b]?:=setRow_other _ _ _ _ (by omega)
  exact ⟨h6,by omega,o,h6.trans h2,h3⟩
 ·have g4:=(H0.out.2.1.trans g1).trans n1
  have:=H0.out.2.2.2
  exact ⟨g4.os,g4.tape,g4.output,by have:=g4.size;simpa using this,fun b hb=>(setRow_other _ _ _ _ (by omega)).trans (g4.block b hb)⟩
theorem ref_none {t:T3} {L:List Cd} {N:Nat} (ht:Good t) (hr:riseB none L=true) (hs:startsB t L=true) (hN:(FL t).length+L.length<N) (e:mrg N (FL t) L=none):apM t L=none:=by
 have h:=Lst.of ht hr hs
 obtain ⟨c,hc,k⟩:=(mrg_spec N (FL t) L hN (FL_srt ht) h.lt).1 e
 cases ha:apM t L with
 | none=>rfl
 | some z=>
  have:=(ap_yes h (Dd.of_ap ht hr hs ha).1 ha).1 c hc
  rw [k] at this
  cases this
theorem ref_some {t:T3} {L:List Cd} {N:Nat} {O:List Et} (ht:Good t) (hr:riseB none L=true) (hs:startsB t L=true) (hN:(FL t).length+L.length<N) (e:mrg N (FL t) L=some O):
  MrgIs (FL t) L O∧(treeR O=false→apM t L=none)∧(treeR O=true→∃ z,Good z∧apM t L=some z∧O=FL z):=by
 have h:=Lst.of ht hr hs
 have hm:=(mrg_spec N (FL t) L hN (FL_srt ht) h.lt).2 O e
 refine ⟨hm,fun hT=>?_,fun hT=>?_⟩
 ·cases ha:apM t L with
  | none=>rfl
  | some z=>
   obtain ⟨_,k2,k3⟩:=ap_yes h (Dd.of_ap ht hr hs ha).1 ha
   rw [k2 O hm] at hT
   rw [hT] at k3
   cases k3
 ·cases ha:apM t L with
  | none=>exact absurd ha (ap_no_none h hm hT)
  | some z=>
   have hz:=(Dd.of_ap ht hr hs ha).1
   exact ⟨z,hz,rfl,(ap_yes h hz ha).2.1 O hm⟩
theorem one_E (w:World) (x:Et) (D:Nat) (hD:w.heap.size=D):OwnsE (w.alloc (.cells (ec x) 91)) D (.slice (some ⟨D,0,none⟩) 1 1) [x]:=by
 refine ⟨by rw [ecs_len],.inr ⟨D,1,ec x,rfl,Nat.le_refl _,?_,Nat.le_refl _,by unfold maxLen;omega,by rw [ec_size],?_⟩⟩
 ·rw [← hD];exact heap_alloc_new _ _
 ·rw [List.take_of_length_le (by simp [ec_size])];simp [ecs,Ch.flat]
theorem appE_one {w:World} {lo D:Nat} {v:Value} {R:List Et} (x:Et) (h:OwnsE w lo v R) (hl:lo≤w.heap.size) (hR:R.length+1≤100000) (hD:w.heap.size=D):
  ∃ v2 w2,(Builtin.append_ #[86,86] 86 #[v,.slice (some ⟨D,0,none⟩) 1 1]).run Tryz.prog (w.alloc (.cells (ec x) 91))=.ok v2 w2∧OwnsE w2 lo v2 (R++[x])∧Below lo w w2:=by
 have g1:G w (w.alloc (.cells (ec x) 91)):=G.alloc _ _
 obtain ⟨v2,w2,h1,h2,h3⟩:=appE_run 86 (h.up g1) (one_E w x D hD) rfl (by simp only [World.size_alloc];omega) (by simpa using hR)
 refine ⟨v2,w2,h1,h2,Below.trans (g1.mono hl) ((Below.refl lo _).grown h3 (by simp only [World.size_alloc];omega) fun k hk=>(World.ownsRow.lt (h.up g1) k hk).1)⟩
def AJ (H:List Et) (L:List Cd) (N:Nat) (W1:World) (i k:Nat) (v:Value) (wr:World):Prop:=
 ∃ R f,(H.length-i)+(L.length-k)<f∧mrg N H L=(mrg f (H.drop i) (L.drop k)).map (fun T=>R++T)∧OwnsE wr W1.heap.size v R∧G W1 wr∧R.length≤i+k
variable {H:List Et} {L:List Cd} {N:Nat} {W1:World} {i k:Nat} {v:Value} {wr:World}
theorem AJ.up {wz:World} (h:AJ H L N W1 i k v wr) (g:G wr wz):AJ H L N W1 i k v wz:=by
 obtain ⟨R,f,h1,h2,h3,h4,h5⟩:=h
 exact ⟨R,f,h1,h2,h3.up g,h4.trans g,h5⟩
theorem AJ.g (h:AJ H L N W1 i k v wr):G W1 wr:=by obtain ⟨_,_,_,_,_,h4,_⟩:=h;exact h4
theorem AJ.form (h:AJ H L N W1 i k v wr):∃ ao n cp,v=.slice ao n cp:=by
 obtain ⟨R,_,_,_,h3,_⟩:=h
 obtain ⟨ao,cp,e⟩:=h3.has.form
 exact ⟨ao,_,cp,e⟩
theorem drop_at {α:Type} {A:List α} {i:Nat} {x:α} (h:A[i]?=some x):A.drop i=x::A.drop (i+1):=by
 have hl:=(List.getElem?_eq_some_iff.1 h).1
 rw [List.drop_eq_getElem_cons hl]
 rw [List.getElem?_eq_getElem hl] at h
 injection h with h
 rw [h]
theorem AJ.left (h:AJ H L N W1 i k v wr) {x:Et} (hx:H[i]?=some x) (hc:k=L.length∨∃ c,L[k]?=some c∧cmpL (tl x.p) (tl c.path)<0) (hk:k≤L.length) (hl:H.length+L.length≤50000) (D:Nat) (hD:wr.heap.size=D):
  ∃ v2 w2,(Builtin.append_ #[86,86] 86 #[v,.slice (some ⟨D,0,none⟩) 1 1]).run Tryz.prog (wr.alloc (.cells (ec x) 91))=.ok v2 w2∧AJ H L N W1 (i+1) k v2 w2:=by
 obtain ⟨R,f,h1,h2,h3,h4,h5⟩:=h
 have hi:=(List.getElem?_eq_some_iff.1 hx).1
 obtain ⟨v2,w2,a1,a2,a3⟩:=appE_one x h3 h4.size (by omega) hD
 obtain ⟨f',rfl⟩:∃ f',f=f'+1:=⟨f-1,by omega⟩
 have hm:mrg (f'+1) (x::H.drop (i+1)) (L.drop k)=(mrg f' (H.drop (i+1)) (L.drop k)).map (x::·):=by
  rcases hc with rfl | ⟨c,hc,hlt⟩
  ·rw [List.drop_length];rfl
  ·rw [drop_at hc,mrg,if_pos hlt]
 have hf:((fun T=>R++T) ∘ (x::·))=fun T=>R++[x]++T:=by funext T;simp
 have he:mrg N H L=(mrg f' (H.drop (i+1)) (L.drop k)).map (fun T=>R++[x]++T):=by
  rw [h2,drop_at hx,hm,Option.map_map,hf]
 exact ⟨v2,w2,a1,R++[x],f',by omega,he,a2,Below.trans (B:=W1.heap.size) h4 a3,by rw [List.length_append,List.length_singleton];omega⟩
theorem AJ.turn (h:AJ H L N W1 i k v wr) {c:Cd} (hc:L[k]?=some c) (i':Nat) (hi:(i=H.length∧i'=i)∨∃ x,H[i]?=some x∧¬ cmpL (tl x.p) (tl c.path)<0∧i'=if cmpL (tl x.p) (tl c.path)=0 then i+1 else i):
  ∃ R f,(H.length-i')+(L.length-(k+1))<f∧mrg N H L=(if rightR (vcV c.new)=false then none else (mrg f (H.drop i') (L.drop (k+1))).map fun O=>R++if c.new.kind≠0 then neE c::O else O)∧OwnsE wr W1.heap.size v R∧G W1 wr∧R.length≤i+k∧i≤i':=by
 obtain ⟨R,f,h1,h2,h3,h4,h5⟩:=h
 have hk:=(List.getElem?_eq_some_iff.1 hc).1
 obtain ⟨f',rfl⟩:∃ f',f=f'+1:=⟨f-1,by omega⟩
 have hii:i≤i':=by
  rcases hi with ⟨_,rfl⟩ | ⟨x,_,_,rfl⟩
  ·exact Nat.le_refl _
  ·split<;>omega
 refine ⟨R,f',by omega,?_,h3,h4,h5,hii⟩
 rw [h2,drop_at hc]
 rcases hi with ⟨rfl,rfl⟩ | ⟨x,hx,hn,rfl⟩
 ·rw [List.drop_length,mrg]
  split
  ·rfl
  ·rw [Option.map_map];rfl
 ·rw [drop_at hx,mrg,if_neg hn]
  split
  ·rfl
  ·rw [Option.map_map]
   have:(if cmpL (tl x.p) (tl c.path)=0 then H.drop (i+1) else x::H.drop (i+1))=H.drop (if cmpL (tl x.p) (tl c.path)=0 then i+1 else i):=by
    split
    ·rfl
    ·exact (drop_at hx).symm
   rw [this];rfl
theorem AJ.wrong (h:AJ H L N W1 i k v wr) {c:Cd} (hc:L[k]?=some c) (i':Nat) (hi:(i=H.length∧i'=i)∨∃ x,H[i]?=some x∧¬ cmpL (tl x.p) (tl c.path)<0∧i'=if cmpL (tl x.p) (tl c.path)=0 then i+1 else i) (hr:rightR (vcV c.new)=false):mrg N H L=none:=by
 obtain ⟨R,f,_,h2,_⟩:=h.turn hc i' hi
 rw [h2,if_pos hr]
theorem AJ.skip (h:AJ H L N W1 i k v wr) {c:Cd} (hc:L[k]?=some c) (i':Nat) (hi:(i=H.length∧i'=i)∨∃ x,H[i]?=some x∧¬ cmpL (tl x.p) (tl c.path)<0∧i'=if cmpL (tl x.p) (tl c.path)=0 then i+1 else i) (hr:rightR (vcV c.new)=true) (hk:c.new.kind=0):AJ H L N W1 i' (k+1) v wr:=by
 obtain ⟨R,f,h1,h2,h3,h4,h5,h6⟩:=h.turn hc i' hi
 refine ⟨R,f,h1,?_,h3,h4,by omega⟩
 rw [h2,if_neg (by rw [hr];simp)]
 simp [hk]
theorem AJ.take (h:AJ H L N W1 i k v wr) {c:Cd} (hc:L[k]?=some c) (i':Nat) (hi:(i=H.length∧i'=i)∨∃ x,H[i]?=some x∧¬ cmpL (tl x.p) (tl c.path)<0∧i'=if cmpL (tl x.p) (tl c.path)=0 then i+1 else i) (hr:rightR (vcV c.new)=true) (hk:c.new.kind≠0) (hl:H.length+L.length≤50000) (hi2:i≤H.length) (D:Nat) (hD:wr.drew.heap.size=D):
  ∃ v2 w2,(Builtin.append_ #[86,86] 86 #[v,.slice (some ⟨D,0,none⟩) 1 1]).run Tryz.prog (wr.drew.alloc (.cells (ec (neE c)) 91))=.ok v2 w2∧AJ H L N W1 i' (k+1) v2 w2:=by
 obtain ⟨R,f,h1,h2,h3,h4,h5,h6⟩:=h.turn hc i' hi
 have hkl:=(List.getElem?_eq_some_iff.1 hc).1
 have h4':=h4.trans (G.drew wr)
 obtain ⟨v2,w2,a1,a2,a3⟩:=appE_one (neE c) (h3.up (G.drew wr)) h4'.size (by omega) hD
 have hf:(fun O=>R++if c.new.kind≠0 then neE c::O else O)=fun T=>R++[neE c]++T:=by funext O;simp [hk]
 have he:mrg N H L=(mrg f (H.drop i') (L.drop (k+1))).map (fun T=>R++[neE c]++T):=by
  rw [h2,if_neg (by rw [hr];simp),hf]
 exact ⟨v2,w2,a1,R++[neE c],f,h1,he,a2,Below.trans (B:=W1.heap.size) h4' a3,by rw [List.length_append,List.length_singleton];omega⟩
theorem AJ.fin (h:AJ H L N W1 H.length L.length v wr):∃ R,mrg N H L=some R∧OwnsE wr W1.heap.size v R∧G W1 wr∧R.length≤H.length+L.length:=by
 obtain ⟨R,f,h1,h2,h3,h4,h5⟩:=h
 obtain ⟨f',rfl⟩:∃ f',f=f'+1:=⟨f-1,by omega⟩
 refine ⟨R,?_,h3,h4,h5⟩
 rw [h2,List.drop_length,List.drop_length]
 simp [mrg]
end Go.Proofs.YthfcanpkhjgomaaGreat
namespace Go.Proofs.YthfcanpkhjgomaaGreat
open Go.RowKit Ch
theorem z30_one:z30.all (·.oneCell')=true:=by kernel_rfl
def oA (H:List Et) (L:List Cd) (i k:Nat):Int:=match H[i]?,L[k]? with
 | none,_=>1
 | some _,none=>-1
 | some x,some c=>cmpL (tl x.p) (tl c.path)
theorem oA_left {H:List Et} {L:List Cd} {i k:Nat} (hk:k≤L.length) (h:oA H L i k<0):∃ x,H[i]?=some x∧(k=L.length∨∃ c,L[k]?=some c∧cmpL (tl x.p) (tl c.path)<0):=by
 unfold oA at h
 cases hx:H[i]? with
 | none=>rw [hx] at h;simp at h
 | some x=>
  cases hc:L[k]? with
  | none=>exact ⟨x,rfl,.inl (by have:=List.getElem?_eq_none_iff.1 hc;omega)⟩
  | some c=>
   rw [hx,hc] at h
   exact ⟨x,rfl,.inr ⟨c,rfl,h⟩⟩
theorem oA_turn {H:List Et} {L:List Cd} {i k:Nat} (hi:i≤H.length) (hc:i<H.length∨k<L.length) (h:0≤oA H L i k):∃ c,L[k]?=some c∧((i=H.length∧(if oA H L i k=0 then i+1 else i)=i)∨∃ x,H[i]?=some x∧¬ cmpL (tl x.p) (tl c.path)<0∧(if oA H L i k=0 then i+1 else i)=if cmpL (tl x.p) (tl c.path)=0 then i+1 else i):=by
 unfold oA at h ⊢
 cases hx:H[i]? with
 | none=>
  have h1:=List.getElem?_eq_none_iff.1 hx
  obtain ⟨c,hc'⟩:∃ c,L[k]?=some c:=⟨L[k]'(by omega),by simp⟩
  exact ⟨c,hc',.inl ⟨by omega,by simp⟩⟩
 | some x=>
  rw [hx] at h
  cases hc':L[k]? with
  | none=>rw [hc'] at h;simp at h
  | some c=>
   rw [hc'] at h
   exact ⟨c,rfl,.inr ⟨x,rfl,by simpa using h,rfl⟩⟩
def stB (t:T3) (c:Cd):Bool:=decide (atV t c.path=vcV c.old)
def RfTo (t:T3) (L:List Cd) (w:World) (e:Ending) (w':World):Prop:=∃ c,e=.returned (.tuple #[.agg c,.int .i64 (apE t L)])∧G w w'∧c.size=41∧c.all (·.oneCell')=true∧∀ z,apE t L=0→apM t L=some z→HasNP w' (NewC w w') c ⟨#[]⟩ z.1 z.2.1 z.2.2∧z.2.2.size≤20000
theorem refApply_any (t:T3) (ht:Good t) (c:Array Value) (nm:ByteArray) (ao:Option Addr) (cp:Nat) (L:List Cd) (w:World) (hN:HasN w c nm t.1 t.2.1 t.2.2) (hL:HasA w (.slice ao L.length cp) L) (hw:t.2.2.weight≤6000) (hl:L.length≤10000) (hp:∀ c∈L,c.path.size≤1048576):
  Calls Tryz.prog 10 #[.agg c,.slice ao L.length cp] w (RfTo t L w):=by
 have hsw:=F.size_le_weight t.2.2
 obtain ⟨H,hH⟩:∃ H,FL t=H:=⟨_,rfl⟩
 have hHl:H.length≤6001:=by rw [← hH];unfold FL;rw [List.length_cons,qN];omega
 obtain ⟨n,hn⟩:∃ n,L.length=n:=⟨_,rfl⟩
 obtain ⟨nH,hnH⟩:∃ nH,H.length=nH:=⟨_,rfl⟩
 obtain ⟨B,hB⟩:∃ B,w.heap.size=B:=⟨_,rfl⟩
 obtain ⟨w0,hw0⟩:∃ w0,(w.alloc (.cells c 30)).alloc (.cells z30 30)=w0:=⟨_,rfl⟩
 have g0:G w w0:=by rw [← hw0];exact (G.alloc w _).trans (G.alloc _ _)
 have hB1:(w.alloc (.cells c 30)).heap.size=B+1:=by rw [World.size_alloc,hB]
 have r0:Var w0 B c:=by rw [← hw0,← hB];exact (heap_alloc_old _ _ (by simp)).trans (heap_alloc_new _ _)
 have a0:Var w0 (B+1) z30:=by rw [← hw0,← hB1];exact heap_alloc_new _ _
 have hcs:c.size=41:=by obtain ⟨_,rfl,_⟩:=hN;exact jZ ..
 obtain ⟨E,hE⟩:∃ E,apE t L=E:=⟨_,rfl⟩
 have CR:=hid (refRises_any ao cp L w0 (hL.below g0) (by omega) hp)
 have HF:Hid (∀ W,G w W→∀ q:ByteArray,splitE (tl q) 64=0→Calls Tryz.prog 33 #[.agg c,.string q] W fun e w'=>e=.returned (.agg (vx (atV t q)).toArray)∧G W w'):=fun W hW q hq=>by
  rw [← fnd_FL ht hq]
  exact refAt_any nm t.1 t.2.1 t.2.2 c q W (hN.below hW) (by omega) (by omega)
 have CF:=hid (fun W (hW:G w W)=>flat20_any nm t.1 t.2.1 t.2.2 c W (hN.below hW) (by omega))
 have HL:=hid hL
 have HI:=hid (And.intro ht (And.intro hH (And.intro hn (And.intro hnH (And.intro hp (And.intro hcs (And.intro r0 (And.intro a0 g0))))))))
 have HW:=hid (And.intro hw0 (And.intro hB1 hB))
 have HE:=hid hE
 have hret:Hid (∀ wx:World,G w wx→∀ q,G w (wx.setRow (B+1) q)):=fun wx g q=>⟨g.os,g.tape,g.output,by have:=g.size;simpa using this,fun b hb=>(setRow_other _ _ _ _ (by omega)).trans (g.block b hb)⟩
 have HLN:Hid (n≤10000∧nH≤6001):=⟨by omega,by omega⟩
 unfold RfTo
 rw [hE]
 rw [hn] at CR HL ⊢
 clear hN hL hp hw hl g0 hB1 r0 a0 hcs hw0 hH hHl hsw hn hnH hE
 obtain ⟨rb,hrb⟩:∃ rb,riseB none L=rb:=⟨_,rfl⟩
 rw [hrb] at CR
 have HRB:=hid hrb
 clear hrb
 go_enter Tryz.func10,Tryz.ntmps10
 go_upto_region 1 with ((with_reducible refine jJ (.pointer (some ⟨B+1,0,none⟩)) w0 ?_ ?_ ?_);(rw [← HW.out.1];exact jf rfl _ (B+1) HW.out.2.1);kernel_rfl)
 go_wp2_with fail
 refine CR.out.mono ?_
 rintro e w1 ⟨rfl,g1⟩
 have HG1:Hid (G w w1):=HI.out.2.2.2.2.2.2.2.2.trans g1
 have HV1:Hid (Var w1 (B+1) z30):=HI.out.2.2.2.2.2.2.2.1.grow g1
 have HV0:Hid (Var w1 B c):=HI.out.2.2.2.2.2.2.1.grow g1
 clear g1 CR
 cases rb
 ·have HE0:Hid (E=130):=by show _=_;rw [← HE.out];unfold apE;rw [HRB.out];rfl
  go_wp2_with (first
   | ((with_reducible refine jA (.agg z30) ?_ ?_ ?_);exact jR 30 rfl z30 (by kernel_rfl) _;kernel_rfl)
   | ((with_reducible refine jP (w1.setRow (B+1) z30) ?_ ?_ ?_);exact jX _ _ rfl (B+1) z30 z30 rfl rfl _ HV1.out jU jU z30_one;kernel_rfl))
  refine bodyPost_ret (ju (p:=4) (u:=5) rfl _ _ (B+1) z30 rfl HV1.out.set jU) rfl ⟨z30,by rw [HE0.out];rfl,hret.out _ HG1.out _,jU,z30_one,fun z h0 _=>by rw [HE0.out] at h0;cases h0⟩
 have HSP:Hid (∀ c∈L,splitE (tl c.path) 64=0):=fun c hc=>((rise_pair HRB.out).1 c hc).1
 go_upto_region 4 with (first
  | ((with_reducible refine jA (.agg c) ?_ ?_ ?_);exact jH _ rfl B 0 rfl c HI.out.2.2.2.2.2.1 HV0.out.lies;kernel_rfl)
  | (go_at_call 32;refine (CF.out w1 HG1.out).mono ?_;rintro e w2 ⟨g2,m2,cap2,rfl,ow,g12⟩;have hE2:HasE w2 (.slice (some ⟨g2,0,none⟩) m2 cap2) H:=(by rw [← HI.out.2.1];exact ow.has);obtain ⟨ao',cp',e1⟩:=hE2.form;injection e1 with e1 e2 e3;subst e1;subst e3;have e2':nH=m2:=(e2.trans HI.out.2.2.2.1).symm;subst e2';clear e2;have HS2:=hid (And.intro hE2 (And.intro (HG1.out.trans g12) (And.intro (HV1.out.grow g12) (HV0.out.grow g12))));clear ow g12 hE2))
 clear HG1 HV1 HV0 CF
 go_wp2
 go_loopg [7] n (fun gh a wr=>∃ k:Nat,k≤n∧gh=n-k∧a=.int .i64 (k:Int)∧Hid (G w2 wr)∧Hid (startsB t L=(L.drop k).all (stB t)))
 case atStart=>exact ⟨0,Nat.zero_le _,rfl,rfl,G.refl _,by show _=_;rw [List.drop_zero];rfl⟩
 case round=>
  obtain ⟨k,hk,rfl,rfl,HG,HR⟩:=hrel
  have hnb:=HLN.out.1
  have hnb2:=HLN.out.2
  have hgw:G w wr:=HS2.out.2.1.trans HG.out
  have hvr:Var wr (B+1) z30:=HS2.out.2.2.1.grow HG.out
  by_cases hlt:k<n
  ·have i1:(k:Int)<(n:Int):=by omega
   have i2:(0:Int)≤(k:Int):=by omega
   obtain ⟨x,hx⟩:∃ x,L[k]?=some x:=⟨L[k]'(by rw [HI.out.2.2.1];exact hlt),by simp⟩
   obtain ⟨g,o,rfl,la⟩:=(HL.out.below hgw).at hx
   have hxm:=List.mem_of_getElem? hx
   have HRX:Hid (startsB t L=(stB t x&&(L.drop (k+1)).all (stB t))):=by show _=_;rw [HR.out,drop_at hx,List.all_cons]
   have hsx:=HSP.out x hxm
   obtain ⟨Y,hY⟩:∃ Y,Y=(vx (atV t x.path)).toArray:=⟨_,rfl⟩
   obtain ⟨Z,hZ⟩:∃ Z,Z=(vx (vcV x.old)).toArray:=⟨_,rfl⟩
   have HX:Hid (wr.cell? ⟨g,o+k*71,none⟩=some (.string x.path)∧Lies wr g (o+k*71+1) Z∧Z.size=35∧Y=(vx (atV t x.path)).toArray∧Z=(vx (vcV x.old)).toArray):=⟨la.path,by rw [hZ];exact fun j u hj=>la.old j u hj,by rw [hZ];simp [jQ],hY,hZ⟩
   have HC:Hid (∀ W,Below wr.heap.size wr W→Calls Tryz.prog 33 #[.agg c,.string x.path] W fun e w'=>e=.returned (.agg Y)∧G W w'):=fun W hW=>by
    rw [hY]
    exact HF.out W (hgw.trans hW) x.path hsx
   have HGW:=hid (And.intro hgw hvr)
   clear la hx hxm hsx hY hZ HR hgw hvr
   obtain ⟨q,hq⟩:∃ q,(!decide (atV t x.path=vcV x.old))=q:=⟨_,rfl⟩
   have HQ:=hid hq
   clear hq
   go_upto_region 7 with fail
   refine regA7 B g o n cp k c Y Z x q _ wr rfl rfl rfl rfl i1 i2 ((HS2.out.2.2.2.grow HG.out).lies) HI.out.2.2.2.2.2.1 HX.out.1 HX.out.2.1 HX.out.2.2.1 (atV t x.path) (vcV x.old) HX.out.2.2.2.1 HX.out.2.2.2.2 HQ.out HC.out fun r wz hz=>?_
   rw [foldA7]
   have HZ:=hid hz
   clear hz HX HC
   cases q
   ·have HE2:Hid (startsB t L=(L.drop (k+1)).all (stB t)):=by
     show _=_
     rw [HRX.out]
     have:stB t x=true:=by have:=HQ.out;unfold stB;simpa using this
     rw [this,Bool.true_and]
    go_simp
    go_wp2
    go_roundg (n-(k+1))
    case measure=>omega
    case rel=>exact ⟨k+1,by omega,rfl,by go_num,HG.out.trans HZ.out,HE2⟩
   ·have HE0:Hid (E=131):=by
     show _=_
     rw [← HE.out]
     have:startsB t L=false:=by
      rw [HRX.out]
      have:stB t x=false:=by have:=HQ.out;unfold stB;simpa using this
      rw [this,Bool.false_and]
     unfold apE
     rw [HRB.out,this]
     rfl
    have hvz:Var wz (B+1) z30:=HGW.out.2.grow HZ.out
    have HVZ:=hid hvz
    have HGZ:Hid (G w wz):=HGW.out.1.trans HZ.out
    clear hvz HRX
    go_simp
    go_wp2_with (first
     | ((with_reducible refine jA (.agg z30) ?_ ?_ ?_);exact jR 30 rfl z30 (by kernel_rfl) _;kernel_rfl)
     | ((with_reducible refine jP (wz.setRow (B+1) z30) ?_ ?_ ?_);exact jX _ _ rfl (B+1) z30 z30 rfl rfl _ HVZ.out jU jU z30_one;kernel_rfl))
    refine bodyPost_ret (ju (p:=4) (u:=5) rfl _ _ (B+1) z30 rfl HVZ.out.set jU) rfl ⟨z30,by rw [HE0.out];rfl,hret.out _ HGZ.out _,jU,z30_one,fun z h0 _=>by rw [HE0.out] at h0;cases h0⟩
  ·obtain rfl:k=n:=by omega
   have i1:¬ ((k:Int)<(k:Int)):=by omega
   have HST:Hid (startsB t L=true):=by
    show _=_
    rw [HR.out,List.drop_of_length_le (by rw [HI.out.2.2.1];omega)]
    rfl
   obtain ⟨N,hN⟩:∃ N,H.length+L.length+1=N:=⟨_,rfl⟩
   have HNN:Hid (∀ W,G w W→HasE W (.slice (some ⟨g2,0,none⟩) nH cap2) H→True):=fun _ _ _=>trivial
   have HE3:Hid (HasE wr (.slice (some ⟨g2,0,none⟩) nH cap2) H∧G w wr∧Var wr (B+1) z30∧G w2 wr):=⟨HS2.out.1.below HG.out,hgw,hvr,HG.out⟩
   have HNS:Hid ((FL t).length+L.length<N):=by show _<_;rw [HI.out.2.1,← hN];omega
   have HHS:Hid (∀ e∈H,e.p.size≤1048576):=by
    rw [← HI.out.2.1]
    exact FL_small HI.out.1
   have HNl:Hid (L.length=k∧H.length=nH∧H.length+L.length≤50000):=⟨HI.out.2.2.1,HI.out.2.2.2.1,by have:=HLN.out;have:=HI.out.2.2.1;have:=HI.out.2.2.2.1;omega⟩
   have HJ0:Hid (AJ H L N wr 0 0 (.slice none 0 0) wr):=⟨[],N,by omega,by rw [List.drop_zero,List.drop_zero];simp,World.ownsRow_nil _ _ _ _,G.refl _,by simp⟩
   obtain ⟨W3,hW3⟩:∃ W3,W3=wr:=⟨_,rfl⟩
   subst hW3
   clear HR HG hgw hvr HS2 HNN hN hk
   go_wp2
   go_loopg [8,9,10] (nH+k) (fun gh v i9 i10 wr=>∃ i j:Nat,i≤nH∧j≤k∧gh=(nH-i)+(k-j)∧i9=.int .i64 (i:Int)∧i10=.int .i64 (j:Int)∧Hid (AJ H L N W3 i j v wr))
   case atStart=>exact ⟨0,0,Nat.zero_le _,Nat.zero_le _,by omega,rfl,rfl,HJ0.out⟩
   case round=>
    obtain ⟨i,j,hi,hj,rfl,rfl,rfl,HR⟩:=hrel
    by_cases hc:i<nH∨j<k
    ·go_upto_region 11 with fail
     go_cut [47] (fun s47 wx=>s47=.bool true∧wx=wr)
     case first=>
      by_cases h1:(i:Int)<(nH:Int)
      ·go_wp2
       go_meet
       exact ⟨rfl,rfl⟩
      ·have h2:(j:Int)<(k:Int):=by omega
       go_wp2
       go_meet
       exact ⟨rfl,rfl⟩
     case rest=>
     obtain ⟨rfl,rfl⟩:=hcut
     go_upto_if 51 with fail
     go_cut [11] (fun s11 wx=>s11=.int .i64 (oA H L i j)∧Hid (Below wc.heap.size wc wx))
     case first=>
      by_cases h1:i=nH
      ·have h1':((i:Int)==(nH:Int))=true:=by simp [h1]
       have ho:oA H L i j=1:=by unfold oA;rw [List.getElem?_eq_none (by have:=HNl.out;omega)]
       have HO:=hid ho
       clear ho
       go_wp2
       go_meet
       exact ⟨by rw [HO.out],Below.refl _ _⟩
      ·have h1':((i:Int)==(nH:Int))=false:=by simp;omega
       obtain ⟨x,hx⟩:∃ x,H[i]?=some x:=⟨H[i]'(by have:=HNl.out;omega),by simp⟩
       by_cases h2:j=k
       ·have h2':((j:Int)==(k:Int))=true:=by simp [h2]
        have ho:oA H L i j=-1:=by unfold oA;rw [hx,List.getElem?_eq_none (by have:=HNl.out;omega)]
        have HO:=hid ho
        clear ho hx
        go_wp2
        go_meet
        exact ⟨by rw [HO.out],Below.refl _ _⟩
       ·have h2':((j:Int)==(k:Int))=false:=by simp;omega
        obtain ⟨y,hy⟩:∃ y,L[j]?=some y:=⟨L[j]'(by have:=HNl.out;omega),by simp⟩
        have hgz:=HE3.out.2.1.trans HR.out.g
        obtain ⟨g,o,rfl,la⟩:=(HL.out.below hgz).at hy
        obtain ⟨_,e',le⟩:=(HE3.out.1.below HR.out.g).at hx
        cases e'
        have ho:cmpL (tl x.p) (tl y.path)=oA H L i j:=by unfold oA;rw [hx,hy]
        obtain ⟨cm,hcm⟩:∃ cm,oA H L i j=cm:=⟨_,rfl⟩
        rw [hcm] at ho
        have HCM:=hid hcm
        have HLL:=hid (And.intro (lies_path le) la.path)
        have HS:=hid (And.intro (HHS.out x (List.mem_of_getElem? hx)) (HI.out.2.2.2.2.1 y (List.mem_of_getElem? hy)))
        have HO:=hid ho
        clear la le ho hcm hx hy hgz
        go_upto_region 17 with fail
        refine regA17 g2 nH cap2 i g o k cp j x y cm _ wc rfl rfl rfl rfl rfl (by omega) (by omega) HLL.out.1 (by omega) (by omega) HLL.out.2 HS.out.1 HS.out.2 HO.out fun _ wq hz=>?_
        rw [foldA17]
        go_simp
        go_wp2
        go_meet
        exact ⟨by rw [HCM.out],hz⟩
     case rest=>
     obtain ⟨rfl,HC⟩:=hcut
     have HR2:=hid (HR.out.up HC.out)
     clear HR HC
     obtain ⟨od,hod⟩:∃ od,oA H L i j=od:=⟨_,rfl⟩
     have HOD:=hid hod
     rw [hod]
     clear hod
     by_cases hlt2:od<0
     ·obtain ⟨x,hx,hxc⟩:=oA_left (by rw [HNl.out.1];exact hj) (by rw [HOD.out];exact hlt2)
      have hil:i<nH:=by have h1:=(List.getElem?_eq_some_iff.1 hx).1;have h2:=HNl.out.2.1;omega
      have hiI:(i:Int)<(nH:Int):=by omega
      have hi0:(0:Int)≤(i:Int):=by omega
      have hb1:=HLN.out.2
      obtain ⟨_,e',le⟩:=(HE3.out.1.below HR2.out.g).at hx
      cases e'
      obtain ⟨X,hX⟩:∃ X,ec x=X:=⟨_,rfl⟩
      obtain ⟨D,hD⟩:∃ D,wc.heap.size=D:=⟨_,rfl⟩
      obtain ⟨v2,w5,hr,hz⟩:=HR2.out.left hx hxc (by rw [HNl.out.1];exact hj) HNl.out.2.2 D hD
      obtain ⟨w4,hw4⟩:∃ w4,wc.alloc (.cells X 91)=w4:=⟨_,rfl⟩
      rw [hX,hw4] at hr
      rw [hX] at le
      have HX:=hid (And.intro le (And.intro (show X.size=40 by rw [← hX,ec_size]) (And.intro hD (And.intro hw4 (And.intro hr hz)))))
      clear le hX hD hr hz hw4 hx hxc
      go_wp2_with (first
       | ((with_reducible refine jA (.agg X) ?_ ?_ ?_);exact exec_load 91 _ rfl g2 (i*40) rfl X _ HX.out.1 under64 rfl (by rw [size64,HX.out.2.1]);kernel_rfl)
       | ((with_reducible refine jJ (.slice (some ⟨D,0,none⟩) 1 1) w4 ?_ ?_ ?_);(rw [← HX.out.2.2.2.1];exact exec_slice64 _ rfl X rfl HX.out.2.1 _ _ HX.out.2.2.1);kernel_rfl)
       | ((with_reducible refine jJ v2 w5 ?_ ?_ ?_);exact exec_appE rfl rfl rfl HX.out.2.2.2.2.1;kernel_rfl))
      go_roundg ((nH-(i+1))+(k-j))
      case measure=>omega
      case rel=>exact ⟨i+1,j,hil,hj,rfl,by go_num,rfl,HX.out.2.2.2.2.2⟩
     ·have hod0:0≤oA H L i j:=by rw [HOD.out];omega
      obtain ⟨y,hy,hi1⟩:=oA_turn (H:=H) (by rw [HNl.out.2.1];exact hi) (by rw [HNl.out.2.1,HNl.out.1];exact hc) hod0
      rw [HOD.out] at hi1
      obtain ⟨i',hi2⟩:∃ i',(if od=0 then i+1 else i)=i':=⟨_,rfl⟩
      rw [hi2] at hi1
      have hii:i'≤nH∧i≤i':=by
       have h1:=HNl.out.2.1
       rcases hi1 with ⟨_,e⟩ | ⟨x,hx,_,e⟩
       ·omega
       ·have h2:=(List.getElem?_eq_some_iff.1 hx).1
        rw [e]
        split<;>omega
      have hjl:j<k:=by have h1:=(List.getElem?_eq_some_iff.1 hy).1;have h2:=HNl.out.1;omega
      have hjI:(j:Int)<(k:Int):=by omega
      have hj0:(0:Int)≤(j:Int):=by omega
      have hb1:=HLN.out.2
      have hgz:=HE3.out.2.1.trans HR2.out.g
      obtain ⟨g,o,rfl,la⟩:=(HL.out.below hgz).at hy
      obtain ⟨Z,hZ⟩:∃ Z,Z=(vx (vcV y.new)).toArray:=⟨_,rfl⟩
      obtain ⟨rr,hrr⟩:∃ rr,rightR (vcV y.new)=rr:=⟨_,rfl⟩
      have HZ:Hid (wc.cell? ⟨g,o+j*71,none⟩=some (.string y.path)∧Lies wc g (o+j*71+36) Z∧Z.size=35∧Z=(vx (vcV y.new)).toArray):=⟨la.path,by rw [hZ];exact fun q u hq=>la.new q u hq,by rw [hZ];simp [jQ],hZ⟩
      have HT:=hid (And.intro hy (And.intro hi1 (And.intro hrr hi2)))
      have C35:Calls Tryz.prog 35 #[.agg Z] wc fun e w'=>e=.returned (.bool rr)∧G wc w':=by rw [← hrr];exact right35_any _ Z hZ wc
      have HC35:=hid C35
      have HGZ:Hid (G w wc):=hgz
      clear la hZ hy hi1 hrr hi2 hod0 hgz C35
      go_upto_if 79 with fail
      go_cut [9] (fun s9 wx=>s9=.int .i64 (i':Int)∧wx=wc)
      case first=>
       by_cases h3:od=0
       ·subst h3
        have he:((i':Nat):Int)=(i:Int)+1:=by rw [← HT.out.2.2.2,if_pos rfl];omega
        have HE9:=hid he
        clear he
        go_wp2
        go_meet
        exact ⟨by rw [HE9.out],rfl⟩
       ·have h3':(od==(0:Int))=false:=by simp [h3]
        have HE9:Hid (i'=i):=by show _=_;rw [← HT.out.2.2.2,if_neg h3]
        go_wp2
        go_meet
        exact ⟨by rw [HE9.out],rfl⟩
      case rest=>
      obtain ⟨rfl,rfl⟩:=hcut
      cases rr
      ·have HE0:Hid (E=132):=by
        show _=_
        rw [← HE.out]
        unfold apE
        rw [HRB.out,HST.out,ref_none HI.out.1 HRB.out HST.out HNS.out (by rw [HI.out.2.1];exact HR2.out.wrong HT.out.1 i' (by rw [HNl.out.2.1] at *;exact HT.out.2.1) HT.out.2.2.1)]
        rfl
       have HV:=hid (HE3.out.2.2.1.grow HR2.out.g)
       go_wp2_with (first
        | ((with_reducible refine jA (.agg Z) ?_ ?_ ?_);exact exec_load 24 _ rfl g (o+j*71+36) rfl Z _ HZ.out.2.1 under24v rfl (by rw [size24v,HZ.out.2.2.1]);kernel_rfl)
        | (go_at_call 35;refine HC35.out.mono ?_;rintro e w5 ⟨rfl,g5⟩;have H5:=hid (And.intro (HGZ.out.trans g5) (HV.out.grow g5));clear g5)
        | ((with_reducible refine jA (.agg z30) ?_ ?_ ?_);exact jR 30 rfl z30 (by kernel_rfl) _;kernel_rfl)
        | ((with_reducible refine jP (w5.setRow (B+1) z30) ?_ ?_ ?_);exact jX _ _ rfl (B+1) z30 z30 rfl rfl _ H5.out.2 jU jU z30_one;kernel_rfl))
       refine bodyPost_ret (ju (p:=4) (u:=5) rfl _ _ (B+1) z30 rfl H5.out.2.set jU) rfl ⟨z30,by rw [HE0.out];rfl,hret.out _ H5.out.1 _,jU,z30_one,fun z h0 _=>by rw [HE0.out] at h0;cases h0⟩
      ·have HKD:Hid (wc.cell? ⟨g,o+j*71+36,none⟩=some (.int .i64 y.new.kind)):=HZ.out.2.1 0 _ (by rw [HZ.out.2.2.2];rfl)
       obtain ⟨kd,hkd⟩:∃ kd,y.new.kind=kd:=⟨_,rfl⟩
       have HKQ:=hid hkd
       rw [hkd] at HKD
       clear hkd
       go_upto_region 25 with (first
        | ((with_reducible refine jA (.agg Z) ?_ ?_ ?_);exact exec_load 24 _ rfl g (o+j*71+36) rfl Z _ HZ.out.2.1 under24v rfl (by rw [size24v,HZ.out.2.2.1]);kernel_rfl)
        | (go_at_call 35;refine HC35.out.mono ?_;rintro e w5 ⟨rfl,g5⟩;have H5:=hid g5;clear g5))
       have HR5:=hid (HR2.out.up H5.out)
       have lz5:Lies w5 g (o+j*71+36) Z:=Lies.below HZ.out.2.1 H5.out
       have ck:w5.cell? ⟨g,o+j*71+36,none⟩=some (.int .i64 kd):=by rw [← HKQ.out];exact lz5 0 _ (by rw [HZ.out.2.2.2];rfl)
       have HLZ:=hid lz5
       clear lz5
       by_cases hk0:kd=0
       ·subst hk0
        have HSK:=hid (HR5.out.skip HT.out.1 i' (by rw [HNl.out.2.1];simpa [HNl.out.2.1] using HT.out.2.1) HT.out.2.2.1 HKQ.out)
        go_wp2
        go_roundg ((nH-i')+(k-(j+1)))
        case measure=>omega
        case rel=>exact ⟨i',j+1,hii.1,hjl,rfl,rfl,by go_num,HSK⟩
       ·have hkb:(kd != 0)=true:=by simpa using hk0
        obtain ⟨C,hC⟩:∃ C,ec (neE y)=C:=⟨_,rfl⟩
        obtain ⟨D,hD⟩:∃ D,w5.drew.heap.size=D:=⟨_,rfl⟩
        obtain ⟨v2,w7,hr,hz⟩:=HR5.out.take HT.out.1 i' (by simpa [HNl.out.2.1] using HT.out.2.1) HT.out.2.2.1 (by rw [HKQ.out];exact hk0) HNl.out.2.2 (by rw [HNl.out.2.1];exact hi) D hD
        obtain ⟨w6,hw6⟩:∃ w6,w5.drew.alloc (.cells C 91)=w6:=⟨_,rfl⟩
        rw [hC,hw6] at hr
        have hpc:w5.cell? ⟨g,o+j*71,none⟩=some (.string y.path):=by
         obtain ⟨_,_,e5,la5⟩:=(HL.out.below (HGZ.out.trans H5.out)).at HT.out.1
         cases e5
         exact la5.path
        have HX:=hid (And.intro hpc (And.intro (show C.size=40 by rw [← hC,ec_size]) (And.intro hD (And.intro hw6 (And.intro hr (And.intro hz hC))))))
        clear hC hD hr hz hw6 hpc
        go_upto_region 26 with fail
        refine regA26 g o k cp j y Z C D _ v2 w6 w7 _ w5 rfl rfl rfl rfl hjI hj0 HX.out.1 HLZ.out HZ.out.2.2.1 (vcV y.new) HZ.out.2.2.2 HX.out.2.2.2.2.2.2 HX.out.2.1 HX.out.2.2.1 HX.out.2.2.2.1 HX.out.2.2.2.2.1 fun _=>?_
        rw [foldA26]
        go_simp
        go_wp2
        go_roundg ((nH-i')+(k-(j+1)))
        case measure=>omega
        case rel=>exact ⟨i',j+1,hii.1,hjl,rfl,rfl,by go_num,HX.out.2.2.2.2.2.1⟩
    ·obtain rfl:nH=i:=by omega
     obtain rfl:k=j:=by omega
     have i1:¬ ((nH:Int)<(nH:Int)):=by omega
     have i2:¬ ((k:Int)<(k:Int)):=by omega
     have hb1:=HLN.out.1
     have hb2:=HLN.out.2
     have hf:=HR.out
     rw [← HNl.out.2.1,← HNl.out.1] at hf
     obtain ⟨R,hm,ho,hg,hl⟩:=hf.fin
     obtain ⟨hmi,hT0,hT1⟩:=ref_some HI.out.1 HRB.out HST.out HNS.out (by rw [HI.out.2.1];exact hm)
     obtain ⟨ao3,cp3,rfl⟩:=ho.has.form
     have hsm:∀ e∈R,e.p.size≤1048576:=fun e he=>by
      rcases (hmi.2.2 e).1 he with ⟨h1,_⟩ | ⟨x,h1,_,rfl⟩
      ·exact HHS.out e (by rw [← HI.out.2.1];exact h1)
      ·exact HI.out.2.2.2.2.1 x h1
     have hRl:R.length≤20000:=by have:=HNl.out.1;have:=HNl.out.2.1;omega
     have hgw:G w wr:=HE3.out.2.1.trans hg
     have HC36:=hid (tree36_any ao3 cp3 R wr ho.has (by omega) hsm)
     obtain ⟨tr,htr⟩:∃ tr,treeR R=tr:=⟨_,rfl⟩
     have HGW:=hid (And.intro hgw (HE3.out.2.2.1.grow hg))
     cases tr
     ·have HE0:Hid (E=132):=by
       show _=_
       rw [← HE.out]
       unfold apE
       rw [HRB.out,HST.out,hT0 htr]
       rfl
      rw [htr] at HC36
      obtain ⟨m,hm'⟩:∃ m,R.length=m:=⟨_,rfl⟩
      rw [hm'] at HC36 ⊢
      clear hm' hRl hgw ho hmi hT0 hT1 hm hf hg hl htr hsm
      go_wp2_with (first
       | (go_at_call 36;refine HC36.out.mono ?_;rintro e w5 ⟨rfl,g5⟩;have H5:=hid (And.intro (HGW.out.1.trans g5) (HGW.out.2.grow g5));clear g5)
       | ((with_reducible refine jA (.agg z30) ?_ ?_ ?_);exact jR 30 rfl z30 (by kernel_rfl) _;kernel_rfl)
       | ((with_reducible refine jP (w5.setRow (B+1) z30) ?_ ?_ ?_);exact jX _ _ rfl (B+1) z30 z30 rfl rfl _ H5.out.2 jU jU z30_one;kernel_rfl))
      refine bodyPost_ret (ju (p:=4) (u:=5) rfl _ _ (B+1) z30 rfl H5.out.2.set jU) rfl ⟨z30,by rw [HE0.out];rfl,hret.out _ H5.out.1 _,jU,z30_one,fun z h0 _=>by rw [HE0.out] at h0;cases h0⟩
     ·obtain ⟨z,hz,ha,rfl⟩:=hT1 htr
      have HE0:Hid (E=0):=by
       show _=_
       rw [← HE.out]
       unfold apE
       rw [HRB.out,HST.out,ha]
       rfl
      have HA:=hid ha
      have HZS:Hid (z.2.2.size≤20000):=by show _≤_;have h1:(FL z).length=z.2.2.size+1:=(by unfold FL;rw [List.length_cons,qN]);omega
      have HC37:Hid (∀ W,G wr W→Calls Tryz.prog 37 #[.slice ao3 (FL z).length cp3] W fun e w'=>∃ c,e=.returned (.agg c)∧HasNP w' (NewC W w') c ⟨#[]⟩ z.1 z.2.1 z.2.2∧G W w'):=fun W hW=>grow37_any z hz ao3 cp3 W (ho.has.below hW) (by omega)
      rw [htr] at HC36
      obtain ⟨m,hm'⟩:∃ m,(FL z).length=m:=⟨_,rfl⟩
      rw [hm'] at HC36 HC37 ⊢
      clear hm' hRl hgw ho hmi hT0 hT1 hm hf hg hl htr hsm ha hz
      go_wp2_with (first
       | (go_at_call 36;refine HC36.out.mono ?_;rintro e w5 ⟨rfl,g5⟩;have H5:=hid (And.intro (HGW.out.1.trans g5) (And.intro (HGW.out.2.grow g5) g5));clear g5)
       | (go_at_call 37;refine (HC37.out w5 H5.out.2.2).mono ?_;rintro e w6 ⟨c6,rfl,hn6,g6⟩;have hf6:c6.size=41∧c6.all (·.oneCell')=true:=(by obtain ⟨kv6,rfl,hs6⟩:=hn6;obtain ⟨_,_,rfl,_⟩:=hs6;exact ⟨jZ ..,nc_one _ _ _ _ rfl⟩);have H6:=hid (And.intro (H5.out.1.trans g6) (And.intro (H5.out.2.1.grow g6) (And.intro hf6.1 (And.intro hf6.2 (And.intro hn6 H5.out.2.1)))));clear g6 hf6 hn6)
       | ((with_reducible refine jP (w6.setRow (B+1) c6) ?_ ?_ ?_);exact jX _ _ rfl (B+1) c6 z30 rfl rfl _ H6.out.2.1 H6.out.2.2.1 jU H6.out.2.2.2.1;kernel_rfl))
      refine bodyPost_ret (ju (p:=4) (u:=5) rfl _ _ (B+1) c6 rfl H6.out.2.1.set H6.out.2.2.1) rfl ⟨c6,by rw [HE0.out];rfl,hret.out _ H6.out.1 _,H6.out.2.2.1,H6.out.2.2.2.1,fun z' _ hz'=>?_⟩
      rw [HA.out] at hz'
      cases hz'
      obtain ⟨kv,rfl,hs⟩:=H6.out.2.2.2.2.1
      refine ⟨⟨kv,rfl,hs.keep fun b hb=>?_⟩,HZS.out⟩
      obtain ⟨h1,o,h2,h3⟩:=hb
      have h4:=H6.out.2.2.2.2.2.lt
      have h5:=H5.out.1.size
      have h6:(w6.setRow (B+1) (nc ⟨#[]⟩ z.1 z.2.1 kv)).heap[b]?=w6.heap[b]?:=setRow_other _ _ _ _ (by omega)
      exact ⟨h6,by omega,o,h6.trans h2,h3⟩
end Go.Proofs.YthfcanpkhjgomaaGreat
