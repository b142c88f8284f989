import Derived.Test.YtdeanahpiigonaaGreatDoorHS
import Derived.Test.YtdeanahpiigonaaGreatDoorWRef4
set_option maxRecDepth 100000
set_option maxHeartbeats 4000000
namespace Go.Proofs.YtdeanahpiigonaaGreatDoor
open Go.RowKit Hm
attribute [local go_sem] Oper.semAt_some
theorem yC {w w':World} {M:Nat} (h:w.grownBy w' (some M)):Kp (fun b=>b=M) w w':=⟨h.os,h.tape,h.output,h.size,fun b hb hn=>h.block b hb fun e=>hn (Option.some.inj e)⟩
def preK (x:List Int) (k:Nat):List Nat:=(x.take k).map Int.toNat++List.replicate (32-k) 0
theorem pS {x:List Int} {k:Nat} (h:k≤x.length) (h2:k≤32):(preK x k).length=32:=by simp [preK];omega
theorem pT {x:List Int} {k:Nat} (h:k<x.length) (h2:k<32):(preK x k).set k (x.getD k 0).toNat=preK x (k+1):=by
 unfold preK
 rw [List.set_append_right _ _ (by simp;omega),show k-((x.take k).map Int.toNat).length=0 by simp;omega,show 32-k=(32-(k+1))+1 by omega,List.replicate_succ,List.set_cons_zero,List.take_add_one,List.map_append,List.append_assoc,gl h,List.getD_eq_getElem?_getD,gl h]
 rfl
theorem pU {x:List Int} (h:x.length=32∨x=[]):preK x x.length=h32 x:=by
 unfold preK h32
 rcases h with h | rfl
 ·rw [if_pos h,List.take_of_length_le (Nat.le_refl _),h];simp
 ·rfl
structure HsI (lo M:Nat) (l:List Int) (s:Wi.St) (W:World) (b1 b2:Nat) (v:Value) (x:List Int) (L:List Nat) (w:World):Prop where
 rf:Wi.RfS w lo M l s
 v1:w.heap[b1]?=some (.cells (hA j7) 22 (0,0))
 v2:w.heap[b2]?=some (.cells (hA L) 22 (0,0))
 ow:Wi.Owns w (b2+1) v x
 kp:Kp (fun b=>b=M) W w
 lo:M<W.heap.size∧W.heap.size≤b1∧b1<b2
theorem qi {w:World} {lo M:Nat} {l:List Int} {s:Wi.St} (h:Wi.RfS w lo M l s):M<w.heap.size:=by
 obtain ⟨v,hh,_⟩:=h
 exact (ga hh).1
theorem qF {w w':World} {lo M:Nat} {l:List Int} {s:Wi.St} (h:Wi.RfS w lo M l s) (hb:∀ b,b≤M→w'.heap[b]?=w.heap[b]?):Wi.RfS w' lo M l s:=by
 obtain ⟨v,hh,ho,hk,hl,hp,hn⟩:=h
 exact ⟨v,(hb M (Nat.le_refl _)).trans hh,ho.block fun k q=>hb k (by have:=hk k q;omega),hk,hl,hp,hn⟩
theorem z8 {w w':World} {lo M:Nat} {l:List Int} {s:Wi.St} (h:Wi.RfS w lo M l s) (hb:G w w'):Wi.RfS w' lo M l s:=qF h fun b q=>hb.block b (by have:=qi h;omega)
theorem yi (lo M:Nat) (l:List Int) (s:Wi.St) (w:World) (hr:Wi.RfS w lo M l s) (hB:Wire.Bytes l):
  Calls Tryz.prog 50 #[.pointer (some ⟨M,0,none⟩)] w fun e w'=>e=.returned (.agg (hA (h32 (Wi.rawB l s 32))))∧Wi.RfS w' lo M l (Wi.rawS l s 32)∧Kp (fun b=>b=M) w w':=by
 have hz32:(hA j7).size=32:=jG jC
 have CC:Hid (∀ w1,Wi.RfS w1 lo M l s→Calls Tryz.prog 46 #[.pointer (some ⟨M,0,none⟩),.int .i64 32] w1 fun e w'=>∃ v,e=.returned v∧Wi.RfS w' lo M l (Wi.rawS l s 32)∧w1.grownBy w' (some M)∧Wi.Owns w' w1.heap.size v (Wi.rawB l s 32)):=fun w1 h=>Wi.cF lo M 32 l s w1 h (by omega)
 have hx:=fY l s
 have hxB:=qW hB s
 generalize Wi.rawB l s 32=x at *
 generalize Wi.rawS l s 32=s2 at *
 have HI:=hid hr
 have hM:=qi hr
 clear hr
 have hN:x.length≤32:=by
  rcases hx with h | h
  ·omega
  ·rw [h];simp
 go_enter Tryz.func50,Tryz.ntmps50
 go_wp2_with (first
  | ((with_reducible refine qC 2 22 (hA j7) ?_ ?_ ?_ ?_ ?_);rfl;rfl;kernel_rfl;exact jv;intro w1 b1 H1)
  | ((with_reducible refine qC 3 22 (hA j7) ?_ ?_ ?_ ?_ ?_);rfl;rfl;kernel_rfl;exact jv;intro w2 b2 H2)
  | (go_at_call 46;refine (CC.o w2 (z8 (z8 HI.o H1.o.2.1) H2.o.2.1)).mono ?_;rintro e w3 ⟨v3,rfl,q1,q2,q3⟩;obtain ⟨ao,cp,rfl,_⟩:=q3.has.form;have HO:Hid (HsI lo M l s2 w b1 b2 (.slice ao x.length cp) x (preK x 0) w3):=(by obtain ⟨p1,p2,p3,p4⟩:=H1.o;obtain ⟨t1,t2,t3,t4⟩:=H2.o;exact ⟨q1,(q2.block b1 (by omega) (by simp;omega)).trans ((t2.block b1 (by omega)).trans p3),(q2.block b2 (by omega) (by simp;omega)).trans t3,q3.mono (by omega),(Kp.of (G.trans p2 t2)).trans (yC q2) (fun _ _ e=>e),by omega⟩);clear q1 q2 q3))
 go_loopw [5] (fun i wr=>∃ k:Nat,i=.int .i64 (k:Int)∧k≤x.length∧Hid (HsI lo M l s2 w b1 b2 (.slice ao x.length cp) x (preK x k) wr)) (fun i _=>x.length-iOf i)
 case atStart=>exact ⟨0,rfl,by omega,HO.o⟩
 case round=>
  clear H1 H2 HO HI
  obtain ⟨k,rfl,hk,HR⟩:=hrel
  by_cases hkn:k<x.length
  ·have hkI:(k:Int)<x.length:=by omega
   have hR:=HR.o
   obtain ⟨g,rfl,hcell⟩:∃ g,ao=some ⟨g,0,none⟩∧wr.cell? ⟨g,k,none⟩=some (.int .u8 (x.getD k 0)):=by
    obtain ⟨_,h | ⟨g,cap,cur,hv,hg,hh⟩⟩:=hR.ow
    ·obtain ⟨h1,h2⟩:=h
     simp at h1
     omega
    ·injection hv with q1 q2 q3
     subst q1
     refine ⟨g,rfl,?_⟩
     rcases hR.ow.has with ⟨h1,_⟩ | ⟨a,cp2,h1,_,h3⟩
     ·simp at h1
     ·injection h1 with h1
      injection h1 with h1
      have:=h3 k hkn
      rw [← h1] at this
      have e:(⟨g,0,none⟩:Addr).add k=⟨g,k,none⟩:=by unfold Addr.add;simp;intro h;exact h.symm
      rw [e] at this
      exact this
   have hy:0≤x.getD k 0∧x.getD k 0<256:=by
    rw [List.getD_eq_getElem?_getD,gl hkn]
    exact hxB _ (List.getElem_mem hkn)
   have hs:=pT hkn (by omega)
   generalize x.getD k 0=y at hcell hy hs
   have hk32:¬ (32:Int)≤k:=by omega
   have hle:¬ (x.length:Int)≤k:=by omega
   have ho2:wr.cell? ⟨b2,k,none⟩=some (.int .u8 (((preK x k).getD k 0:Nat):Int)):=by rw [j9 hR.v2];exact pQ (pS hk (by omega)) (by omega)
   have hf2:wr.frozen? ⟨b2,k,none⟩=false:=by simp [World.frozen?,hR.v2]
   generalize (((preK x k).getD k 0:Nat):Int)=yo at ho2
   have HN:Hid (HsI lo M l s2 w b1 b2 (.slice (some ⟨g,0,none⟩) x.length cp) x (preK x (k+1)) (wr.setCell ⟨b2,k,none⟩ (.int .u8 y))):=by
    have hkp:=Kp.set wr b2 k (.int .u8 y)
    refine ⟨qF hR.rf fun b hb=>hkp.block b (by have:=qi hR.rf;omega) (by have:=hR.lo;omega),(hkp.block b1 (ga hR.v1).1 (by have:=hR.lo;omega)).trans hR.v1,?_,hR.ow.block fun b hb=>hkp.block b (hR.ow.lt b hb).2 (by have:=(hR.ow.lt b hb).1;omega),hR.kp.trans hkp fun b hb e=>by have:=hR.lo;omega,hR.lo⟩
    rw [jI _ hR.v2,← hs]
    obtain ⟨y,rfl⟩:∃ z:Nat,y=(z:Int):=⟨y.toNat,by omega⟩
    rw [Int.toNat_natCast,tf]
   clear hR HR hs hx hxB
   go_wp2_with fail
   go_roundw
   case rel=>exact ⟨k+1,by go_num,by omega,HN.o⟩
   case measure=>simp;omega
  ·have hkI:¬ (k:Int)<x.length:=by omega
   have hkn2:k=x.length:=by omega
   subst hkn2
   have hR:=HR.o
   rw [pU hx] at hR
   have HL:Hid ((hA (h32 x)).size=32∧(hA (h32 x)).all (·.oneCell')=true):=⟨jG (qO x),jn _⟩
   obtain ⟨L,hLe⟩:∃ L,h32 x=L:=⟨_,rfl⟩
   rw [hLe] at HL hR
   have HLe:=hid hLe
   have HRR:=hid hR
   clear hR HR hLe
   go_wp2_with (first
    | ((with_reducible refine jE 20 22 (.tmp 3) b2 0 (hA L) _ ?_ ?_ ?_ ?_ ?_ Tryz.underlying22 ?_ ?_ ?_);rfl;rfl;kernel_rfl;rfl;exact Lies.of_heap HRR.o.v2;rfl;exact (by rw [jK,HL.o.1]))
    | ((with_reducible refine qj 22 (.tmp 2) (.tmp 20) b1 (hA L) (hA j7) ?_ ?_ ?_ ?_ ?_ ?_ ?_ ?_ ?_ ?_);rfl;rfl;kernel_rfl;rfl;rfl;exact HRR.o.v1;exact (by rw [jK,HL.o.1]);exact (hz32.trans HL.o.1.symm);exact HL.o.2;intro w9 H9))
   refine bodyPost_ret (results_cell_row (P:=Tryz.prog) (p:=2) (ty:=22) rfl _ _ b1 22 (hA L) (0,0) _ rfl H9.o.2.1 Tryz.underlying22 rfl (by rw [jK,HL.o.1])) rfl ⟨by rw [HLe.o],?_,?_⟩
   ·exact qF HRR.o.rf fun b hb=>H9.o.1.block b (by have:=qi HRR.o.rf;omega) (by have:=HRR.o.lo;omega)
   ·exact HRR.o.kp.trans H9.o.1 fun b hb e=>by have:=HRR.o.lo;omega
theorem own5 {w:World} {lo:Nat} {u:Value} {l:List Nat} (h:Su.Owns w lo u l) {b:Nat} (hb:u.ownBlock=some b):∃ cs,w.heap[b]?=some (.cells cs 5 (0,0)):=by
 obtain ⟨_,⟨rfl,_⟩ | ⟨g,cp,cur,rfl,_,rh,_⟩⟩:=h
 ·cases hb
 ·have:g=b:=by simpa [Value.ownBlock] using hb
  subst this
  exact ⟨cur,rh⟩
def K2 (w w':World):Prop:=∀ (b:Nat) (cs:Array Value) (Ty:TypeId),w.heap[b]?=some (.cells cs Ty (0,0))→Ty=5∨Ty=25→w'.heap[b]?=w.heap[b]?
def K25 (w w':World):Prop:=∀ (b:Nat) (cs:Array Value) (Ty:TypeId),w.heap[b]?=some (.cells cs Ty (0,0))→Ty≠25→w'.heap[b]?=w.heap[b]?
theorem K2.of_g {w w':World} (h:G w w'):K2 w w':=fun b _ _ q _=>h.block b (ga q).1
theorem K2.kp {S:Nat→Prop} {w w':World} (h:Kp S w w') (hs:∀ (b:Nat) (cs:Array Value) (Ty:TypeId),w.heap[b]?=some (.cells cs Ty (0,0))→S b→Ty≠5∧Ty≠25):K2 w w':=fun b cs Ty q hT=>h.block b (ga q).1 fun e=>by
 have:=hs b cs Ty q e
 rcases hT with rfl | rfl
 ·exact this.1 rfl
 ·exact this.2 rfl
theorem K2.at {M:Nat} {w w':World} (h:Kp (fun b=>b=M) w w') {c:Array Value} {Ty:TypeId} (hM:w.heap[M]?=some (.cells c Ty (0,0))) (hT:Ty≠5∧Ty≠25):K2 w w':=K2.kp h fun b cs Ty' q e=>by
 rw [e,hM] at q
 cases q
 exact hT
theorem zO {w w':World} {lo:Nat} {u:Value} {l:List Nat} (h:Su.Owns w lo u l) (hk:K2 w w'):Su.Owns w' lo u l:=h.block fun b hb=>by
 obtain ⟨cs,q⟩:=own5 h hb
 exact hk b cs 5 q (.inl rfl)
theorem eV {w w':World} {lo:Nat} {u:Value} {l:List Nat} (h:Su.Owns w lo u l) (hk:K25 w w'):Su.Owns w' lo u l:=h.block fun b hb=>by
 obtain ⟨cs,q⟩:=own5 h hb
 exact hk b cs 5 q (by decide)
def TxE (w:World) (lo:Nat) (v:Value) (N:Nat):Prop:=∃ L,OwL 25 1 w lo v L∧(∀ x∈L,x.all (·.oneCell')=true)∧L.length≤N
def Tx (w:World) (lo:Nat) (v:Value) (T:List Nat) (N:Nat):Prop:=∃ R u,OwL 25 1 w lo v (R++[#[u]])∧(∀ x∈R++[#[u]],x.all (·.oneCell')=true)∧Su.Owns w 0 u T∧R.length+1≤N
theorem TxE.nil (w:World) (lo:Nat):TxE w lo (.slice none 0 0) 0:=⟨[],OwL.nil _ _ _ _,by simp,by simp⟩
theorem Tx.e {w:World} {lo:Nat} {v:Value} {T:List Nat} {N:Nat} (h:Tx w lo v T N):TxE w lo v N:=by
 obtain ⟨R,u,h1,h2,h3,h4⟩:=h
 exact ⟨_,h1,h2,by simp;omega⟩
theorem TxE.keep {w w':World} {lo:Nat} {v:Value} {N:Nat} (h:TxE w lo v N) (hk:K2 w w'):TxE w' lo v N:=by
 obtain ⟨L,h1,h2,h4⟩:=h
 exact ⟨L,h1.block fun b hb=>by obtain ⟨cs,q⟩:=OwL.ty h1 hb;exact hk b cs 25 q (.inr rfl),h2,h4⟩
theorem Tx.keep {w w':World} {lo:Nat} {v:Value} {T:List Nat} {N:Nat} (h:Tx w lo v T N) (hk:K2 w w'):Tx w' lo v T N:=by
 obtain ⟨R,u,h1,h2,h3,h4⟩:=h
 exact ⟨R,u,h1.block fun b hb=>by obtain ⟨cs,q⟩:=OwL.ty h1 hb;exact hk b cs 25 q (.inr rfl),h2,zO h3 hk,h4⟩
theorem Tx.le {w:World} {lo:Nat} {v:Value} {T:List Nat} {N N':Nat} (h:Tx w lo v T N) (hn:N≤N'):Tx w lo v T N':=by
 obtain ⟨R,u,h1,h2,h3,h4⟩:=h
 exact ⟨R,u,h1,h2,h3,by omega⟩
theorem TxE.le {w:World} {lo:Nat} {v:Value} {N N':Nat} (h:TxE w lo v N) (hn:N≤N'):TxE w lo v N':=by
 obtain ⟨L,h1,h2,h4⟩:=h
 exact ⟨L,h1,h2,by omega⟩
theorem Tx.mono {w:World} {lo lo':Nat} {v:Value} {T:List Nat} {N:Nat} (h:Tx w lo v T N) (hn:lo'≤lo):Tx w lo' v T N:=by
 obtain ⟨R,u,h1,h2,h3,h4⟩:=h
 exact ⟨R,u,h1.mono hn,h2,h3,h4⟩
theorem TxE.form {w:World} {lo:Nat} {v:Value} {N:Nat} (h:TxE w lo v N):∃ a n c,v=.slice a n c:=by
 obtain ⟨L,h1,_⟩:=h
 obtain ⟨p,c,e⟩:=h1.form
 exact ⟨_,_,_,e⟩
theorem jo {w:World} {lo:Nat} {u:Value} {l:List Nat} (h:Su.Owns w lo u l):∃ a c,u=.slice a l.length c:=by
 obtain ⟨a,c,e,_⟩:=h.has.form
 exact ⟨a,c,e⟩
theorem Tx.last {w:World} {lo:Nat} {v:Value} {T:List Nat} {N:Nat} (h:Tx w lo v T N):∃ g n c a k,v=.slice (some ⟨g,0,none⟩) (n+1) c∧n+1≤N∧w.cell? ⟨g,n,none⟩=some (.slice a T.length k)∧Su.Owns w 0 (.slice a T.length k) T:=by
 obtain ⟨R,u,h1,h2,h3,h4⟩:=h
 obtain ⟨a,k,rfl⟩:=jo h3
 rcases h1.has with ⟨_,h⟩ | ⟨g,o,cap,rfl,hc,hl⟩
 ·simp at h
 ·have h0:o=0:=by
   obtain ⟨_,⟨e,_⟩ | ⟨g',cp,cur,e,_⟩⟩:=h1.own
   ·cases e
   ·injection e with e
    injection e with e
    injection e with e1 e2
  subst h0
  refine ⟨g,R.length,cap,a,k,by simp,h4,?_,h3⟩
  have:=hl R.length #[.slice a T.length k] (by simp) 0 (.slice a T.length k) rfl
  simpa using this
theorem mE {w:World} {lo:Nat} {u:Value} {T:List Nat} (h:Su.Owns w lo u T):(#[u]:Array Value).all (·.oneCell')=true:=by
 obtain ⟨a,c,rfl⟩:=jo h
 simp [Value.oneCell']
theorem K25.grown {w w':World} {lo:Nat} {v:Value} {L:List (Array Value)} (h:OwL 25 1 w lo v L) (hg:w.grownBy w' v.ownBlock):K25 w w':=fun b cs Ty q hT=>hg.block b (ga q).1 fun e=>by
 obtain ⟨cs',q'⟩:=OwL.ty h e.symm
 rw [q] at q'
 cases q'
 exact hT rfl
theorem TxE.app1 {w:World} {lo:Nat} {v u:Value} {T:List Nat} {N:Nat} (h:TxE w lo v N) (ty:TypeId) (hu:Su.Owns w 0 u T) (hb:lo≤w.heap.size) (hN:N≤1000000) (B:Nat) (hB:w.heap.size=B):
  ∃ v' w',(Builtin.append_ #[31,31] ty #[v,.slice (some ⟨B,0,none⟩) 1 1]).run Tryz.prog (w.alloc (.cells #[u] 25))=.ok v' w'∧Tx w' lo v' T (N+1)∧K25 w w'∧Kp (fun b=>lo≤b) w w':=by
 obtain ⟨L,h1,h2,h4⟩:=h
 obtain ⟨v',w',a1,a2,a3,a4⟩:=zy ek31 ty #[u] rfl (mE hu) h1 hb (by omega) B hB
 have hk:=K25.grown h1 a3
 refine ⟨v',w',a1,⟨L,u,a2,fun x hx=>?_,eV hu hk,by omega⟩,hk,(Kp.grown a3).mono fun b _ e=>(h1.lt b e).1⟩
 rcases List.mem_append.1 hx with hx | hx
 ·exact h2 x hx
 ·simp at hx
  subst hx
  exact mE hu
theorem K25.g {w w':World} (h:G w w'):K25 w w':=fun b _ _ q _=>h.block b (ga q).1
theorem Tx.one {w:World} {u:Value} {T:List Nat} {lo:Nat} (hu:Su.Owns w 0 u T) (B:Nat) (hB:w.heap.size=B) (hlo:lo≤B):Tx (w.alloc (.cells #[u] 25)) lo (.slice (some ⟨B,0,none⟩) 1 1) T 1:=by
 subst hB
 refine ⟨[],u,⟨?_,by intro x hx;simp at hx;subst hx;rfl⟩,by intro x hx;simp at hx;subst hx;exact mE hu,zO hu (K2.of_g (G.alloc _ _)),by simp⟩
 exact ⟨by simp [fl],.inr ⟨w.heap.size,1,#[u],rfl,hlo,World.alloc_heap_new w _,Nat.le_refl _,by decide,rfl,by simp [fl]⟩⟩
theorem br (l:List Int):∀ (n:Nat) (s:Wi.St),qf l (n+1) s=((qf l n s).1++[h32 (Wi.rawB l (qf l n s).2 32)],Wi.rawS l (qf l n s).2 32)
 | 0,s=>rfl
 | n+1,s=>by
  rw [qf,br l n]
  rfl
theorem xQ (l:List Int):∀ (n:Nat) (s:Wi.St),(qf l n s).1.length=n
 | 0,_=>rfl
 | n+1,s=>by simp [qf,xQ l n]
theorem cP {l:List Int} (hB:Wire.Bytes l):∀ (n:Nat) (s:Wi.St),∀ y∈(qf l n s).1,y.length=32∧Su.Bytes y
 | 0,_,y,h=>by simp [qf] at h
 | n+1,s,y,h=>by
  rw [qf] at h
  rcases List.mem_cons.1 h with rfl | h
  ·exact ⟨qO _,kL (qW hB _)⟩
  ·exact cP hB n _ y h
theorem an {w:World} {lo M:Nat} {l:List Int} {s:Wi.St} (h:Wi.RfS w lo M l s):∃ c,w.heap[M]?=some (.cells c 67 (0,0)):=by
 obtain ⟨v,hh,_⟩:=h
 exact ⟨_,hh⟩
theorem OwL.ne {eT s:Nat} {w:World} {lo:Nat} {v:Value} {L:List (Array Value)} (h:OwL eT s w lo v L) {M:Nat} {c:Array Value} {Ty:TypeId} (hM:w.heap[M]?=some (.cells c Ty (0,0))) (hT:Ty≠eT):v.ownBlock≠some M:=fun e=>by
 obtain ⟨cs,q⟩:=OwL.ty h e
 rw [hM] at q
 cases q
 exact hT rfl
structure BsI (lo M:Nat) (l:List Int) (s:Wi.St) (W:World) (v:Value) (L:List (List Nat)) (w:World):Prop where
 rf:Wi.RfS w lo M l s
 ow:OwL 22 32 w W.heap.size v (L.map hA)
 kp:Kp (fun b=>b=M) W w
 lo:M<W.heap.size
theorem aA (lo M:Nat) (l:List Int) (s:Wi.St) (w:World) (hr:Wi.RfS w lo M l s) (hB:Wire.Bytes l) (count place:Nat) (hc:count≤1048576) (hp:place≤1048576):
  Calls Tryz.prog 19 #[.pointer (some ⟨M,0,none⟩),.int .i64 (count:Int),.int .i64 (place:Int)] w fun e w'=>∃ v,e=.returned v∧OwL 22 32 w' w.heap.size v ((qf l (hgt count place) s).1.map hA)∧Wi.RfS w' lo M l (qf l (hgt count place) s).2∧Kp (fun b=>b=M) w w':=by
 have hle:=xz 20 count place (by simpa using hc)
 have CH:=fun W=>dE count place W hc hp
 have C5:Hid (∀ w1 s,Wi.RfS w1 lo M l s→Calls Tryz.prog 50 #[.pointer (some ⟨M,0,none⟩)] w1 fun e w'=>e=.returned (.agg (hA (h32 (Wi.rawB l s 32))))∧Wi.RfS w' lo M l (Wi.rawS l s 32)∧Kp (fun b=>b=M) w1 w'):=fun w1 s h=>yi lo M l s w1 h hB
 obtain ⟨n,hn⟩:∃ n,hgt count place=n:=⟨_,rfl⟩
 rw [hn] at hle CH ⊢
 have HI:Hid (BsI lo M l s w (.slice none 0 0) [] w):=⟨hr,OwL.nil _ _ _ _,Kp.refl _ _,qi hr⟩
 clear hn hr
 go_enter Tryz.func19,Tryz.ntmps19
 go_wp2_with (go_at_call 49;refine (CH w).mono ?_;rintro e w4 ⟨rfl,rfl⟩)
 go_loopw [7,8] (fun v i wr=>∃ k:Nat,i=.int .i64 ((n-k:Nat):Int)∧k≤n∧∃ a m cp,v=.slice a m cp∧Hid (BsI lo M l (qf l k s).2 w4 v (qf l k s).1 wr)) (fun _ i _=>iOf i)
 case atStart=>exact ⟨0,by simp,by omega,none,0,0,rfl,HI.o⟩
 case round=>
  clear HI
  obtain ⟨k,rfl,hk,a,m,cp,rfl,HR⟩:=hrel
  by_cases hkn:k<n
  ·have hkI:(0:Int)<((n-k:Nat):Int):=by omega
   have hR:=HR.o
   have hlen:=xQ l k s
   have hsn:=br l k s
   have C6:=hid (C5.o wr _ hR.rf)
   generalize qf l k s=S at *
   obtain ⟨SL,Ss⟩:=S
   simp only at hR hlen hsn C6
   obtain ⟨Z,hZ⟩:∃ Z,h32 (Wi.rawB l Ss 32)=Z:=⟨_,rfl⟩
   have hZl:Z.length=32:=by rw [← hZ];exact qO _
   obtain ⟨s2,hs2⟩:∃ s2,Wi.rawS l Ss 32=s2:=⟨_,rfl⟩
   rw [hZ,hs2] at hsn C6
   have HRR:=hid hR
   have HSN:=hid hsn
   have HZ:Hid ((hA Z).size=32∧(hA Z).all (·.oneCell')=true):=⟨jG hZl,jn _⟩
   obtain ⟨n',hn'⟩:∃ n',n-k=n'+1:=⟨n-k-1,by omega⟩
   clear hR HR hsn hZ hs2 hZl
   rw [hn'] at hkI ⊢
   go_wp2_with (first
    | (go_at_call 50;go_loud (refine C6.o.mono ?_;rintro e w5 ⟨rfl,q1,q2⟩;have HB:Hid (BsI lo M l s2 w4 (.slice a m cp) SL w5):=(by obtain ⟨c67,h67⟩:=an HRR.o.rf;exact ⟨q1,HRR.o.ow.block fun b hb=>q2.block b (HRR.o.ow.lt b hb).2 fun e=>OwL.ne HRR.o.ow h67 (by decide) (by rw [hb,e]),HRR.o.kp.trans q2 fun _ _ e=>e,HRR.o.lo⟩);clear q1 q2;obtain ⟨u,w6,a1,a2,a3,a4⟩:=zy ek70 70 (hA Z) HZ.o.1 HZ.o.2 HB.o.ow HB.o.kp.size (by rw [List.length_map];omega) _ rfl;have HN:Hid (BsI lo M l s2 w4 u (SL++[Z]) w6):=(by obtain ⟨c67,h67⟩:=an HB.o.rf;exact ⟨qF HB.o.rf fun b hb=>a3.block b (by have:=qi HB.o.rf;omega) fun e=>by have:=(HB.o.ow.lt b e.symm).1;have:=HB.o.lo;omega,by rw [List.map_append];exact a2,HB.o.kp.trans (Kp.grown a3) fun b hb e=>by have:=(HB.o.ow.lt b e).1;omega,HB.o.lo⟩);have HAP:=hid a1;obtain ⟨ua,uc,hue⟩:=a2.form;rw [show (List.map hA SL++[hA Z]).length=k+1 from (by simp [hlen])] at hue;clear a1 a2 a3 a4))
    | ((with_reducible refine jT 19 (.slice (some ⟨w5.heap.size,0,none⟩) 1 1) (w5.alloc (.cells (hA Z) 22)) ?_ ?_ ?_ ?_);rfl;kernel_rfl;exact jf ek70 _ rfl (.agg (hA Z)) (hA Z) rfl rfl HZ.o.1 _ _ rfl)
    | ((with_reducible refine jT 20 u w6 ?_ ?_ ?_ ?_);rfl;kernel_rfl;exact qc rfl rfl rfl HAP.o;subst hue))
   go_roundw
   case rel=>
    refine ⟨k+1,by rw [show n-(k+1)=n' by omega],by omega,_,_,_,rfl,?_⟩
    rw [HSN.o]
    exact HN.o
   case measure=>simp
  ·have hkn2:k=n:=by omega
   subst hkn2
   have hz:k-k=0:=by omega
   rw [hz]
   go_wp2_with fail
   go_ret
   exact ⟨_,rfl,HR.o.ow,HR.o.rf,HR.o.kp⟩
end Go.Proofs.YtdeanahpiigonaaGreatDoor
