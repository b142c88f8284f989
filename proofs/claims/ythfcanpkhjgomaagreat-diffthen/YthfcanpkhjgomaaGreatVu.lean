import Derived.Test.YthfcanpkhjgomaaGreatDWB
import Derived.Test.YthfcanpkhjgomaaGreatVp
set_option maxRecDepth 100000
set_option maxHeartbeats 16000000
namespace Go.Proofs.YthfcanpkhjgomaaGreat
open Go.RowKit Ch
attribute [local go_sem] Oper.semAt_some
def WQ (lo:Nat) (J:Ys) (v:Value) (L:List ByteArray) (W:World) (M:Nat→Prop) (pre D:List Cd) (e:Ending) (W':World):Prop:=∃ g,e=.returned (.bool g)∧WPost lo J v L W M pre D g W'
def WalkOk (lo:Nat) (J:Ys) (gf:Nat) (cap:Array Value) (T:List Cd) (w0:World) (Z:Nat):Prop:=∀ (L:List ByteArray) (x y:Si) (v:Value) (W:World) (M:Nat→Prop) (pre:List Cd),
 siZ x+siZ y<Z→SiAt w0 x→SiAt w0 y→Below w0.heap.size w0 W→OwnsT W lo v L→(∀ b,v.ownBlock=some b→¬ M b)→J true pre M W→pre++(dl (L.map tl) x y).map toC <+: T→L.length+siZ x+siZ y≤10000→(joinL (L.map tl)).length+siW x+siW y≤1000000→
 Calls Tryz.prog 59 #[v,siP x,siP y,.func (.func gf) #[] cap] W (WQ lo J v L W M pre ((dl (L.map tl) x y).map toC))
def WI (lo:Nat) (J:Ys) (w0 W:World) (M:Nat→Prop) (v fv:Value) (L:List ByteArray) (B:Nat) (MT:Nat→Prop) (pr:List Cd) (WT:World) (x y:Si) (ps:List (Pv (siI x) (siI y))) (X:World):Prop:=
 ∃ M',WkS lo J w0 W M v fv L B true M' (pr++((ps.map (·.1)).flatMap (pD (L.map tl) (siI x) (siI y))).map toC) X∧(∀ b,M' b→MT b∨WT.heap.size≤b)∧Kp (fun b=>MT b∨v.ownBlock=some b) WT X
def WX (lo:Nat) (J:Ys) (w0 W:World) (M:Nat→Prop) (v fv:Value) (L:List ByteArray) (B:Nat) (pr all:List Cd) {β:Type} (_:List β) (X:World):Prop:=
 ∃ M' qs,WkS lo J w0 W M v fv L B false M' (pr++qs) X∧qs <+: all
theorem WI.own {lo:Nat} {J:Ys} (hJ:Yd lo J) {w0 W:World} {M:Nat→Prop} {v fv:Value} {L:List ByteArray} {B:Nat} {MT:Nat→Prop} {pr:List Cd} {WT:World} {x y:Si} (hlo:w0.heap.size=lo) (hB:W.heap.size=B) (hs:B≤WT.heap.size) (N:Nat) (hN:WT.heap.size≤N):OwnFrom N (WI lo J w0 W M v fv L B MT pr WT x y):=by
 rintro ps X X' row ⟨M',h1,h2,h3⟩ hg hr
 have hk:=Kp.grown hg
 refine ⟨M',h1.side hJ hlo hB hk fun b e=>?_,h2,h3.trans hk fun b hb e=>?_⟩
 ·obtain ⟨q1,o,ho,hc⟩:=hr b e
  exact ⟨by omega,fun _=>⟨o,ho,hc⟩⟩
 ·have:=(hr b e).1
  omega
theorem WX.own {lo:Nat} {J:Ys} (hJ:Yd lo J) {w0 W:World} {M:Nat→Prop} {v fv:Value} {L:List ByteArray} {B:Nat} {pr all:List Cd} {β:Type} (hlo:w0.heap.size=lo) (hB:W.heap.size=B) (N:Nat) (hN:B≤N):OwnFrom N (WX lo J w0 W M v fv L B pr all (β:=β)):=by
 rintro ps X X' row ⟨M',qs,h1,h2⟩ hg hr
 refine ⟨M',qs,h1.side hJ hlo hB (Kp.grown hg) fun b e=>?_,h2⟩
 obtain ⟨q1,o,ho,hc⟩:=hr b e
 exact ⟨by omega,fun _=>⟨o,ho,hc⟩⟩
theorem joinL_len1 (L:List By) (a:By):(joinL (L++[a])).length≤(joinL L).length+1+a.length:=by
 induction L with
 | nil=>simp [joinL]
 | cons x L ih=>
  cases L with
  | nil=>simp [joinL];omega
  | cons y L=>
   simp only [List.cons_append,joinL,List.length_append,List.length_cons] at ih ⊢
   omega
theorem pair_small {x y:Si} (p:Pv (siI x) (siI y)):siZ (pX (siI x) p.1.1)+siZ (pX (siI y) p.1.2)+1≤siZ x+siZ y∧siW (pX (siI x) p.1.1)+siW (pX (siI y) p.1.2)+1+(pNm (siI x) (siI y) p.1).size≤siW x+siW y:=by
 obtain ⟨⟨i,j⟩,h1,h2,h3⟩:=p
 cases i with
 | none=>cases j with
  | none=>exact absurd rfl h3
  | some j=>
   have hj:=h2 j rfl
   obtain ⟨b,hb⟩:∃ b,(siI y)[j]?=some b:=⟨(siI y)[j],by simp⟩
   have e0:pNm (siI x) (siI y) (none,some j)=b.nm:=by simp [pNm,pX,hb]
   have:=item_small hb
   rw [e0]
   simp only [pX,hb]
   have hn0:F.nil.weight=0:=rfl
   simp only [siZ,siW,siF] at *
   omega
 | some i=>
  have hi:=h1 i rfl
  obtain ⟨a,ha⟩:∃ a,(siI x)[i]?=some a:=⟨(siI x)[i],by simp⟩
  have e0:pNm (siI x) (siI y) (some i,j)=a.nm:=by simp [pNm,pX,ha]
  have q1:=item_small ha
  rw [e0]
  cases j with
  | none=>
   simp only [pX,ha]
   have hn0:F.nil.weight=0:=rfl
   simp only [siZ,siW,siF] at *
   omega
  | some j=>
   have hj:=h2 j rfl
   obtain ⟨b,hb⟩:∃ b,(siI y)[j]?=some b:=⟨(siI y)[j],by simp⟩
   have q2:=item_small hb
   simp only [pX,ha,hb]
   have hn0:F.nil.weight=0:=rfl
   simp only [siZ,siW,siF] at *
   omega
theorem flat_pre {A B:List Kid} {L:List By} {ps:List Pr} {p:Pr} {all:List Pr} (h:ps++[p] <+: all):((ps.flatMap (pD L A B)).map toC++(pD L A B p).map toC) <+: (all.flatMap (pD L A B)).map toC:=by
 obtain ⟨t,rfl⟩:=h
 simp only [List.flatMap_append,List.map_append,List.flatMap_cons,List.flatMap_nil,List.append_nil]
 exact List.prefix_append _ _
theorem under32w:Tryz.prog.underlying 34=some (.pointer 98):=by kernel_rfl
theorem size68w:(Tryz.prog.info? 98).map (·.size)=some 40:=by kernel_rfl
theorem eqN (w:World) (a b:Option Addr) (h:a=none∨b=none):(binOp BinOp.eql 34 (.pointer a) (.pointer b)).run Tryz.prog w=.ok (.bool (decide (a=b))) w:=by
 have h:∀ d:Nat,(Op.equalIn (d+1) 34 (.pointer a) (.pointer b)).run Tryz.prog w=.ok (decide (a=b)) w:=fun d=>by
  cases a<;>cases b<;>simp_all [Op.equalIn,run_underlying under32w]
 simp only [binOp]
 simp [Op.equal,Op.maxDepth,h 9999]
theorem eqP {w:World} {x y:Si} (hx:SiAt w x) (hy:SiAt w y) (a b:Option Addr) (ha:siP x=.pointer a) (hb:siP y=.pointer b):(binOp BinOp.eql 34 (.pointer a) (.pointer b)).run Tryz.prog w=.ok (.bool (decide (a=b))) w:=by
 obtain ⟨j,hj,hjs⟩:=Option.map_eq_some_iff.1 size68w
 cases x with
 | none=>
  cases y with
  | none=>
   simp [siP] at ha hb
   subst ha hb
   exact eqN w _ _ (by simp)
  | some q=>
   simp [siP] at ha hb
   subst ha hb
   exact eqN w _ _ (by simp)
 | some p=>
  cases y with
  | none=>
   simp [siP] at ha hb
   subst ha hb
   exact eqN w _ _ (by simp)
  | some q=>
   simp [siP] at ha hb
   subst ha hb
   obtain ⟨c1,h1⟩:=(hx p rfl).2.2
   obtain ⟨c2,h2⟩:=(hy q rfl).2.2
   by_cases e:p.p=q.p
   ·rw [e]
    simpa using run_eql_ptr_same (P:=Tryz.prog) w ⟨q.p,0,none⟩ under32w hj
   ·have:=run_eql_ptr_other (P:=Tryz.prog) w (a:=⟨p.p,0,none⟩) (b:=⟨q.p,0,none⟩) under32w hj (by rw [hjs];decide) (fun q=>e (by injection q)) h1 h2
    simpa [e] using this
end Go.Proofs.YthfcanpkhjgomaaGreat
namespace Go.Proofs.YthfcanpkhjgomaaGreat
open Go.RowKit Ch
def adP (g:Nat) (i:Option Nat):Option Addr:=i.map fun i=>⟨g,0+i*2,none⟩
structure RF (v fv v3 sx sy:Value) (B g o D E:Nat) (p1 p2:Option Addr) (nm:ByteArray) (X w1 w2 w3:World):Prop where
 c40:X.drew.cell? ⟨B,0,none⟩=some v
 c41:w1.cell? ⟨B,0,none⟩=some v
 c42:w2.cell? ⟨B,0,none⟩=some v
 d0:X.drew.cell? ⟨B+1,0,none⟩=some fv
 d1:w1.cell? ⟨B+1,0,none⟩=some fv
 d2:w2.cell? ⟨B+1,0,none⟩=some fv
 d3:w3.cell? ⟨B+1,0,none⟩=some fv
 e3:X.drew.alloc (.cells #[.pointer p1,.pointer p2] 187)=w1
 s3:X.drew.heap.size=D
 e8:w1.alloc (.cells #[.string nm] 9)=w2
 s8:w1.heap.size=E
 m0:w1.cell? ⟨D,0,none⟩=some (.pointer p1)
 m1:w1.cell? ⟨D,1,none⟩=some (.pointer p2)
 hor:orP p1 p2=some ⟨g,o,none⟩
 cn:w1.cell? ⟨g,o,none⟩=some (.string nm)
 ha9:(Builtin.append_ #[130,130] 130 #[v,.slice (some ⟨E,0,none⟩) 1 1]).run Tryz.prog w2=.ok v3 w3
 hS1:Calls Tryz.prog 97 #[.pointer p1] w3 fun e w'=>e=.returned sx∧w'=w3
 hS2:Calls Tryz.prog 97 #[.pointer p2] w3 fun e w'=>e=.returned sy∧w'=w3
theorem sub_si {w:World} {g:Nat} {A:List Kid} (i:Option Nat) (hi:∀ k,i=some k→k<A.length) (h:∀ k a,A[k]?=some a→Ch.Lies w g (0+k*2) (kA a)):Calls Tryz.prog 97 #[.pointer (adP g i)] w fun e w'=>e=.returned (siP (pX A i))∧w'=w:=by
 cases i with
 | none=>exact subtree_none w
 | some k=>
  have hk:=hi k rfl
  obtain ⟨a,ha⟩:∃ a,A[k]?=some a:=⟨A[k],by simp⟩
  have e1:siP (pX A (some k))=.pointer (some ⟨a.p,0,none⟩):=by simp [siP,pX,ha]
  rw [e1]
  exact subtree_some g (0+k*2) a.p w (h k a ha 1 _ rfl)
theorem round_facts {lo:Nat} {J:Ys} {w0 W:World} {M:Nat→Prop} {v fv:Value} {L:List ByteArray} {B:Nat} {M':Nat→Prop} {pr:List Cd} {X:World} (h:WkS lo J w0 W M v fv L B true M' pr X) (hn:L.length≤100000) {A A2:List Kid} (gx gy:Nat)
  (lx:∀ i a,A[i]?=some a→gx<X.heap.size∧v.ownBlock≠some gx∧Ch.Lies X gx (0+i*2) (kA a)) (ly:∀ i a,A2[i]?=some a→gy<X.heap.size∧v.ownBlock≠some gy∧Ch.Lies X gy (0+i*2) (kA a)) (p:Pv A A2):
  ∃ g o v3 w1 w2 w3,RF v fv v3 (siP (pX A p.1.1)) (siP (pX A2 p.1.2)) B g o X.heap.size (X.heap.size+1) (adP gx p.1.1) (adP gy p.1.2) (pNm A A2 p.1) X w1 w2 w3∧OwnsT w3 lo v3 (L++[pNm A A2 p.1])∧Kp (fun b=>v.ownBlock=some b) X w3∧Behind w2 v v3∧OwnsT w3 lo v L∧X.heap.size≤w2.heap.size:=by
 obtain ⟨w1,hw1⟩:∃ w1,X.drew.alloc (.cells #[.pointer (adP gx p.1.1),.pointer (adP gy p.1.2)] 187)=w1:=⟨_,rfl⟩
 obtain ⟨w2,hw2⟩:∃ w2,w1.alloc (.cells #[.string (pNm A A2 p.1)] 9)=w2:=⟨_,rfl⟩
 have g1:Below X.heap.size X w1:=by
  rw [← hw1]
  exact (Below.drews (Below.refl _ X) ⟨1,rfl⟩).alloc (Nat.le_refl _) _
 have s1:w1.heap.size=X.heap.size+1:=by rw [← hw1];simp
 have g2':Below w1.heap.size w1 w2:=by rw [← hw2];exact (Below.refl _ w1).alloc (Nat.le_refl _) _
 have g2:Below X.heap.size X w2:=Below.up g1 g2'
 have s2:w2.heap.size=X.heap.size+2:=by rw [← hw2];simp [s1]
 have cE:w2.cell? ⟨X.heap.size+1,0,none⟩=some (.string (pNm A A2 p.1)):=by
  have:=heap_alloc_new w1 (.cells #[.string (pNm A A2 p.1)] 9)
  rw [hw2,s1] at this
  simp [World.cell?,this]
 obtain ⟨v3,w3,ha,o3,gr,bh,ol⟩:=names_app w2 lo v L (pNm A A2 p.1) (X.heap.size+1) (grownT h.ow (Kp.of (S:=fun _=>False) g2) (fun _ _ e=>e)) cE (by have:=h.l0;have:=h.kp.size;have:=h.b4.lt;omega) hn
 have k3:Kp (fun b=>v.ownBlock=some b) X w3:=(Kp.of (S:=fun b=>v.ownBlock=some b) g2).trans (Kp.grown gr) fun _ _ e=>e
 have l4:=h.b4.lt
 have l7:=h.b7.lt
 have n7:¬ v.ownBlock=some (B+1):=fun e=>by have:=h.n5 _ e;omega
 have lx3:∀ k a,A[k]?=some a→Ch.Lies w3 gx (0+k*2) (kA a):=fun k a hk j u hj=>by
  obtain ⟨q1,q2,q3⟩:=lx k a hk
  exact (World.cell?_of_block (a:=⟨gx,0+k*2+j,none⟩) (k3.block gx q1 q2)).trans (q3 j u hj)
 have ly3:∀ k a,A2[k]?=some a→Ch.Lies w3 gy (0+k*2) (kA a):=fun k a hk j u hj=>by
  obtain ⟨q1,q2,q3⟩:=ly k a hk
  exact (World.cell?_of_block (a:=⟨gy,0+k*2+j,none⟩) (k3.block gy q1 q2)).trans (q3 j u hj)
 obtain ⟨g,o,hor,cn⟩:∃ g o,orP (adP gx p.1.1) (adP gy p.1.2)=some ⟨g,o,none⟩∧w1.cell? ⟨g,o,none⟩=some (.string (pNm A A2 p.1)):=by
  obtain ⟨⟨i,j⟩,h1,h2,h3⟩:=p
  cases i with
  | some i=>
   have hi:=h1 i rfl
   obtain ⟨a,ha⟩:∃ a,A[i]?=some a:=⟨A[i],by simp⟩
   have e0:pNm A A2 (some i,j)=a.nm:=by simp [pNm,pX,ha]
   obtain ⟨q1,_,q3⟩:=lx i a ha
   refine ⟨gx,0+i*2,rfl,?_⟩
   rw [e0]
   exact (g1.cell (p:=⟨gx,0+i*2,none⟩) q1).trans (q3 0 _ rfl)
  | none=>
   cases j with
   | none=>exact absurd rfl h3
   | some j=>
    have hj:=h2 j rfl
    obtain ⟨a,ha⟩:∃ a,A2[j]?=some a:=⟨A2[j],by simp⟩
    have e0:pNm A A2 (none,some j)=a.nm:=by simp [pNm,pX,ha]
    obtain ⟨q1,_,q3⟩:=ly j a ha
    refine ⟨gy,0+j*2,rfl,?_⟩
    rw [e0]
    exact (g1.cell (p:=⟨gy,0+j*2,none⟩) q1).trans (q3 0 _ rfl)
 have hrow:w1.heap[X.heap.size]?=some (.cells #[.pointer (adP gx p.1.1),.pointer (adP gy p.1.2)] 187 (0,0)):=by rw [← hw1];exact heap_alloc_new X.drew _
 refine ⟨g,o,v3,w1,w2,w3,⟨h.b4.cell,(g1.cell (p:=⟨B,0,none⟩) l4).trans h.b4.cell,(g2.cell (p:=⟨B,0,none⟩) l4).trans h.b4.cell,h.b7.cell,(g1.cell (p:=⟨B+1,0,none⟩) l7).trans h.b7.cell,(g2.cell (p:=⟨B+1,0,none⟩) l7).trans h.b7.cell,(World.cell?_of_block (a:=⟨B+1,0,none⟩) (k3.block _ l7 n7)).trans h.b7.cell,hw1,rfl,hw2,s1,?_,?_,hor,cn,ha,sub_si p.1.1 p.2.1 lx3,sub_si p.1.2 p.2.2.1 ly3⟩,o3,k3,bh,ol,by omega⟩
 ·simp [World.cell?,hrow]
 ·simp [World.cell?,hrow]
attribute [local go_sem] Oper.semAt_some
theorem two_vars (w:World) (Yx Yy:Array Value) (T:Nat) (hT:w.heap.size=T) (sx:Yx.size=35) (sy:Yy.size=35) (ox:Yx.all (·.oneCell')=true) (oy:Yy.all (·.oneCell')=true):
  ∃ w4 w5 w6 w7,Hid ((∀ (o:Oper) (a:Act),o.op=.alloc 24→(execOp a.eval o).run Tryz.prog w=.ok (.value (.pointer (some ⟨T,0,none⟩))) w4)∧(∀ (o:Oper) (a:Act),o.op=.alloc 24→(execOp a.eval o).run Tryz.prog w4=.ok (.value (.pointer (some ⟨T+1,0,none⟩))) w5)∧
   (∀ (o:Oper) (a:Act) (x y:Operand),o.op=.store 24 x y→a.eval x=.pointer (some ⟨T,0,none⟩)→a.eval y=.agg Yx→(execOp a.eval o).run Tryz.prog w5=.ok .skip w6)∧(∀ (o:Oper) (a:Act) (x y:Operand),o.op=.store 24 x y→a.eval x=.pointer (some ⟨T+1,0,none⟩)→a.eval y=.agg Yy→(execOp a.eval o).run Tryz.prog w6=.ok .skip w7)∧
   w7.heap[T]?=some (.cells Yx 24 (0,0))∧w7.heap[T+1]?=some (.cells Yy 24 (0,0))∧Below w.heap.size w w7):=by
 subst hT
 have h4:(w.alloc (.cells vzA 24)).heap[w.heap.size]?=some (.cells vzA 24 (0,0)):=heap_alloc_new _ _
 have h5:((w.alloc (.cells vzA 24)).alloc (.cells vzA 24)).heap[w.heap.size]?=some (.cells vzA 24 (0,0)):=(heap_alloc_old _ _ (by simp)).trans h4
 have h5b:((w.alloc (.cells vzA 24)).alloc (.cells vzA 24)).heap[w.heap.size+1]?=some (.cells vzA 24 (0,0)):=by
  have:=heap_alloc_new (w.alloc (.cells vzA 24)) (.cells vzA 24)
  rwa [World.size_alloc] at this
 have h6:=setRow_heap _ _ vzA Yx 24 _ h5
 have h6b:(((w.alloc (.cells vzA 24)).alloc (.cells vzA 24)).setRow w.heap.size Yx).heap[w.heap.size+1]?=some (.cells vzA 24 (0,0)):=(setRow_other _ _ _ _ (by omega)).trans h5b
 have h7b:=setRow_heap _ _ vzA Yy 24 _ h6b
 refine ⟨_,_,_,_,fun o a ho=>Ch.exec_allocT 24 vzA ho zero24v _ _ rfl,fun o a ho=>Ch.exec_allocT 24 vzA ho zero24v _ _ (by simp),fun o a x y ho hx hy=>Ch.exec_storeT 24 x y ho w.heap.size Yx vzA hx hy _ h5 (by rw [size24v,sx]) (by rw [sx];rfl) ox,fun o a x y ho hx hy=>Ch.exec_storeT 24 x y ho (w.heap.size+1) Yy vzA hx hy _ h6b (by rw [size24v,sy]) (by rw [sy];rfl) oy,(setRow_other _ _ _ _ (by omega)).trans h6,h7b,rfl,rfl,rfl,by simp;omega,fun b hb=>?_⟩
 exact (setRow_other _ _ _ _ (by omega)).trans ((setRow_other _ _ _ _ (by omega)).trans ((heap_alloc_old _ _ (by simp;omega)).trans (heap_alloc_old _ _ hb)))
theorem sidesT (va vb:Value) (w:World) (T:Nat) (hT:w.heap.size=T) (ha:va.oneCell'=true) (hb:vb.oneCell'=true):Calls Tryz.prog 93 #[va,vb,.func (.func 95) #[] #[]] w fun e w'=>e=.returned (.func (.func 125) #[] #[.pointer (some ⟨T,0,none⟩),.pointer (some ⟨T+1,0,none⟩),.pointer (some ⟨T+2,0,none⟩)])∧
  Hid (Bx w' T 184 va∧Bx w' (T+1) 184 vb∧Bx w' (T+2) 186 (.func (.func 95) #[] #[])∧Below w.heap.size w w'∧w'.heap.size=T+3):=by
 subst hT
 refine (sides_any va vb w ha hb).mono ?_
 rintro e w' ⟨rfl,rfl⟩
 refine ⟨rfl,?_,?_,?_,(((Below.refl _ w).alloc (Nat.le_refl _) _).alloc (by simp) _).alloc (by simp;omega) _,by simp⟩
 ·exact (heap_alloc_old _ _ (by simp;omega)).trans ((heap_alloc_old _ _ (by simp)).trans (heap_alloc_new _ _))
 ·refine (heap_alloc_old _ _ (by simp)).trans ?_
  have:=heap_alloc_new (w.alloc (.cells #[va] 184)) (.cells #[vb] 184)
  rwa [World.size_alloc] at this
 ·have:=heap_alloc_new ((w.alloc (.cells #[va] 184)).alloc (.cells #[vb] 184)) (.cells #[.func (.func 95) #[] #[]] 186)
  rwa [World.size_alloc,World.size_alloc] at this
theorem WkS.store {lo:Nat} {J:Ys} {w0 W:World} {M:Nat→Prop} {v fv:Value} {L:List ByteArray} {B:Nat} {g:Bool} {MT:Nat→Prop} {pr:List Cd} {X:World} (hJ:Yd lo J) (hlo:w0.heap.size=lo) (hB:W.heap.size=B) (h:WkS lo J w0 W M v fv L B g MT pr X):WkS lo J w0 W M v fv L B g MT pr (X.setCell ⟨B+2,0,none⟩ (.bool false)):=by
 have hk:=Kp.set X (B+2) 0 (.bool false)
 have hl:=h.l0
 refine ⟨hJ.keep _ h.j hk (fun b e=>by rw [e];exact h.n4 _ (by omega) (by omega)) (fun b e=>by omega),h.kp.trans hk (fun b hb e=>by omega),h.mt,grownT h.ow hk (fun b hb e=>by have:=h.n5 b hb;omega),h.nv,h.b4.other (by omega),h.b7.other (by omega),h.b8.set _,h.n4,h.n5,h.bel.trans (hk.below h.bel.size fun b e=>by omega),h.l0⟩
theorem siI_len (x:Si):(siI x).length≤siZ x:=by
 cases x with
 | none=>exact Nat.le_refl _
 | some q=>
  simp only [siI,siZ,K.items_len]
  have:=q.k.flat.len_le_size
  omega
theorem walk_step {lo:Nat} {J:Ys} (hJ:Yd lo J) {gf:Nat} {cap:Array Value} (eg:∀ args w,(callFunc gf args).run Tryz.prog w=.ok (.enter gf args) w) {T:List Cd} (hY:YOk gf cap J T) {w0:World} (hlo:w0.heap.size=lo) (Z:Nat) (ih:WalkOk lo J gf cap T w0 Z):WalkOk lo J gf cap T w0 (Z+1):=by
 intro L x y v W M pre hz hx hy bel ow nv hj hT hl hw
 obtain ⟨B,hB⟩:∃ B,W.heap.size=B:=⟨_,rfl⟩
 have S1:=WkS.start hJ (.func (.func gf) #[] cap) hlo hB hj ow nv bel
 obtain ⟨W1,hW1⟩:∃ W1,(((W.alloc (.cells #[v] 130)).alloc (.cells #[.func (.func gf) #[] cap] 106)).alloc (.cells #[.bool false] 4))=W1:=⟨_,rfl⟩
 have s1:W1.heap.size=B+3:=by rw [← hW1,← hB];simp
 obtain ⟨ax,hax⟩:∃ ax:Option Addr,x.map (fun q=>(⟨q.p,0,none⟩:Addr))=ax:=⟨_,rfl⟩
 obtain ⟨ay,hay⟩:∃ ay:Option Addr,y.map (fun q=>(⟨q.p,0,none⟩:Addr))=ay:=⟨_,rfl⟩
 have px:siP x=.pointer ax:=by unfold siP;rw [hax]
 have py:siP y=.pointer ay:=by unfold siP;rw [hay]
 obtain ⟨ao,c0,hv,_⟩:=(OwnsT.has ow).form
 obtain ⟨n,hn⟩:∃ n,L.length=n:=⟨_,rfl⟩
 rw [hn] at hv
 have HV:=hid hv
 have HS1:Hid (WkS lo J w0 W M v (.func (.func gf) #[] cap) L B true M pre W1):=by rw [hW1] at S1;exact S1
 have HALL:=hid (And.intro hz (And.intro hx (And.intro hy (And.intro hT (And.intro hl hw)))))
 clear S1 hz hx hy ow nv hj hT hl hw bel
 refine (callsIn_wide (n:=4)).1 ?_
 refine callsIn_of_wp_marks Tryz.func59 rfl trivial ?_ rfl
 rw [px,py]
 subst hv
 have b8:W1.cell? ⟨B+1+1,0,none⟩=some (.bool false):=HS1.out.b8.cell
 have f8:W1.frozen? ⟨B+1+1,0,none⟩=false:=HS1.out.b8.frozen
 have X1:SiAt W1 x:=HALL.out.2.1.grow HS1.out.bel
 have Y1:SiAt W1 y:=HALL.out.2.2.1.grow HS1.out.bel
 have hpe:=eqP X1 Y1 ax ay px py
 have CX:=hid X1
 have CY:=hid Y1
 clear X1 Y1
 simp only [Tryz.ntmps59,List.size_toArray,List.length_cons,List.length_nil,Nat.reduceAdd,Nat.reduceSub,Array.replicate_succ,Array.replicate_zero,List.push_toArray,List.append_toArray,List.nil_append,List.cons_append]
 by_cases hxy:ax=ay
 ·subst hxy
  rw [decide_eq_true rfl] at hpe
  gi_wp2
  have e0:dl (L.map tl) x y=[]:=dl_at CX.out CY.out (px.trans py.symm)
  have r8:=(HS1.out.b8.set (.bool true)).cell
  refine ⟨.bool true,?_,true,rfl,HS1.out.fin hJ hB (Kp.set W1 (B+2) 0 (.bool true)) (fun b e=>.inl e) (qs:=[]) (by simp) (fun _=>by rw [e0];rfl) (by simp)⟩
  simp [results,Tryz.f59,go_sem,r8]
 ·rw [decide_eq_false hxy] at hpe
  have CVX:=hid (valueOf_si x W1 CX.out)
  rw [px] at CVX
  obtain ⟨Yx,hYx⟩:∃ Yx,(vx (siV x)).toArray=Yx:=⟨_,rfl⟩
  obtain ⟨Yy,hYy⟩:∃ Yy,(vx (siV y)).toArray=Yy:=⟨_,rfl⟩
  have HYX:Hid (Yx.size=35∧Yx.all (·.oneCell')=true):=⟨by rw [← hYx];simp [vx_len],by rw [← hYx];exact vx_oneM _⟩
  have HYY:Hid (Yy.size=35∧Yy.all (·.oneCell')=true):=⟨by rw [← hYy];simp [vx_len],by rw [← hYy];exact vx_oneM _⟩
  have HXY:=hid (And.intro hYx hYy)
  rw [hYx] at CVX
  clear hYx hYy
  gi_wp2_with (first
   | (refine ⟨trivial,?_⟩;gi_at_call 91;refine (callsIn_wide.2 CVY.out).mono ?_;rintro e W3 ⟨rfl,b3⟩;obtain ⟨T0,hT0⟩:∃ T0,W3.heap.size=T0:=⟨_,rfl⟩;obtain ⟨W4,W5,W6,W7,HA⟩:=two_vars W3 Yx Yy T0 hT0 HYX.out.1 HYY.out.1 HYX.out.2 HYY.out.2;have H3:=hid b3;clear b3)
   | (refine ⟨trivial,?_⟩;gi_at_call 91;refine (callsIn_wide.2 CVX.out).mono ?_;rintro e W2 ⟨rfl,b2⟩;have H2:=hid b2;have CVY:=hid (valueOf_si y W2 (CY.out.grow b2));rw [py,HXY.out.2] at CVY;clear b2)
   | ((with_reducible refine wpListIn_execW (.pointer (some ⟨T0,0,none⟩)) W4 ?_ ?_ ?_ ?_ ?_);rfl;exact HA.out.1 _ _ rfl;(intro c h;cases h);exact fun _ _=>trivial)
   | ((with_reducible refine wpListIn_execW (.pointer (some ⟨T0+1,0,none⟩)) W5 ?_ ?_ ?_ ?_ ?_);rfl;exact HA.out.2.1 _ _ rfl;(intro c h;cases h);exact fun _ _=>trivial)
   | ((with_reducible refine wpListIn_skipW W6 ?_ ?_ ?_ ?_ ?_);rfl;exact HA.out.2.2.1 _ _ _ _ rfl rfl rfl;(intro c h;cases h);exact fun _ _=>trivial)
   | ((with_reducible refine wpListIn_skipW W7 ?_ ?_ ?_ ?_ ?_);rfl;exact HA.out.2.2.2.1 _ _ _ _ rfl rfl rfl;(intro c h;cases h);exact fun _ _=>trivial))
  have hYx:=HXY.out.1
  have hYy:=HXY.out.2
  have S7:Hid (WkS lo J w0 W M (.slice ao n c0) (.func (.func gf) #[] cap) L B true M pre W7):=HS1.out.up hJ hlo hB (Below.up (Below.up H2.out H3.out) HA.out.2.2.2.2.2.2)
  have l9:Ch.Lies W7 T0 0 (vx (siV x)).toArray:=fun j u hj=>by rw [Nat.zero_add,hYx] at *;simp only [World.cell?,HA.out.2.2.2.2.1];exact hj
  have l10:Ch.Lies W7 (T0+1) 0 (vx (siV y)).toArray:=fun j u hj=>by rw [Nat.zero_add,hYy] at *;simp only [World.cell?,HA.out.2.2.2.2.2.1];exact hj
  have HDL:Hid (dl (L.map tl) x y=DO.df (L.map tl) (siV x) (siV y)++(mg (siI x) (siI y) 0 0).flatMap (pD (L.map tl) (siI x) (siI y))):=dl_pairs _ _ _
  clear HA H2 H3 hpe CVX CVY
  by_cases hne:siV x=siV y
  case' pos=>
   rw [← hne] at l10
   refine regS T0 (T0+1) (siV x) 4 _ W7 rfl rfl rfl l9 l10 fun _ w8 hd=>?_
   rw [foldS]
   obtain ⟨M8,pr8,HS8,HP8⟩:∃ M8 pr8,Hid (WkS lo J w0 W M (.slice ao n c0) (.func (.func gf) #[] cap) L B true M8 pr8 w8)∧Hid (pr8=pre++(DO.df (L.map tl) (siV x) (siV y)).map toC):=⟨M,pre,S7.out.up hJ hlo hB (Below.drews (Below.refl _ _) hd),by show pre=_;simp [DO.df,hne]⟩
   clear l9 l10 S7 hd hne HXY hYx hYy
   generalize (vx (siV x)).toArray=YA
   go_simp
  case' neg=>
   have HPL:Hid (pre++[toC ⟨L.map tl,siV x,siV y⟩] <+: T):=by
    have:=HALL.out.2.2.2.1
    rw [HDL.out,DO.df,if_neg hne] at this
    refine List.IsPrefix.trans ?_ this
    simp
   refine regD B (B+1) T0 (T0+1) (.slice ao n c0) (siV x) (siV y) (ofB (joinL (L.map tl))) (.func (.func gf) #[] cap) 4 gf cap L (fun g w=>∃ M',J g (pre++[toC ⟨L.map tl,siV x,siV y⟩]) M' w∧Kp M W7 w∧∀ b,M' b→M b∨W7.heap.size≤b) _ W7 rfl rfl rfl rfl rfl rfl eg hne l9 l10 S7.out.b4.cell S7.out.b7.cell S7.out.ow.has (by have:=HALL.out.2.2.2.2.1;omega) (by have:=HALL.out.2.2.2.2.2;omega) rfl (fun w hb=>?hc) fun g w8 hF=>?_
   case hc=>
    refine (hY pre M _ w (hJ.up S7.out.j hb) HPL.out).mono ?_
    rintro e w2 ⟨g,M',rfl,j1,k1,m1⟩
    exact ⟨g,rfl,M',j1,(Kp.of (S:=M) hb).trans k1 (fun _ _ e=>e),fun b e=>(m1 b e).imp id fun q=>Nat.le_trans hb.size q⟩
   rw [foldD]
   obtain ⟨M8,j8,k8,m8⟩:=hF
   have S8:=S7.out.yield hJ hlo hB k8 m8 j8
   have HDF:Hid (DO.df (L.map tl) (siV x) (siV y)=[⟨L.map tl,siV x,siV y⟩]):=by show _=_;rw [DO.df,if_neg hne]
   generalize Value.agg (cc ⟨ofB (joinL (L.map tl)),cvV (siV x),cvV (siV y)⟩)=YC
   generalize (vx (siV x)).toArray=YA
   generalize (vx (siV y)).toArray=YB
   generalize ofB (joinL (L.map tl))=YP
   clear l9 l10 S7 k8 m8 j8 hne HXY hYx hYy
   cases g
   ·have q8:w8.cell? ⟨B+1+1,0,none⟩=some (.bool false):=S8.b8.cell
    have qf:w8.frozen? ⟨B+1+1,0,none⟩=false:=S8.b8.frozen
    have HS8:=hid S8
    clear S8
    go_simp
    gi_wp2
    have r8:=(HS8.out.b8.set (.bool false)).cell
    refine ⟨.bool false,?_,false,rfl,HS8.out.fin hJ hB (Kp.set w8 (B+2) 0 (.bool false)) (fun b e=>.inl e) rfl (fun h=>by cases h) ?_⟩
    ·simp [results,Tryz.f59,go_sem,r8]
    ·rw [HDL.out,HDF.out]
     simp
   obtain ⟨pr8,HS8,HP8⟩:∃ pr8,Hid (WkS lo J w0 W M (.slice ao n c0) (.func (.func gf) #[] cap) L B true M8 pr8 w8)∧Hid (pr8=pre++(DO.df (L.map tl) (siV x) (siV y)).map toC):=⟨_,S8,by rw [HDF.out];rfl⟩
   clear S8 HDF HPL
   go_simp
  all_goals
   have CKX:=hid (kidsOf_si x w8 (HALL.out.2.1.grow HS8.out.bel) (by have:=HALL.out.2.2.2.2.1;omega))
   rw [px] at CKX
   gi_wp2_with (first
    | (refine ⟨trivial,?_⟩;gi_at_call 93;refine (callsIn_wide.2 (sidesT _ _ W10 T6 hT6 rfl rfl)).mono ?_;rintro e W11 ⟨rfl,H11⟩)
    | (refine ⟨trivial,?_⟩;gi_at_call 94;refine (callsIn_wide.2 CKY.out).mono ?_;rintro e W10 ⟨uy,rfl,oy,b10⟩;obtain ⟨aoy,cpy,gy,rfl,hpy⟩:=kids_place oy;have HK10:=hid (And.intro b10 hpy);obtain ⟨T6,hT6⟩:∃ T6,W10.heap.size=T6:=⟨_,rfl⟩;clear b10 hpy oy)
    | (refine ⟨trivial,?_⟩;gi_at_call 94;refine (callsIn_wide.2 CKX.out).mono ?_;rintro e W9 ⟨ux,rfl,ox,b9⟩;obtain ⟨aox,cpx,gx,rfl,hpx⟩:=kids_place ox;have CKY:=hid (kidsOf_si y W9 (HALL.out.2.2.1.grow (Below.up HS8.out.bel b9)) (by have:=HALL.out.2.2.2.2.1;omega));rw [py] at CKY;have HK9:=hid (And.intro b9 hpx);clear b9 hpx ox))
  all_goals
   obtain ⟨bxa,bxb,bxf,b11,s11⟩:=H11.out
   have S11:Hid (WkS lo J w0 W M (.slice ao n c0) (.func (.func gf) #[] cap) L B true M8 pr8 W11):=HS8.out.up hJ hlo hB (Below.up (Below.up HK9.out.1 HK10.out.1) b11)
   have low8:Hid (∀ b,w8.heap.size≤b→¬ M8 b):=fun b hb e=>by have:=hJ.lt HS8.out.j e;omega
   have lowv:Hid (∀ b,w8.heap.size≤b→(Value.slice ao n c0).ownBlock≠some b):=fun b hb e=>by have:=HS8.out.n5 b e;have:=HS8.out.b4.lt;omega
   have s89:=HK9.out.1.size
   have s910:=HK10.out.1.size
   have LX:Hid (∀ i a,(siI x)[i]?=some a→aox=some ⟨gx,0,none⟩∧w8.heap.size≤gx∧gx<W11.heap.size∧Ch.Lies W11 gx (0+i*2) (kA a)):=fun i a hi=>by
    obtain ⟨q1,q2,q3,q4⟩:=HK9.out.2 i a hi
    exact ⟨q1,q2,by omega,q4.below (Below.up HK10.out.1 b11)⟩
   have LY:Hid (∀ i a,(siI y)[i]?=some a→aoy=some ⟨gy,0,none⟩∧w8.heap.size≤gy∧gy<W11.heap.size∧Ch.Lies W11 gy (0+i*2) (kA a)):=fun i a hi=>by
    obtain ⟨q1,q2,q3,q4⟩:=HK10.out.2 i a hi
    exact ⟨q1,by omega,by omega,q4.below b11⟩
   obtain ⟨P,hP⟩:∃ P:Nat→Prop,(fun b=>b<W11.heap.size∧¬ M8 b∧(Value.slice ao n c0).ownBlock≠some b)=P:=⟨_,rfl⟩
   have STOPS:SeqAt Fence.wide 3 Tryz.prog 125 #[.pointer (some ⟨T6,0,none⟩),.pointer (some ⟨T6+1,0,none⟩),.pointer (some ⟨T6+2,0,none⟩)] (encP gx 0 gy 0) (KeepD P T6 (T6+1) (T6+2)) (fun ys:List (Pv (siI x) (siI y))=>ys.map (·.1)=mg (siI x) (siI y) 0 0) (fun ps=>ps.map (·.1) <+: mg (siI x) (siI y) 0 0) W11:=fun l J' Jx' X hX hJ' _ hY' h0=>by
    refine sides1_in 3 (by omega) P l T6 (T6+1) (T6+2) gx 0 gy 0 cpx cpy aox aoy (siI x) (siI y) J' Jx' X hJ' (fun i a hi=>?_) (fun i a hi=>?_) (by have:=siI_len x;have:=HALL.out.2.2.2.2.1;omega) (by have:=siI_len y;have:=HALL.out.2.2.2.2.1;omega) ((hX.cell (p:=⟨T6,0,none⟩) bxa.lt).trans bxa.cell) ((hX.cell (p:=⟨T6+1,0,none⟩) bxb.lt).trans bxb.cell) ((hX.cell (p:=⟨T6+2,0,none⟩) bxf.lt).trans bxf.cell) hY' h0
    ·obtain ⟨q1,q2,q3,q4⟩:=LX.out i a hi
     exact ⟨q1,by rw [← hP];exact ⟨q3,low8.out _ q2,lowv.out _ q2⟩,q4.below hX⟩
    ·obtain ⟨q1,q2,q3,q4⟩:=LY.out i a hi
     exact ⟨q1,by rw [← hP];exact ⟨q3,low8.out _ q2,lowv.out _ q2⟩,q4.below hX⟩
   have I0:WI lo J w0 W M (.slice ao n c0) (.func (.func gf) #[] cap) L B M8 pr8 W11 x y [] W11:=⟨M8,by simpa using S11.out,fun b e=>.inl e,Kp.refl _ _⟩
   have hB11:B≤W11.heap.size:=by have:=S11.out.b4.lt;omega
   have HBX:=hid (And.intro bxa (And.intro bxb (And.intro bxf b11)))
   clear bxa bxb bxf b11 HK9 HK10 CKX CKY H11 b8 f8
   refine' wpIn_range_at rfl (by omega) (gf:=125) (lb:=#[.pointer (some ⟨T6,0,none⟩),.pointer (some ⟨T6+1,0,none⟩),.pointer (some ⟨T6+2,0,none⟩)]) rfl trivial (enters_of Tryz.func125 (by kernel_rfl) rfl)
    STOPS (fun h k=>h.trans k) (fun X l o o' hl _ _ _=>⟨by simp,fun b hb=>World.putObj_heap_other (by rcases hb with hb | rfl | rfl | rfl;rw [← hP] at hb;have:=hb.1;omega;all_goals omega)⟩) (Below.refl _ _) (fun _=>rfl)
    (WI lo J w0 W M (.slice ao n c0) (.func (.func gf) #[] cap) L B M8 pr8 W11 x y) (WX lo J w0 W M (.slice ao n c0) (.func (.func gf) #[] cap) L B pr8 (((mg (siI x) (siI y) 0 0).flatMap (pD (L.map tl) (siI x) (siI y))).map toC)) (WI.own hJ hlo hB hB11 _ (Nat.le_refl _)) (WX.own hJ hlo hB _ hB11) I0 _ ?assign ?body ?done ?stop
   case assign=>
    intro l q X K hK
    simp only [encP]
    gi_wp2
    exact hK
   case body=>
    rintro l ps p X ⟨M',hS,hm,hk⟩ hsp
    have hkn:Hid (∀ b,b<W11.heap.size→w8.heap.size≤b→X.heap[b]?=W11.heap[b]?):=fun b h1 h2=>hk.block b h1 fun e=>by
     rcases e with e | e
     ·exact low8.out b h2 e
     ·exact lowv.out b h2 e
    obtain ⟨g,o,v3,w1,w2,w3,hR,o3,k3,bh,ol,hs2⟩:=round_facts hS (by have:=HALL.out.2.2.2.2.1;omega) gx gy (fun i a hi=>by
     obtain ⟨q1,q2,q3,q4⟩:=LX.out i a hi
     exact ⟨by have:=hk.size;omega,lowv.out _ q2,fun j u hj=>(World.cell?_of_block (a:=⟨gx,0+i*2+j,none⟩) (hkn.out gx q3 q2)).trans (q4 j u hj)⟩) (fun i a hi=>by
     obtain ⟨q1,q2,q3,q4⟩:=LY.out i a hi
     exact ⟨by have:=hk.size;omega,lowv.out _ q2,fun j u hj=>(World.cell?_of_block (a:=⟨gy,0+i*2+j,none⟩) (hkn.out gy q3 q2)).trans (q4 j u hj)⟩) p
    obtain ⟨nm,hnm⟩:∃ nm,pNm (siI x) (siI y) p.1=nm:=⟨_,rfl⟩
    have eD:(dl ((L++[nm]).map tl) (pX (siI x) p.1.1) (pX (siI y) p.1.2)).map toC=(pD (L.map tl) (siI x) (siI y) p.1).map toC:=by unfold pD;rw [hnm,List.map_append];rfl
    have hpre:=flat_pre (A:=siI x) (B:=siI y) (L:=L.map tl) (ps:=ps.map (·.1)) (p:=p.1) (by simpa using hsp)
    have hsm:=pair_small p
    rw [hnm] at hR o3 hsm
    have HIH:Hid (Calls Tryz.prog 59 #[v3,siP (pX (siI x) p.1.1),siP (pX (siI y) p.1.2),.func (.func gf) #[] cap] w3 fun e w'=>∃ r:Lw,e=.returned (.bool r.g)∧r.w=w'∧WPost lo J v3 (L++[nm]) w3 M' (pr8++((ps.map (·.1)).flatMap (pD (L.map tl) (siI x) (siI y))).map toC) ((pD (L.map tl) (siI x) (siI y) p.1).map toC) r.g r.w):=by
     obtain ⟨h1,h2,h3,h4,h5,h6⟩:=HALL.out
     have hjl:=joinL_len1 (L.map tl) (tl nm)
     rw [tl_len] at hjl
     refine (ih (L++[nm]) (pX (siI x) p.1.1) (pX (siI y) p.1.2) v3 w3 M' _ (by omega) (h2.item _) (h3.item _) (hS.bel.trans (k3.below hS.bel.size fun b e=>by have:=(World.ownsRow.lt hS.ow b e).1;omega)) o3 (fun b e q=>?_) (hJ.keep _ hS.j k3 (fun b e=>hS.nv b e) fun b e=>(World.ownsRow.lt hS.ow b e).1) ?_ (by simp;omega) (by rw [List.map_append];simp only [List.map_cons,List.map_nil];omega)).mono ?_
     ·rcases bh.block with e1 | e1
      ·rw [e1] at e;exact hS.nv b e q
      ·rw [e1] at e
       injection e with e
       have:=hJ.lt hS.j q
       omega
     ·rw [eD,List.append_assoc]
      refine List.IsPrefix.trans ?_ h4
      rw [HDL.out,List.map_append,HP8.out,List.append_assoc]
      exact (List.prefix_append_right_inj _).2 ((List.prefix_append_right_inj _).2 hpre)
     ·rintro e w' ⟨g',rfl,hp⟩
      rw [eD] at hp
      exact ⟨⟨g',w'⟩,rfl,rfl,hp⟩
    have HF:=hid (And.intro hS (And.intro hm (And.intro hk (And.intro hpre (And.intro k3 (And.intro bh (And.intro ol hs2)))))))
    clear hS hm hk hpre k3 bh ol hs2 o3 eD hsm hsp
    gi_wp2
    refine regW B (B+1) X.heap.size (X.heap.size+1) g o (.slice ao n c0) v3 (.func (.func gf) #[] cap) _ _ _ _ nm l 2 w1 w2 w3 (fun r=>WPost lo J v3 (L++[nm]) w3 M' (pr8++((ps.map (·.1)).flatMap (pD (L.map tl) (siI x) (siI y))).map toC) ((pD (L.map tl) (siI x) (siI y) p.1).map toC) r.g r.w) _ X rfl rfl rfl rfl rfl hR.c40 hR.c41 hR.c42 hR.d0 hR.d1 hR.d2 hR.d3 (fun op a ho h1 h2=>by rw [← hR.e3];exact exec_two ho _ _ h1 h2 _ _ hR.s3) (fun op a ho h1=>by rw [← hR.e8];exact exec_oneT ho _ h1 _ _ hR.s8) hR.m0 hR.m1 hR.hor hR.cn hR.ha9 hR.hS1 hR.hS2 HIH.out fun r hF=>?_
    rw [foldW]
    obtain ⟨hS,hm,hk,hpre,k3,bh,ol,hs2⟩:=HF.out
    obtain ⟨M2,qs,hS2,hq1,hq2,kk,mm⟩:=hS.after hJ hlo hB k3 bh hs2 ol hF
    have hot:=hS.others hJ kk
    have HZ:=hid (And.intro hS (And.intro hm (And.intro hk (And.intro hpre (And.intro hS2 (And.intro hq1 (And.intro hq2 (And.intro kk (And.intro mm hot)))))))))
    clear hS hm hk hpre k3 bh ol hs2 hR HIH HF hF hq1 hq2 kk mm hot
    obtain ⟨g',w'⟩:=r
    cases g'
    ·have q8:w'.cell? ⟨B+1+1,0,none⟩=some (.bool false):=hS2.b8.cell
     have qf:w'.frozen? ⟨B+1+1,0,none⟩=false:=hS2.b8.frozen
     clear hS2
     go_simp
     gi_wp2
     obtain ⟨hS,hm,hk,hpre,hS2,hq1,hq2,kk,mm,hot⟩:=HZ.out
     refine ⟨hot.trans (KeepsOthers.setCell _ _ _),M2,((ps.map (·.1)).flatMap (pD (L.map tl) (siI x) (siI y))).map toC++qs,?_,?_⟩
     ·have hst:=hS2.store hJ hlo hB
      rw [List.append_assoc] at hst
      exact hst
     ·exact List.IsPrefix.trans ((List.prefix_append_right_inj _).2 hq2) hpre
    ·clear hS2
     go_simp
     gi_wp2
     obtain ⟨hS,hm,hk,hpre,hS2,hq1,hq2,kk,mm,hot⟩:=HZ.out
     have nM:∀ b,b<W11.heap.size→¬ M8 b→¬ M' b:=fun b h1 h2 e=>by
      rcases hm b e with e | e
      ·exact h2 e
      ·omega
     refine ⟨hot,⟨kk.size,fun b hb=>kk.block b ?_ fun e=>?_⟩,M2,?_,fun b e=>?_,hk.trans kk fun b hb e=>?_⟩
     ·have:=hk.size
      rcases hb with hb | rfl | rfl | rfl
      ·rw [← hP] at hb;have:=hb.1;omega
      all_goals omega
     ·have key:P b:=by
       rcases hb with hb | rfl | rfl | rfl
       ·exact hb
       all_goals rw [← hP];exact ⟨by omega,low8.out _ (by omega),lowv.out _ (by omega)⟩
      rw [← hP] at key
      rcases e with e | e
      ·exact nM b key.1 key.2.1 e
      ·exact key.2.2 e
     ·rw [hq1 (by first | rfl | trivial)] at hS2
      simpa [List.append_assoc] using hS2
     ·rcases mm b e with e | e
      ·exact hm b e
      ·have:=hk.size;exact .inr (by omega)
     ·rcases e with e | e
      ·rcases hm b e with e | e
       ·exact .inl e
       ·omega
      ·exact .inr e
   case done=>
    rintro D qs X hD hqs ⟨M',hS,hm,hk⟩ hK
    have q8:X.cell? ⟨B+1+1,0,none⟩=some (.bool false):=hS.b8.cell
    have qf:X.frozen? ⟨B+1+1,0,none⟩=false:=hS.b8.frozen
    have HZ:=hid (And.intro hqs (And.intro hS hK))
    clear hqs hS hm hk hK
    gi_wp2
    obtain ⟨hqs,hS,hK⟩:=HZ.out
    have k1:(X.setCell ⟨B+2,0,none⟩ (.bool true)).heap[D]?=some (.deferred (some [])):=(KeepsOthers.setCell _ _ _).same D _ hK rfl
    refine ⟨by simp,.inl ⟨_,_,rfl,run_takeDeferred k1,?_⟩⟩
    have r8:=cell_kept (hS.b8.set (.bool true)).cell (grownBy_putObj' _ D (.deferred none)) (fun r e=>by cases e;exact ⟨_,k1,rfl⟩)
    refine ⟨.bool true,?_,true,rfl,hS.fin hJ hB (S:=fun b=>b=B+2∨b=D) (((Kp.set X (B+2) 0 (.bool true)).mono fun _ _ e=>.inl e).trans (Kp.put _ D (.deferred none)) fun _ _ e=>.inr e) (fun b e=>e.imp id fun e=>by subst e;exact ⟨by omega,fun _=>⟨_,hK,rfl⟩⟩) (qs:=(dl (L.map tl) x y).map toC) ?_ (fun _=>rfl) (List.prefix_rfl)⟩
    ·simp [results,Tryz.f59,go_sem,r8]
    ·rw [hqs,HP8.out,HDL.out,List.map_append,List.append_assoc]
   case stop=>
    rintro D ps X hD hps ⟨M',qs,hS,hq⟩ hK
    have HZ:=hid (And.intro hS (And.intro hK hq))
    clear hS hK hq
    gi_wp2
    obtain ⟨hS,hK,hq⟩:=HZ.out
    refine ⟨by simp,.inl ⟨_,_,rfl,run_takeDeferred hK,?_⟩⟩
    have r8:=cell_kept hS.b8.cell (grownBy_putObj' _ D (.deferred none)) (fun r e=>by cases e;exact ⟨_,hK,rfl⟩)
    refine ⟨.bool false,?_,false,rfl,hS.fin hJ hB (Kp.put X D (.deferred none)) (fun b e=>.inr (by subst e;exact ⟨by omega,fun _=>⟨_,hK,rfl⟩⟩)) (qs:=(DO.df (L.map tl) (siV x) (siV y)).map toC++qs) (by rw [HP8.out,List.append_assoc]) (fun h=>by cases h) ?_⟩
    ·simp [results,Tryz.f59,go_sem,r8]
    ·rw [HDL.out,List.map_append]
     exact (List.prefix_append_right_inj _).2 hq
theorem walk_all {lo:Nat} {J:Ys} (hJ:Yd lo J) {gf:Nat} {cap:Array Value} (eg:∀ args w,(callFunc gf args).run Tryz.prog w=.ok (.enter gf args) w) {T:List Cd} (hY:YOk gf cap J T) {w0:World} (hlo:w0.heap.size=lo):∀ Z,WalkOk lo J gf cap T w0 Z
 | 0=>fun L x y v W M pre h=>by omega
 | Z+1=>walk_step hJ eg hY hlo Z (walk_all hJ eg hY hlo Z)
end Go.Proofs.YthfcanpkhjgomaaGreat
namespace Go.Proofs.YthfcanpkhjgomaaGreat
open Go.RowKit Ch
theorem of7_any (x y:Si) (w:World) (B:Nat) (hB:w.heap.size=B):Calls Tryz.prog 20 #[siP x,siP y] w fun e w'=>e=.returned (.func (.func 58) #[] #[.pointer (some ⟨B,0,none⟩),.pointer (some ⟨B+1,0,none⟩)])∧w'=(w.alloc (.cells #[siP x] 34)).alloc (.cells #[siP y] 34):=by
 have hmf:∀ (fn:Fn) (first cap:Array Value) (w:World),(Instr.makeFunc fn first cap).run Tryz.prog w=.ok (.func fn first cap) w:=fun _ _ _ _=>rfl
 obtain ⟨ax,hax⟩:∃ ax:Option Addr,x.map (fun q=>(⟨q.p,0,none⟩:Addr))=ax:=⟨_,rfl⟩
 obtain ⟨ay,hay⟩:∃ ay:Option Addr,y.map (fun q=>(⟨q.p,0,none⟩:Addr))=ay:=⟨_,rfl⟩
 have px:siP x=.pointer ax:=by unfold siP;rw [hax]
 have py:siP y=.pointer ay:=by unfold siP;rw [hay]
 rw [px,py]
 go_enter Tryz.func20,Tryz.ntmps20
 go_wp2
 go_ret
 exact ⟨rfl,rfl⟩
def difs (x y:Si):List Cd:=(dl [] x y).map toC
def IQ (J:Ys) (W:World) (M:Nat→Prop) (T:List Cd) (W':World):Prop:=∃ g M' qs,J g qs M' W'∧(g=true→qs=T)∧qs <+: T∧Kp M W W'∧∀ b,M' b→M b∨W.heap.size≤b
theorem of1_any {lo:Nat} {J:Ys} (hJ:Yd lo J) {gf:Nat} {cap:Array Value} (eg:∀ args w,(callFunc gf args).run Tryz.prog w=.ok (.enter gf args) w) {w0:World} (hlo:w0.heap.size=lo) (x y:Si) (hY:YOk gf cap J (difs x y)) (Bt Bu:Nat) (W:World) (M:Nat→Prop) (hx:SiAt w0 x) (hy:SiAt w0 y) (bel:Below w0.heap.size w0 W) (bt:Bx W Bt 34 (siP x)) (bu:Bx W Bu 34 (siP y)) (hj:J true [] M W) (hl:siZ x+siZ y≤10000) (hw:siW x+siW y≤1000000):
  Calls Tryz.prog 58 #[.func (.func gf) #[] cap,.pointer (some ⟨Bt,0,none⟩),.pointer (some ⟨Bu,0,none⟩)] W fun e W'=>(∃ u,e=.returned u)∧IQ J W M (difs x y) W':=by
 have C:=hid (walk_all hJ eg hY hlo (siZ x+siZ y+1) [] x y (.slice none 0 0) W M [] (by omega) hx hy bel (OwnsT.nil _ _) (fun b e=>by cases e) hj (by simp [difs]) (by simpa using hl) (by simpa [joinL] using hw))
 have ct:=bt.cell
 have cu:=bu.cell
 obtain ⟨ax,hax⟩:∃ ax:Option Addr,x.map (fun q=>(⟨q.p,0,none⟩:Addr))=ax:=⟨_,rfl⟩
 obtain ⟨ay,hay⟩:∃ ay:Option Addr,y.map (fun q=>(⟨q.p,0,none⟩:Addr))=ay:=⟨_,rfl⟩
 have px:siP x=.pointer ax:=by unfold siP;rw [hax]
 have py:siP y=.pointer ay:=by unfold siP;rw [hay]
 rw [px] at ct C
 rw [py] at cu C
 clear bt bu hx hy hj bel
 go_enter Tryz.func58,Tryz.ntmps58
 go_wp2_with (go_at_call 59;refine C.out.mono ?_;rintro e W' ⟨g,rfl,H⟩;have HH:=hid H;clear H)
 go_end0
 obtain ⟨M',qs,h1,h2,h3,h4,h5,h6⟩:=HH.out
 exact ⟨⟨_,rfl⟩,g,M',qs,by simpa using h1,h2,h3,h4.mono (fun b _ e=>by rcases e with e | e;exact e;cases e),h5⟩
def GJ (lo Be Bw Bo Bn:Nat) (n:Int):Ys:=fun g R M W=>∃ v,M=(fun b=>b=Be∨b=Bw∨b=Bo∨b=Bn∨v.ownBlock=some b)∧Gv W lo Be Bw Bo Bn (!g) true v n R∧(g=true→(R.length:Int)≠n)∧(g=false→(R.length:Int)=n)∧(∀ k:Nat,k<R.length→(k:Int)≠n)∧lo≤W.heap.size
theorem GJ.yd {l0 lo Be Bw Bo Bn:Nat} {n:Int} (h1:l0≤Be) (h2:l0≤Bw) (h3:l0≤Bo) (h4:l0≤Bn) (h5:l0≤lo):Yd l0 (GJ lo Be Bw Bo Bn n):=by
 constructor
 ·rintro g pre M W W' S ⟨v,rfl,hG,q1,q2,q4,q3⟩ hk hS _
  have bx:∀ {b t u},Bx W b t u→(b=Be∨b=Bw∨b=Bo∨b=Bn∨v.ownBlock=some b)→Bx W' b t u:=fun hb hm=>(hk.block _ hb.lt fun e=>hS _ e hm).trans hb
  refine ⟨v,rfl,⟨bx hG.be (by simp),bx hG.bw (by simp),bx hG.bo (by simp),bx hG.bn (by simp),Bk.rowB hG.ow fun b hb=>hk.block b (World.ownsRow.lt hG.ow b hb).2 fun e=>hS b e (by simp [hb]),hG.l1,hG.l2,hG.l3,hG.l4,hG.d1,hG.d2,hG.d3,hG.d4,hG.d5,hG.d6⟩,q1,q2,q4,Nat.le_trans q3 hk.size⟩
 ·rintro g pre M W b ⟨v,rfl,hG,q1,q2,q4,q3⟩ hm
  rcases hm with rfl | rfl | rfl | rfl | hm
  ·exact ⟨h1,_,hG.be,rfl⟩
  ·exact ⟨h2,_,hG.bw,rfl⟩
  ·exact ⟨h3,_,hG.bo,rfl⟩
  ·exact ⟨h4,_,hG.bn,rfl⟩
  ·refine ⟨by have:=(World.ownsRow.lt hG.ow b hm).1;omega,?_⟩
   obtain ⟨_,q | ⟨g',cap,cur,rfl,_,hh,_⟩⟩:=hG.ow
   ·rw [q.1] at hm;cases hm
   ·cases hm
    exact ⟨_,hh,rfl⟩
theorem GJ.yok {lo Be Bw Bo Bn:Nat} {n:Int} {T:List Cd} (hT:T.length≤50000):YOk 57 #[.pointer (some ⟨Be,0,none⟩),.pointer (some ⟨Bw,0,none⟩),.pointer (some ⟨Bo,0,none⟩),.pointer (some ⟨Bn,0,none⟩)] (GJ lo Be Bw Bo Bn n) T:=by
 rintro pre M c W ⟨v,rfl,hG,q1,q2,q4,q3⟩ hp
 have hl:pre.length≤50000:=by have:=hp.length_le;simp at this;omega
 refine (given1_any W lo Be Bw Bo Bn true v n pre c hG q3 hl).mono ?_
 rintro e W' ⟨v',rfl,hG',hs,ho,ht,hu,hb,hn⟩
 refine ⟨!decide (((pre.length+1:Nat):Int)=n),_,rfl,⟨v',rfl,by simpa using hG',fun h=>?_,fun h=>?_,fun k hk=>?_,by omega⟩,⟨ho,ht,hu,hs,fun b hb' hm=>hb b hb' (fun e=>hm (by simp [e])) (fun e=>hm (by simp [e])) (fun e=>hm (by simp [e]))⟩,fun b hb'=>?_⟩
 ·simp at h
  simpa using h
 ·simp at h
  simpa using h
 ·simp at hk
  by_cases e:k=pre.length
  ·rw [e];exact q1 rfl
  ·exact q4 k (by omega)
 ·rcases hb' with h | h | h | h | h
  ·exact .inl (by simp [h])
  ·exact .inl (by simp [h])
  ·exact .inl (by simp [h])
  ·exact .inl (by simp [h])
  ·rcases hn b h with h | h
   ·exact .inl (by simp [h])
   ·exact .inr h
def gvR (n:Int) (T:List Cd):List Cd:=if n<0 then T else T.take n.toNat
theorem gv_end {n:Int} {T qs:List Cd} {g:Bool} (h2:g=false→(qs.length:Int)=n) (h3:g=true→qs=T) (h4:qs <+: T) (h5:∀ k:Nat,k<qs.length→(k:Int)≠n):qs=gvR n T:=by
 unfold gvR
 cases g with
 | true=>
  have e:=h3 rfl
  subst e
  by_cases hneg:n<0
  ·rw [if_pos hneg]
  ·rw [if_neg hneg,List.take_of_length_le]
   by_cases hlt:n.toNat<qs.length
   ·exact absurd (by omega) (h5 n.toNat hlt)
   ·omega
 | false=>
  have e:=h2 rfl
  rw [if_neg (by omega)]
  have:n.toNat=qs.length:=by omega
  rw [this]
  exact (List.prefix_iff_eq_take.1 h4)
theorem fnil (f:Fn) (a c:Array Value) (w:World):(binOp BinOp.eql 72 (.func f a c) .nilFunc).run Tryz.prog w=.ok (.bool false) w:=by
 have h:∀ d:Nat,(Op.equalIn (d+1) 72 (.func f a c) .nilFunc).run Tryz.prog w=.ok false w:=fun d=>by
  simp [Op.equalIn]
 simp only [binOp]
 simp [Op.equal,Op.maxDepth,h 9999]
theorem given_any (x y:Si) (Bt Bu:Nat) (n:Int) (W:World) (hx:SiAt W x) (hy:SiAt W y) (bt:Bx W Bt 34 (siP x)) (bu:Bx W Bu 34 (siP y)) (hl:siZ x+siZ y≤10000) (hw:siW x+siW y≤1000000) (hT:(difs x y).length≤50000):
  Calls Tryz.prog 19 #[.func (.func 58) #[] #[.pointer (some ⟨Bt,0,none⟩),.pointer (some ⟨Bu,0,none⟩)],.int .i64 n] W fun e W'=>∃ u,e=.returned (.tuple #[u,.bool true])∧OwnsR W' W.heap.size u (gvR n (difs x y))∧Below W.heap.size W W':=by
 have hmf:∀ (fn:Fn) (first cap:Array Value) (w:World),(Instr.makeFunc fn first cap).run Tryz.prog w=.ok (.func fn first cap) w:=fun _ _ _ _=>rfl
 have hfn:=fun w=>fnil (.func 58) #[] #[.pointer (some ⟨Bt,0,none⟩),.pointer (some ⟨Bu,0,none⟩)] w
 obtain ⟨B,hB⟩:∃ B,W.heap.size=B:=⟨_,rfl⟩
 by_cases hn:n=0
 ·subst hn
  have e0:gvR 0 (difs x y)=[]:=by simp [gvR]
  rw [e0]
  have hb:Hid (Below W.heap.size W (W.alloc (.cells #[.int .i64 0] 3))):=(Below.refl _ W).alloc (Nat.le_refl _) _
  clear hx hy bt bu
  go_enter Tryz.func19,Tryz.ntmps19
  go_wp2
  refine bodyPost_ret (v:=.tuple #[.slice none 0 0,.bool true]) (by simp [results,Tryz.f19,go_sem]) rfl ?_
  exact ⟨_,rfl,World.ownsRow_nil _ _ _ _,by have:=hb.out;rwa [hB] at this⟩
 ·have hnb:(n==0)=false:=by simp [hn]
  obtain ⟨W1,hW1⟩:∃ W1,(((W.alloc (.cells #[.int .i64 n] 3)).alloc (.cells #[.slice none 0 0] 31)).alloc (.cells #[.bool false] 4)).alloc (.cells #[.bool false] 4)=W1:=⟨_,rfl⟩
  have s1:W1.heap.size=B+4:=by rw [← hW1,← hB];simp
  have g1:Below W.heap.size W W1:=by rw [← hW1];exact ((((Below.refl _ W).alloc (Nat.le_refl _) _).alloc (by simp) _).alloc (by simp;omega) _).alloc (by simp;omega) _
  have bn:Bx W1 B 3 (.int .i64 n):=by
   rw [← hW1,← hB]
   exact (heap_alloc_old _ _ (by simp<;>omega)).trans ((heap_alloc_old _ _ (by simp<;>omega)).trans ((heap_alloc_old _ _ (by simp<;>omega)).trans (heap_alloc_new _ _)))
  have bo:Bx W1 (B+1) 31 (.slice none 0 0):=by
   rw [← hW1,← hB]
   refine (heap_alloc_old _ _ (by simp<;>omega)).trans ((heap_alloc_old _ _ (by simp<;>omega)).trans ?_)
   have:=heap_alloc_new (W.alloc (.cells #[.int .i64 n] 3)) (.cells #[.slice none 0 0] 31)
   rwa [World.size_alloc] at this
  have bw:Bx W1 (B+2) 4 (.bool false):=by
   rw [← hW1,← hB]
   refine (heap_alloc_old _ _ (by simp<;>omega)).trans ?_
   have:=heap_alloc_new ((W.alloc (.cells #[.int .i64 n] 3)).alloc (.cells #[.slice none 0 0] 31)) (.cells #[.bool false] 4)
   rwa [World.size_alloc,World.size_alloc] at this
  have be:Bx W1 (B+3) 4 (.bool false):=by
   rw [← hW1,← hB]
   have:=heap_alloc_new (((W.alloc (.cells #[.int .i64 n] 3)).alloc (.cells #[.slice none 0 0] 31)).alloc (.cells #[.bool false] 4)) (.cells #[.bool false] 4)
   rwa [World.size_alloc,World.size_alloc,World.size_alloc] at this
  obtain ⟨W3,hW3⟩:∃ W3,(W1.setCell ⟨B+2,0,none⟩ (.bool true)).setCell ⟨B+3,0,none⟩ (.bool false)=W3:=⟨_,rfl⟩
  have G3:GJ (B+4) (B+3) (B+2) (B+1) B n true [] (fun b=>b=B+3∨b=B+2∨b=B+1∨b=B∨(Value.slice none 0 0).ownBlock=some b) W3:=by
   refine ⟨.slice none 0 0,rfl,⟨?_,?_,?_,?_,World.ownsRow_nil _ _ _ _,by omega,by omega,by omega,by omega,by omega,by omega,by omega,by omega,by omega,by omega⟩,fun _ e=>hn (by simpa using e.symm),(fun h=>by cases h),(fun k hk=>by simp at hk),by rw [← hW3];simp;omega⟩
   ·rw [← hW3];exact (be.other (by omega)).set _
   ·rw [← hW3];exact (bw.set _).other (by omega)
   ·rw [← hW3];exact (bo.other (by omega)).other (by omega)
   ·rw [← hW3];exact (bn.other (by omega)).other (by omega)
  have g3:Below W.heap.size W W3:=by rw [← hW3];exact (g1.setCell (p:=⟨B+2,0,none⟩) (by show _≤B+2;omega) _).setCell (p:=⟨B+3,0,none⟩) (by show _≤B+3;omega) _
  have C:=hid (of1_any (GJ.yd (l0:=B) (lo:=B+4) (Be:=B+3) (Bw:=B+2) (Bo:=B+1) (Bn:=B) (n:=n) (by omega) (by omega) (by omega) (by omega) (by omega)) (enters_of Tryz.func57 (by kernel_rfl) rfl) (w0:=W) hB x y (GJ.yok hT) Bt Bu W3 _ hx hy g3 ((g3.block _ bt.lt).trans bt) ((g3.block _ bu.lt).trans bu) G3 hl hw)
  have n1:=bn.cell
  have w1:W1.cell? ⟨B+1+1,0,none⟩=some (.bool false):=bw.cell
  have w1f:W1.frozen? ⟨B+1+1,0,none⟩=false:=bw.frozen
  have be2:=be.other (b':=B+2) (u:=.bool true) (by omega)
  have e1:(W1.setCell ⟨B+1+1,0,none⟩ (.bool true)).cell? ⟨B+1+1+1,0,none⟩=some (.bool false):=be2.cell
  have e1f:(W1.setCell ⟨B+1+1,0,none⟩ (.bool true)).frozen? ⟨B+1+1+1,0,none⟩=false:=be2.frozen
  have nA:(W.alloc (.cells #[.int .i64 n] 3)).cell? ⟨B,0,none⟩=some (.int .i64 n):=by rw [← hB];simp
  have HG3:=hid g3
  clear hx hy bt bu bn bo bw be be2 G3 g1 g3
  go_enter Tryz.func19,Tryz.ntmps19
  go_wp2_with (go_at_call 58;refine C.out.mono ?_;rintro e W4 ⟨⟨u,rfl⟩,H⟩;have HH:=hid H;clear H)
  obtain ⟨g,M',qs,⟨v',_,hG,q1,q2,q4,q3⟩,h1,h2,h3,h4⟩:=HH.out
  obtain ⟨av,cv,hv⟩:=hG.ow.form
  subst hv
  have c6:=hG.bo.cell
  have c7:W4.cell? ⟨B+1+1,0,none⟩=some (.bool true):=hG.bw.cell
  have eq:qs=gvR n (difs x y):=gv_end q2 h1 h2 q4
  have FIN:Hid (OwnsR W4 (B+4) (.slice av qs.length cv) qs∧Below W.heap.size W W4):=⟨hG.ow,HG3.out.trans (h3.below HG3.out.size fun b e=>by rcases e with e | e | e | e | e;all_goals first | omega | cases e)⟩
  obtain ⟨k,hk⟩:∃ k,qs.length=k:=⟨_,rfl⟩
  have HK:=hid (And.intro hk eq)
  rw [hk] at c6 FIN
  clear hG q1 q2 q4 q3 h1 h2 h3 h4 HH eq hk
  go_wp2_with fail
  go_region
  go_wp2
  refine bodyPost_ret (v:=.tuple #[.slice av k cv,.bool true]) (by simp [results,Tryz.f19,go_sem]) rfl ?_
  refine ⟨_,rfl,?_,?_⟩
  ·rw [← HK.out.2]
   have h9:OwnsR W4.drew (B+4) (.slice av k cv) qs:=OwnsR.up FIN.out.1 (Below.drews (Below.refl _ _) ⟨1,rfl⟩)
   exact row_low h9 (by omega)
  ·exact Below.drews FIN.out.2 ⟨1,rfl⟩
end Go.Proofs.YthfcanpkhjgomaaGreat
namespace Go.Proofs.YthfcanpkhjgomaaGreat
open Go.RowKit
open DO (vz)
open Ch (Cd riseB)
theorem layL_good:∀ {l:List Cn} {t t2:T3},Good t→Po l→(∀ c∈l,(∀ x∈c.L,nameB (tl x)=true)∧c.L.length≤64)→(∀ c∈l,c.n≠vz→c.o=vz→val t c.L=none)→layL l t=some t2→Good t2
 | [],_,_,h,_,_,_,e=>by cases e;exact h
 | c::l,t,t2,h,ho,hn,hz,e=>by
  rw [layL] at e
  cases e1:stepL c t with
  | none=>rw [e1] at e;cases e
  | some t1=>
   rw [e1,Option.bind_some] at e
   have hc:=hn c List.mem_cons_self
   obtain ⟨_,_,z2⟩:=stepL_val h.rises (hz c List.mem_cons_self) e1
   refine layL_good (stepL_good h hc.1 hc.2 (hz c List.mem_cons_self) e1) ho.tail (fun d hd=>hn d (List.mem_cons_of_mem _ hd)) (fun d hd q1 q2=>?_) e
   rw [z2 d.L fun _ q=>ho.ne hd q.symm]
   exact hz d (List.mem_cons_of_mem _ hd) q1 q2
theorem Po.inj:∀ {l:List Cn},Po l→∀ c∈l,∀ d∈l,c.L=d.L→c=d
 | [],_,_,h,_,_,_=>(List.not_mem_nil h).elim
 | x::l,ho,c,hc,d,hd,e=>by
  rcases List.mem_cons.1 hc with q1 | q1
  ·rcases List.mem_cons.1 hd with q2 | q2
   ·rw [q1,q2]
   ·exact absurd (by rw [← e,q1]) (ho.ne q2)
  ·rcases List.mem_cons.1 hd with q2 | q2
   ·exact absurd (by rw [e,q2]) (ho.ne q1)
   ·exact ho.tail.inj c q1 d q2 e
theorem cutN_tl (s:ByteArray):(cutN s).map tl=pieces (tl s):=by
 unfold cutN
 rw [List.map_map]
 conv=>rhs;rw [← List.map_id (pieces (tl s))]
 exact List.map_congr_left fun x _=>tl_ofB x
theorem join_pieces (l:By):joinL (pieces l)=l:=by
 unfold pieces
 by_cases h:l=[]
 ·rw [if_pos h,h];rfl
 ·rw [if_neg h,join_cuts]
theorem names_split {s:ByteArray} (h:splitE (tl s) 64=0):(∀ x∈cutN s,nameB (tl x)=true)∧(cutN s).length≤64:=by
 unfold splitE at h
 split at h
 ·cases h
 rename_i h1
 split at h
 ·rename_i h2
  refine ⟨fun x hx=>?_,?_⟩
  ·rw [List.all_eq_true] at h2
   refine h2 _ ?_
   rw [← cutN_tl]
   exact List.mem_map_of_mem hx
  ·rw [← List.length_map (f:=tl),cutN_tl]
   omega
 ·cases h
def frC (c:Cd):DO.Dif:=⟨(cutN c.path).map tl,vcV c.old,vcV c.new⟩
theorem toC_fr (c:Cd):toC (frC c)=c:=by
 show Cd.mk (ofB (joinL ((cutN c.path).map tl))) (cvV (vcV c.old)) (cvV (vcV c.new))=c
 rw [cutN_tl,join_pieces,ofB_tl,cvV_vc,cvV_vc]
theorem Dd.of_ap {t z:T3} {L:List Cd} (ht:Good t) (hr:riseB none L=true) (hs:startsB t L=true) (h:apM t L=some z):Good z∧Dd t z (L.map frC):=by
 obtain ⟨r1,r2,_⟩:=rise_pair hr
 have hsp:∀ c∈L,splitE (tl c.path) 64=0:=fun c hc=>(r1 c hc).1
 have hpo:=rise_po r2
 have hold:∀ c∈L,vcV c.old=vl t (cutN c.path):=fun c hc=>by
  unfold startsB at hs
  rw [List.all_eq_true] at hs
  have h1:=hs c hc
  rw [decide_eq_true_eq] at h1
  rw [← h1]
  unfold atV vl val
  rw [sub_names (hsp c hc)]
  cases dn t (cutN c.path)<;>rfl
 obtain ⟨l,hl⟩:∃ l,L.map toN=l:=⟨_,rfl⟩
 have hmem:∀ c∈l,∃ d∈L,toN d=c:=fun c hc=>by rw [← hl] at hc;exact List.mem_map.1 hc
 have hnm:∀ c∈l,(∀ x∈c.L,nameB (tl x)=true)∧c.L.length≤64:=fun c hc=>by
  obtain ⟨d,hd,rfl⟩:=hmem c hc
  exact names_split (hsp d hd)
 have ho:∀ c∈l,c.o=vl t c.L:=fun c hc=>by
  obtain ⟨d,hd,rfl⟩:=hmem c hc
  exact hold d hd
 rw [hl] at hpo
 unfold apM at h
 rw [dpL_names hsp,hl] at h
 cases e1:clrR l t with
 | none=>rw [e1] at h;cases h
 | some t1=>
  rw [e1,Option.bind_some,ldM_names hsp,hl] at h
  obtain ⟨_,g1,g2⟩:=clr_val ht.rises e1
  have gt1:=clrR_good ht e1
  have sub1:∀ M,val t M=none→val t1 M=none:=fun M h0=>by
   by_cases hg:Go_ l M
   ·exact g1 M hg
   ·rw [g2 M hg];exact h0
  have hz:∀ c∈l,c.n≠vz→c.o=vz→val t1 c.L=none:=fun c hc _ h2=>sub1 _ ((vl_none ht).1 ((ho c hc).symm.trans h2))
  obtain ⟨_,l1,l2⟩:=lay_val gt1.rises hpo hz h
  have hnew:∀ c∈l,c.n=vl z c.L:=fun c hc=>by
   by_cases hv:c.n=vz
   ·have h1:val z c.L=val t1 c.L:=l2 _ fun d hd hd2 q=>by
     have:=hpo.inj d hd c hc q
     exact hd2 (by rw [this];exact hv)
    unfold vl
    rw [h1,g1 _ ⟨c,hc,hv,rfl⟩,hv]
    rfl
   ·unfold vl
    rw [l1 c hc hv];rfl
  refine ⟨layL_good gt1 hpo hnm hz h,?_,fun d hd=>?_,fun M hM=>?_⟩
  ·show (L.map frC).Pairwise _
   rw [List.pairwise_map]
   refine r2.imp fun {a b} hab=>?_
   show cmpP ((cutN a.path).map tl) ((cutN b.path).map tl)=-1
   rw [cutN_tl,cutN_tl]
   have h1:cmpP (pieces (tl a.path)) (pieces (tl b.path))<0:=by rw [cmpP_pieces];exact hab
   rcases DO.cmpP_three (pieces (tl a.path)) (pieces (tl b.path)) with q | q | q
   ·exact q
   ·omega
   ·omega
  ·obtain ⟨c,hc,rfl⟩:=List.mem_map.1 hd
   have hc':toN c∈l:=by rw [← hl];exact List.mem_map_of_mem hc
   exact ⟨cutN c.path,rfl,(hnm _ hc').1,(hnm _ hc').2,hold c hc,hnew _ hc',fun q=>(r1 c hc).2 (by rw [← cvV_vc c.old,← cvV_vc c.new];exact congrArg cvV q)⟩
  ·have hex:∃ c∈l,c.L=M:=Classical.byContradiction fun q=>by
    apply hM
    have h1:val z M=val t1 M:=l2 M fun c hc _ e=>q ⟨c,hc,e⟩
    have h2:val t1 M=val t M:=g2 M fun ⟨c,hc,_,e⟩=>q ⟨c,hc,e⟩
    unfold vl
    rw [h1,h2]
   obtain ⟨c,hc,rfl⟩:=hex
   obtain ⟨d,hd,rfl⟩:=hmem c hc
   exact ⟨frC d,List.mem_map_of_mem hd,rfl⟩
theorem dl_ap {q r:Kid} {L:List Cd} (ht:Good (kT q)) (hr:riseB none L=true) (hs:startsB (kT q) L=true) (h:apM (kT q) L=some (kT r)):difs (some q) (some r)=L:=by
 obtain ⟨hg,hd⟩:=Dd.of_ap ht hr hs h
 show (dl [] (some q) (some r)).map toC=L
 rw [(dl_dd ht hg).uniq hd,List.map_map]
 conv=>rhs;rw [← List.map_id L]
 exact List.map_congr_left fun c _=>toC_fr c
end Go.Proofs.YthfcanpkhjgomaaGreat
