import Derived.Test.YthfcanpkhjgomaaGreatVp
set_option maxRecDepth 100000
set_option maxHeartbeats 8000000
namespace Go.Proofs.YthfcanpkhjgomaaGreat
open Go.RowKit Ch
noncomputable abbrev o59x4:Array Oper:=opsAt Tryz.f59 4
theorem backD:backB o59x4=true:=by kernel_rfl
theorem dstD:dstB o59x4 57=true:=by kernel_rfl
theorem sizeD:o59x4.size=13:=by kernel_rfl
theorem freeD9:freeB o59x4 9=true:=by kernel_rfl
theorem freeD10:freeB o59x4 10=true:=by kernel_rfl
theorem sD_0:say o59x4 0=some (some 20,.load 24 (.tmp 9),none):=by kernel_rfl
theorem dD_0:slotB o59x4 0=some 20:=by kernel_rfl
theorem sD_1:say o59x4 1=some (some 21,.load 24 (.tmp 10),none):=by kernel_rfl
theorem dD_1:slotB o59x4 1=some 21:=by kernel_rfl
theorem sD_2:say o59x4 2=some (some 22,.binOp .neq 24 (.tmp 20) (.tmp 21) 24,none):=by kernel_rfl
theorem dD_2:slotB o59x4 2=some 22:=by kernel_rfl
theorem sD_3:say o59x4 3=some (some 23,.move (.tmp 22),none):=by kernel_rfl
theorem dD_3:slotB o59x4 3=some 23:=by kernel_rfl
theorem sD_4:say o59x4 4=some (some 24,.load 106 (.tmp 7),some (3,true)):=by kernel_rfl
theorem sD_5:say o59x4 5=some (some 25,.load 130 (.tmp 4),some (3,true)):=by kernel_rfl
theorem sD_6:say o59x4 6=some (some 26,.call { callee:=.value (.func 92),args:=#[.tmp 25],argTypes:=#[130] },some (3,true)):=by kernel_rfl
theorem sD_7:say o59x4 7=some (some 27,.load 24 (.tmp 9),some (3,true)):=by kernel_rfl
theorem sD_8:say o59x4 8=some (some 28,.load 24 (.tmp 10),some (3,true)):=by kernel_rfl
theorem sD_9:say o59x4 9=some (some 29,.build 66 #[(0,.tmp 26),(1,.tmp 27),(2,.tmp 28)],some (3,true)):=by kernel_rfl
theorem sD_10:say o59x4 10=some (some 30,.call { callee:=.value (.tmp 24),args:=#[.tmp 29],argTypes:=#[66] },some (3,true)):=by kernel_rfl
theorem sD_11:say o59x4 11=some (some 31,.unOp .not 4 (.tmp 30),some (3,true)):=by kernel_rfl
theorem dD_11:slotB o59x4 11=some 31:=by kernel_rfl
theorem sD_12:say o59x4 12=some (some 32,.pick (.tmp 23) (.tmp 31) (.const (.bool false)),none):=by kernel_rfl
def VS (_T _T1:Nat) (vo:Vd) (_r:Unit):Nat→Value
 | 0=>.agg (vx vo).toArray
 | 1=>.agg (vx vo).toArray
 | 2=>.bool false
 | 3=>.bool false
 | 4=>undef
 | 5=>undef
 | 6=>undef
 | 7=>undef
 | 8=>undef
 | 9=>undef
 | 10=>undef
 | 11=>undef
 | 12=>.bool false
 | _=>undef
theorem regS (T T1:Nat) (vo:Vd) (n0:Nat) (t0:Array Value) (wr:World) {Q:Exit→Act→World→Prop} (ht:t0.size=57) (h9:t0.getD 9 undef=.pointer (some ⟨T,0,none⟩)) (h10:t0.getD 10 undef=.pointer (some ⟨T1,0,none⟩))
  (l9:Ch.Lies wr T 0 (vx vo).toArray) (l10:Ch.Lies wr T1 0 (vx vo).toArray)
  (hQ:∀ (r:Unit) w,Drew wr w→Q .normal ⟨fold o59x4 (VS T T1 vo r) t0 13,[]⟩ w):(Code.region 4 o59x4 true).wpIn Fence.wide n0 Tryz.prog Q ⟨t0,[]⟩ wr:=by
 have hB:dstB o59x4 t0.size=true:=by rw [ht];exact dstD
 refine inv_regionIn (by kernel_rfl) (IE o59x4 (VS T T1 vo) t0 ((fun (_:Unit) (_:Nat→Bool) (w:World)=>Drew wr w) )) backD ⟨(),t0,rfl,⟨rfl,fun _ _=>rfl,fun _ _ _ _ _ h=>by cases h⟩,⟨1,rfl⟩⟩ ?_ ?_
 rotate_left 1
 ·rintro done a w ⟨r,t,rfl,hS,hM⟩ hall
  rw [hS.end hB hall,sizeD]
  exact hQ r w hM
 ·rintro jz op done a w ho ⟨r,t,rfl,hS,hM⟩ hnd hdep hcl
  have e9:t[9]?.getD undef=.pointer (some ⟨T,0,none⟩):=(hS.old freeD9).trans h9
  have e10:t[10]?.getD undef=.pointer (some ⟨T1,0,none⟩):=(hS.old freeD10).trans h10
  have hlt:jz<13:=by rw [← sizeD];exact (Array.getElem?_eq_some_iff.1 ho).1
  match jz,hlt,ho,hnd,hdep with
  | 0,_,ho,hnd,hdep=>
   obtain ⟨hd,hop,hgd⟩:=jC sD_0 ho
   refine ie_valI r (fun _=>trivial) hB ho (jB hgd) hd hS (by intro c;rw [hop];intro h;cases h) hM ?_
   exact Ch.exec_load 24 _ hop T 0 (by show t.getD 9 undef=_;rw [Array.getD_eq_getD_getElem?];exact e9) (vx vo).toArray _ (l9.drew hM) under24v rfl (by rw [size24v];simp [jQ])
  | 1,_,ho,hnd,hdep=>
   obtain ⟨hd,hop,hgd⟩:=jC sD_1 ho
   refine ie_valI r (fun _=>trivial) hB ho (jB hgd) hd hS (by intro c;rw [hop];intro h;cases h) hM ?_
   exact Ch.exec_load 24 _ hop T1 0 (by show t.getD 10 undef=_;rw [Array.getD_eq_getD_getElem?];exact e10) (vx vo).toArray _ (l10.drew hM) under24v rfl (by rw [size24v];simp [jQ])
  | 2,_,ho,hnd,hdep=>
   obtain ⟨hd,hop,hgd⟩:=jC sD_2 ho
   have x20:=hS.gt dD_0 ho hdep
   simp only [VS] at x20
   have x21:=hS.gt dD_1 ho hdep
   simp only [VS] at x21
   refine ie_valI r (fun _=>trivial) hB ho (jB hgd) hd hS (by intro c;rw [hop];intro h;cases h) hM ?_
   exact jd _ _ hop _ _ (by show t.getD 20 undef=_;rw [Array.getD_eq_getD_getElem?];exact x20) (by show t.getD 21 undef=_;rw [Array.getD_eq_getD_getElem?];exact x21) vo vo rfl rfl false (by simp) _
  | 3,_,ho,hnd,hdep=>
   obtain ⟨hd,hop,hgd⟩:=jC sD_3 ho
   have x22:=hS.gt dD_2 ho hdep
   simp only [VS] at x22
   refine ie_valI r (fun _=>trivial) hB ho (jB hgd) hd hS (by intro c;rw [hop];intro h;cases h) hM ?_
   unfold execOp
   simp only [hop]
   simp [x22,VS,go_sem]
  | 4,_,ho,hnd,hdep=>
   obtain ⟨hd,hop,hgd⟩:=jC sD_4 ho
   have gx:=hS.gt dD_3 ho hdep
   simp only [VS] at gx
   exact ie_skipI r (fun _=>trivial) hB ho (jL hgd dD_3 gx rfl) hd hS hM rfl
  | 5,_,ho,hnd,hdep=>
   obtain ⟨hd,hop,hgd⟩:=jC sD_5 ho
   have gx:=hS.gt dD_3 ho hdep
   simp only [VS] at gx
   exact ie_skipI r (fun _=>trivial) hB ho (jL hgd dD_3 gx rfl) hd hS hM rfl
  | 6,_,ho,hnd,hdep=>
   obtain ⟨hd,hop,hgd⟩:=jC sD_6 ho
   have gx:=hS.gt dD_3 ho hdep
   simp only [VS] at gx
   exact ie_skipI r (fun _=>trivial) hB ho (jL hgd dD_3 gx rfl) hd hS hM rfl
  | 7,_,ho,hnd,hdep=>
   obtain ⟨hd,hop,hgd⟩:=jC sD_7 ho
   have gx:=hS.gt dD_3 ho hdep
   simp only [VS] at gx
   exact ie_skipI r (fun _=>trivial) hB ho (jL hgd dD_3 gx rfl) hd hS hM rfl
  | 8,_,ho,hnd,hdep=>
   obtain ⟨hd,hop,hgd⟩:=jC sD_8 ho
   have gx:=hS.gt dD_3 ho hdep
   simp only [VS] at gx
   exact ie_skipI r (fun _=>trivial) hB ho (jL hgd dD_3 gx rfl) hd hS hM rfl
  | 9,_,ho,hnd,hdep=>
   obtain ⟨hd,hop,hgd⟩:=jC sD_9 ho
   have gx:=hS.gt dD_3 ho hdep
   simp only [VS] at gx
   exact ie_skipI r (fun _=>trivial) hB ho (jL hgd dD_3 gx rfl) hd hS hM rfl
  | 10,_,ho,hnd,hdep=>
   obtain ⟨hd,hop,hgd⟩:=jC sD_10 ho
   have gx:=hS.gt dD_3 ho hdep
   simp only [VS] at gx
   exact ie_skipI r (fun _=>trivial) hB ho (jL hgd dD_3 gx rfl) hd hS hM rfl
  | 11,_,ho,hnd,hdep=>
   obtain ⟨hd,hop,hgd⟩:=jC sD_11 ho
   have gx:=hS.gt dD_3 ho hdep
   simp only [VS] at gx
   exact ie_skipI r (fun _=>trivial) hB ho (jL hgd dD_3 gx rfl) hd hS hM rfl
  | 12,_,ho,hnd,hdep=>
   obtain ⟨hd,hop,hgd⟩:=jC sD_12 ho
   have x23:=hS.gt dD_3 ho hdep
   simp only [VS] at x23
   have x31:=hS.gt dD_11 ho hdep
   simp only [VS] at x31
   refine ie_valI r (fun _=>trivial) hB ho (jB hgd) hd hS (by intro c;rw [hop];intro h;cases h) hM ?_
   unfold execOp
   simp only [hop]
   simp [x23,x31,VS,go_sem]
theorem foldS (T T1:Nat) (vo:Vd) (r:Unit) (t0:Array Value):fold o59x4 (VS T T1 vo r) t0 13=(((((((((((((t0.setIfInBounds 20 (.agg (vx vo).toArray)).setIfInBounds 21 (.agg (vx vo).toArray)).setIfInBounds 22 (.bool false)).setIfInBounds 23 (.bool false)).setIfInBounds 24 (undef)).setIfInBounds 25 (undef)).setIfInBounds 26 (undef)).setIfInBounds 27 (undef)).setIfInBounds 28 (undef)).setIfInBounds 29 (undef)).setIfInBounds 30 (undef)).setIfInBounds 31 (undef)).setIfInBounds 32 (.bool false)):=by kernel_rfl
theorem grownT {w w':World} {lo:Nat} {v:Value} {L:List ByteArray} (h:OwnsT w lo v L) {S:Nat→Prop} (hk:Kp S w w') (hn:∀ b,v.ownBlock=some b→¬ S b):OwnsT w' lo v L:=by
 have hlt:=World.ownsRow.lt h
 obtain ⟨h1,q | ⟨g,cap,cur,rfl,hb,hh,hr⟩⟩:=h
 ·exact ⟨h1,.inl q⟩
 ·exact ⟨h1,.inr ⟨g,cap,cur,rfl,hb,(hk.block g (hlt g rfl).2 (hn g rfl)).trans hh,hr⟩⟩
theorem Kp.put (w:World) (b:Nat) (o:Obj):Kp (fun c=>c=b) w (w.putObj b o):=⟨rfl,rfl,rfl,by simp,fun c _ hn=>World.putObj_heap_other hn⟩
structure WkS (lo:Nat) (J:Ys) (w0 W:World) (M:Nat→Prop) (v fv:Value) (L:List ByteArray) (B:Nat) (g:Bool) (MT:Nat→Prop) (pr:List Cd) (X:World):Prop where
 j:J g pr MT X
 kp:Kp (fun b=>M b∨v.ownBlock=some b) W X
 mt:∀ b,MT b→M b∨B≤b
 ow:OwnsT X lo v L
 nv:∀ b,v.ownBlock=some b→¬ MT b
 b4:Bx X B 130 v
 b7:Bx X (B+1) 106 fv
 b8:Bx X (B+2) 4 (.bool false)
 n4:∀ b,B≤b→b<B+3→¬ MT b
 n5:∀ b,v.ownBlock=some b→b<B
 bel:Below w0.heap.size w0 X
 l0:lo≤B
theorem Ch.Bx.lt {w:World} {b t:Nat} {v:Value} (h:Bx w b t v):b<w.heap.size:=(Array.getElem?_eq_some_iff.1 h).1
section
variable {lo:Nat} {J:Ys} {w0 W:World} {M:Nat→Prop} {v fv:Value} {L:List ByteArray} {B:Nat} {g:Bool} {MT:Nat→Prop} {pr:List Cd} {X:World}
theorem WkS.step (_hJ:Yd lo J) (hlo:w0.heap.size=lo) (hB:W.heap.size=B) (h:WkS lo J w0 W M v fv L B g MT pr X) {X':World} {S:Nat→Prop} (hk:Kp S X X') (hS:∀ b,b<X.heap.size→S b→MT b∨v.ownBlock=some b) (hS0:∀ b,S b→lo≤b)
  {g':Bool} {M':Nat→Prop} {pr':List Cd} (hm:∀ b,M' b→MT b∨X.heap.size≤b) (hj:J g' pr' M' X') (how:OwnsT X' lo v L):WkS lo J w0 W M v fv L B g' M' pr' X':=by
 have hs:=h.kp.size
 have key:∀ b,B≤b→b<B+3→b<X.heap.size→¬ S b:=fun b h1 h2 h3 e=>by
  rcases hS b h3 e with e | e
  ·exact h.n4 b h1 h2 e
  ·have:=h.n5 b e;omega
 have l4:=h.b4.lt
 have l7:=h.b7.lt
 have l8:=h.b8.lt
 refine ⟨hj,h.kp.trans hk fun b hb e=>?_,fun b hb=>?_,how,fun b hb hm'=>?_,(hk.block B l4 (key B (by omega) (by omega) l4)).trans h.b4,(hk.block _ l7 (key _ (by omega) (by omega) l7)).trans h.b7,(hk.block _ l8 (key _ (by omega) (by omega) l8)).trans h.b8,fun b h1 h2 hm'=>?_,h.n5,?_,h.l0⟩
 ·rcases hS b (by omega) e with e | e
  ·rcases h.mt b e with e | e
   ·exact .inl e
   ·omega
  ·exact .inr e
 ·rcases hm b hb with e | e
  ·exact h.mt b e
  ·exact .inr (by omega)
 ·rcases hm b hm' with e | e
  ·exact h.nv b hb e
  ·have:=h.n5 b hb;omega
 ·rcases hm b hm' with e | e
  ·exact h.n4 b h1 h2 e
  ·omega
 ·exact h.bel.trans (hk.below h.bel.size fun b e=>by have:=hS0 b e;omega)
theorem WkS.up (hJ:Yd lo J) (hlo:w0.heap.size=lo) (hB:W.heap.size=B) (h:WkS lo J w0 W M v fv L B g MT pr X) {X':World} (hb:Below X.heap.size X X'):WkS lo J w0 W M v fv L B g MT pr X':=
 h.step hJ hlo hB (Kp.of (S:=fun _=>False) hb) (fun _ _ e=>e.elim) (fun _ e=>e.elim) (fun _ e=>.inl e) (hJ.up h.j hb) (grownT h.ow (Kp.of (S:=fun _=>False) hb) (fun _ _ e=>e))
theorem WkS.yield (hJ:Yd lo J) (hlo:w0.heap.size=lo) (hB:W.heap.size=B) (h:WkS lo J w0 W M v fv L B g MT pr X) {X':World} (hk:Kp MT X X') {g':Bool} {M':Nat→Prop} {pr':List Cd} (hm:∀ b,M' b→MT b∨X.heap.size≤b) (hj:J g' pr' M' X'):WkS lo J w0 W M v fv L B g' M' pr' X':=
 h.step hJ hlo hB hk (fun _ _ e=>.inl e) (fun _ e=>(hJ.own h.j e).1) hm hj (grownT h.ow hk h.nv)
theorem WkS.side (hJ:Yd lo J) (hlo:w0.heap.size=lo) (hB:W.heap.size=B) (h:WkS lo J w0 W M v fv L B g MT pr X) {X':World} {S:Nat→Prop} (hk:Kp S X X') (hS:∀ b,S b→B≤b∧(b<X.heap.size→∃ o:Obj,X.heap[b]?=some o∧o.isCells=false)):WkS lo J w0 W M v fv L B g MT pr X':=by
 have hs:=h.kp.size
 have hs2:=h.bel.size
 have nm:∀ b,S b→¬ MT b:=fun b hb e=>by
  obtain ⟨_,o,ho,hc⟩:=hJ.own h.j e
  obtain ⟨o',ho',hc'⟩:=(hS b hb).2 (Array.getElem?_eq_some_iff.1 ho).1
  rw [ho] at ho'
  cases ho'
  rw [hc] at hc'
  cases hc'
 have nb:∀ b t u,Bx X b t u→¬ S b:=fun b t u hx hb=>by
  obtain ⟨o',ho',hc'⟩:=(hS b hb).2 hx.lt
  rw [show X.heap[b]?=_ from hx] at ho'
  cases ho'
  cases hc'
 have hl:=h.l0
 refine ⟨hJ.keep S h.j hk nm fun b hb=>by have:=(hS b hb).1;omega,h.kp.trans hk (fun b hb e=>by have:=(hS b e).1;omega),h.mt,grownT h.ow hk (fun b hb e=>by have:=(hS b e).1;have:=h.n5 b hb;omega),h.nv,(hk.block _ h.b4.lt (nb _ _ _ h.b4)).trans h.b4,(hk.block _ h.b7.lt (nb _ _ _ h.b7)).trans h.b7,(hk.block _ h.b8.lt (nb _ _ _ h.b8)).trans h.b8,h.n4,h.n5,h.bel.trans (hk.below h.bel.size fun b e=>by have:=(hS b e).1;omega),h.l0⟩
end
def WPost (lo:Nat) (J:Ys) (v:Value) (L:List ByteArray) (W:World) (M:Nat→Prop) (pre D:List Cd) (g:Bool) (X:World):Prop:=
 ∃ M' qs,J g (pre++qs) M' X∧(g=true→qs=D)∧qs <+: D∧Kp (fun b=>M b∨v.ownBlock=some b) W X∧(∀ b,M' b→M b∨W.heap.size≤b)∧OwnsT X lo v L
theorem owns_shorter2 {w w1 w2:World} {lo:Nat} {v v':Value} {L N:List ByteArray} {S:Nat→Prop} (h:OwnsT w1 lo v L) (hb:Behind w v v') (hk:Kp S w1 w2) (hS:v'.ownBlock=some w.heap.size→∀ b,v.ownBlock=some b→¬ S b) (h2:OwnsT w2 lo v' (L++N)):OwnsT w2 lo v L:=by
 rcases hb with ⟨g,n,m,cap,rfl,rfl⟩ | hb
 ·have hn:n=L.length:=by
   obtain ⟨_,q | ⟨g',cap',cur,hv,_⟩⟩:=h
   ·cases q.1
   ·injection hv
  have hm:n+m=(L++N).length:=by
   obtain ⟨_,q | ⟨g',cap',cur,hv,_⟩⟩:=h2
   ·cases q.1
   ·injection hv
  unfold OwnsT at h2 ⊢
  rw [← hm,List.map_append] at h2
  rw [← hn]
  exact ownsRow_shorter h2 (by simp;omega)
 ·exact grownT h hk (hS hb)
section
variable {lo:Nat} {J:Ys} {w0 W:World} {M:Nat→Prop} {v fv:Value} {L:List ByteArray} {B:Nat} {g:Bool} {MT:Nat→Prop} {pr:List Cd} {X:World}
theorem WkS.after (hJ:Yd lo J) (hlo:w0.heap.size=lo) (hB:W.heap.size=B) (h:WkS lo J w0 W M v fv L B true MT pr X) {v3:Value} {w2 w3 X':World} {nm:ByteArray} {D:List Cd} {g':Bool} (hk:Kp (fun b=>v.ownBlock=some b) X w3) (hb:Behind w2 v v3) (hs:X.heap.size≤w2.heap.size) (o3:OwnsT w3 lo v L)
  (hp:WPost lo J v3 (L++[nm]) w3 MT pr D g' X'):∃ M' qs,WkS lo J w0 W M v fv L B g' M' (pr++qs) X'∧(g'=true→qs=D)∧qs <+: D∧Kp (fun b=>MT b∨v.ownBlock=some b) X X'∧∀ b,M' b→MT b∨X.heap.size≤b:=by
 obtain ⟨M',qs,j1,h1,h2,k1,m1,o1⟩:=hp
 have hlt:=World.ownsRow.lt h.ow
 have kk:Kp (fun b=>MT b∨v.ownBlock=some b) X X':=(hk.mono (S':=fun b=>MT b∨v.ownBlock=some b) fun _ _ e=>.inr e).trans k1 fun b hb' e=>by
  rcases e with e | e
  ·exact .inl e
  ·rcases hb.block with q | q
   ·rw [q] at e;exact .inr e
   ·rw [q] at e
    injection e with e
    omega
 have mm:∀ b,M' b→MT b∨X.heap.size≤b:=fun b e=>by
  rcases m1 b e with e | e
  ·exact .inl e
  ·have:=hk.size;exact .inr (by omega)
 have ow:OwnsT X' lo v L:=owns_shorter2 o3 hb k1 (fun q b hb' e=>by
  rcases e with e | e
  ·exact h.nv b hb' e
  ·rw [q] at e
   injection e with e
   have:=(hlt b hb').2
   omega) o1
 exact ⟨M',qs,h.step hJ hlo hB kk (fun _ _ e=>e) (fun b e=>by
  rcases e with e | e
  ·exact (hJ.own h.j e).1
  ·exact (hlt b e).1) mm j1 ow,h1,h2,kk,mm⟩
theorem WkS.fin (hJ:Yd lo J) (hB:W.heap.size=B) (h:WkS lo J w0 W M v fv L B g MT pr X) {X':World} {S:Nat→Prop} (hk:Kp S X X') (hS:∀ b,S b→b=B+2∨(B≤b∧(b<X.heap.size→∃ o:Obj,X.heap[b]?=some o∧o.isCells=false))) {pre D qs:List Cd} (he:pr=pre++qs) (hq:g=true→qs=D) (hq2:qs <+: D):WPost lo J v L W M pre D g X':=by
 subst he
 have hl:=h.l0
 refine ⟨MT,qs,hJ.keep S h.j hk (fun b hb e=>?_) (fun b hb=>?_),hq,hq2,h.kp.trans hk (fun b hb e=>?_),fun b e=>?_,grownT h.ow hk fun b hb e=>?_⟩
 ·rcases hS b hb with rfl | ⟨_,q⟩
  ·exact h.n4 _ (by omega) (by omega) e
  ·obtain ⟨_,o,ho,hc⟩:=hJ.own h.j e
   obtain ⟨o',ho',hc'⟩:=q (Array.getElem?_eq_some_iff.1 ho).1
   rw [ho] at ho'
   cases ho'
   rw [hc] at hc'
   cases hc'
 ·rcases hS b hb with rfl | ⟨q,_⟩<;>omega
 ·rcases hS b e with rfl | ⟨q,_⟩<;>omega
 ·rcases h.mt b e with e | e
  ·exact .inl e
  ·exact .inr (by omega)
 ·have:=h.n5 b hb
  rcases hS b e with rfl | ⟨q,_⟩<;>omega
end
theorem WkS.start {lo:Nat} {J:Ys} (hJ:Yd lo J) {w0 W:World} {M:Nat→Prop} {v:Value} {L:List ByteArray} {B:Nat} {pre:List Cd} (fv:Value) (hlo:w0.heap.size=lo) (hB:W.heap.size=B) (hj:J true pre M W) (ow:OwnsT W lo v L) (nv:∀ b,v.ownBlock=some b→¬ M b) (bel:Below w0.heap.size w0 W):
  WkS lo J w0 W M v fv L B true M pre (((W.alloc (.cells #[v] 130)).alloc (.cells #[fv] 106)).alloc (.cells #[.bool false] 4)):=by
 have hb:Below W.heap.size W (((W.alloc (.cells #[v] 130)).alloc (.cells #[fv] 106)).alloc (.cells #[.bool false] 4)):=(((Below.refl _ W).alloc (Nat.le_refl _) _).alloc (by simp) _).alloc (by simp;omega) _
 have hlt:=World.ownsRow.lt ow
 refine ⟨hJ.up hj hb,Kp.of hb,fun _ e=>.inl e,grownT ow (Kp.of (S:=fun _=>False) hb) (fun _ _ e=>e),nv,?_,?_,?_,fun b h1 _ e=>by have:=hJ.lt hj e;omega,fun b e=>by have:=(hlt b e).2;omega,bel.trans (hb.mono bel.size),by have:=bel.size;omega⟩
 ·subst hB
  exact (heap_alloc_old _ _ (by simp;omega)).trans ((heap_alloc_old _ _ (by simp)).trans (heap_alloc_new _ _))
 ·subst hB
  refine (heap_alloc_old _ _ (by simp)).trans ?_
  have:=heap_alloc_new (W.alloc (.cells #[v] 130)) (.cells #[fv] 106)
  rwa [World.size_alloc] at this
 ·subst hB
  have:=heap_alloc_new ((W.alloc (.cells #[v] 130)).alloc (.cells #[fv] 106)) (.cells #[.bool false] 4)
  rwa [World.size_alloc,World.size_alloc] at this
attribute [local go_sem] Oper.semAt_some
def WX (lo:Nat) (J:Ys) (w0 W:World) (M:Nat→Prop) (v fv:Value) (L:List ByteArray) (B:Nat) (pr all:List Cd) {β:Type} (_:List β) (X:World):Prop:=
 ∃ M' qs,WkS lo J w0 W M v fv L B false M' (pr++qs) X∧qs <+: all
theorem WX.own {lo:Nat} {J:Ys} (hJ:Yd lo J) {w0 W:World} {M:Nat→Prop} {v fv:Value} {L:List ByteArray} {B:Nat} {pr all:List Cd} {β:Type} (hlo:w0.heap.size=lo) (hB:W.heap.size=B) (N:Nat) (hN:B≤N):OwnFrom N (WX lo J w0 W M v fv L B pr all (β:=β)):=by
 rintro ps X X' row ⟨M',qs,h1,h2⟩ hg hr
 refine ⟨M',qs,h1.side hJ hlo hB (Kp.grown hg) fun b e=>?_,h2⟩
 obtain ⟨q1,o,ho,hc⟩:=hr b e
 exact ⟨by omega,fun _=>⟨o,ho,hc⟩⟩
end Go.Proofs.YthfcanpkhjgomaaGreat
namespace Go.Proofs.YthfcanpkhjgomaaGreat
open Go.RowKit Ch
attribute [local go_sem] Oper.semAt_some
theorem WkS.store {lo:Nat} {J:Ys} {w0 W:World} {M:Nat→Prop} {v fv:Value} {L:List ByteArray} {B:Nat} {g:Bool} {MT:Nat→Prop} {pr:List Cd} {X:World} (hJ:Yd lo J) (hlo:w0.heap.size=lo) (hB:W.heap.size=B) (h:WkS lo J w0 W M v fv L B g MT pr X):WkS lo J w0 W M v fv L B g MT pr (X.setCell ⟨B+2,0,none⟩ (.bool false)):=by
 have hk:=Kp.set X (B+2) 0 (.bool false)
 have hl:=h.l0
 refine ⟨hJ.keep _ h.j hk (fun b e=>by rw [e];exact h.n4 _ (by omega) (by omega)) (fun b e=>by omega),h.kp.trans hk (fun b hb e=>by omega),h.mt,grownT h.ow hk (fun b hb e=>by have:=h.n5 b hb;omega),h.nv,h.b4.other (by omega),h.b7.other (by omega),h.b8.set _,h.n4,h.n5,h.bel.trans (hk.below h.bel.size fun b e=>by omega),h.l0⟩
end Go.Proofs.YthfcanpkhjgomaaGreat
namespace Go.Proofs.YthfcanpkhjgomaaGreat
open Go.RowKit Ch
end Go.Proofs.YthfcanpkhjgomaaGreat
namespace Go.Proofs.YthfcanpkhjgomaaGreat
open Go.RowKit
open DO (vz)
open Ch (Cd riseB)
theorem layL_good:∀ {l:List Cn} {t t2:T3},Good t→Po l→(∀ c∈l,(∀ x∈c.L,nameB (tl x)=true)∧c.L.length≤64)→(∀ c∈l,c.n≠vz→c.o=vz→val t c.L=none)→layL l t=some t2→Good t2
 | [],_,_,h,_,_,_,e=>by cases e;exact h
 | c::l,t,t2,h,ho,hn,hz,e=>by
  rw [layL] at e
  cases e1:stepL c t with
  | none=>rw [e1] at e;cases e
  | some t1=>
   rw [e1,Option.bind_some] at e
   have hc:=hn c List.mem_cons_self
   obtain ⟨_,_,z2⟩:=stepL_val h.rises (hz c List.mem_cons_self) e1
   refine layL_good (stepL_good h hc.1 hc.2 (hz c List.mem_cons_self) e1) ho.tail (fun d hd=>hn d (List.mem_cons_of_mem _ hd)) (fun d hd q1 q2=>?_) e
   rw [z2 d.L fun _ q=>ho.ne hd q.symm]
   exact hz d (List.mem_cons_of_mem _ hd) q1 q2
theorem Po.inj:∀ {l:List Cn},Po l→∀ c∈l,∀ d∈l,c.L=d.L→c=d
 | [],_,_,h,_,_,_=>(List.not_mem_nil h).elim
 | x::l,ho,c,hc,d,hd,e=>by
  rcases List.mem_cons.1 hc with q1 | q1
  ·rcases List.mem_cons.1 hd with q2 | q2
   ·rw [q1,q2]
   ·exact absurd (by rw [← e,q1]) (ho.ne q2)
  ·rcases List.mem_cons.1 hd with q2 | q2
   ·exact absurd (by rw [e,q2]) (ho.ne q1)
   ·exact ho.tail.inj c q1 d q2 e
theorem cutN_tl (s:ByteArray):(cutN s).map tl=pieces (tl s):=by
 unfold cutN
 rw [List.map_map]
 conv=>rhs;rw [← List.map_id (pieces (tl s))]
 exact List.map_congr_left fun x _=>qF x
theorem join_pieces (l:By):joinL (pieces l)=l:=by
 unfold pieces
 by_cases h:l=[]
 ·rw [if_pos h,h];rfl
 ·rw [if_neg h,join_cuts]
theorem names_split {s:ByteArray} (h:splitE (tl s) 64=0):(∀ x∈cutN s,nameB (tl x)=true)∧(cutN s).length≤64:=by
 unfold splitE at h
 split at h
 ·cases h
 rename_i h1
 split at h
 ·rename_i h2
  refine ⟨fun x hx=>?_,?_⟩
  ·rw [List.all_eq_true] at h2
   refine h2 _ ?_
   rw [← cutN_tl]
   exact List.mem_map_of_mem hx
  ·rw [← List.length_map (f:=tl),cutN_tl]
   omega
 ·cases h
def frC (c:Cd):DO.Dif:=⟨(cutN c.path).map tl,vcV c.old,vcV c.new⟩
theorem Dd.of_ap {t z:T3} {L:List Cd} (ht:Good t) (hr:riseB none L=true) (hs:startsB t L=true) (h:apM t L=some z):Good z∧Dd t z (L.map frC):=by
 obtain ⟨r1,r2,_⟩:=rise_pair hr
 have hsp:∀ c∈L,splitE (tl c.path) 64=0:=fun c hc=>(r1 c hc).1
 have hpo:=rise_po r2
 have hold:∀ c∈L,vcV c.old=vl t (cutN c.path):=fun c hc=>by
  unfold startsB at hs
  rw [List.all_eq_true] at hs
  have h1:=hs c hc
  rw [decide_eq_true_eq] at h1
  rw [← h1]
  unfold atV vl val
  rw [sub_names (hsp c hc)]
  cases dn t (cutN c.path)<;>rfl
 obtain ⟨l,hl⟩:∃ l,L.map toN=l:=⟨_,rfl⟩
 have hmem:∀ c∈l,∃ d∈L,toN d=c:=fun c hc=>by rw [← hl] at hc;exact List.mem_map.1 hc
 have hnm:∀ c∈l,(∀ x∈c.L,nameB (tl x)=true)∧c.L.length≤64:=fun c hc=>by
  obtain ⟨d,hd,rfl⟩:=hmem c hc
  exact names_split (hsp d hd)
 have ho:∀ c∈l,c.o=vl t c.L:=fun c hc=>by
  obtain ⟨d,hd,rfl⟩:=hmem c hc
  exact hold d hd
 rw [hl] at hpo
 unfold apM at h
 rw [dpL_names hsp,hl] at h
 cases e1:clrR l t with
 | none=>rw [e1] at h;cases h
 | some t1=>
  rw [e1,Option.bind_some,ldM_names hsp,hl] at h
  obtain ⟨_,g1,g2⟩:=clr_val ht.rises e1
  have gt1:=clrR_good ht e1
  have sub1:∀ M,val t M=none→val t1 M=none:=fun M h0=>by
   by_cases hg:Go_ l M
   ·exact g1 M hg
   ·rw [g2 M hg];exact h0
  have hz:∀ c∈l,c.n≠vz→c.o=vz→val t1 c.L=none:=fun c hc _ h2=>sub1 _ ((vl_none ht).1 ((ho c hc).symm.trans h2))
  obtain ⟨_,l1,l2⟩:=lay_val gt1.rises hpo hz h
  have hnew:∀ c∈l,c.n=vl z c.L:=fun c hc=>by
   by_cases hv:c.n=vz
   ·have h1:val z c.L=val t1 c.L:=l2 _ fun d hd hd2 q=>by
     have:=hpo.inj d hd c hc q
     exact hd2 (by rw [this];exact hv)
    unfold vl
    rw [h1,g1 _ ⟨c,hc,hv,rfl⟩,hv]
    rfl
   ·unfold vl
    rw [l1 c hc hv];rfl
  refine ⟨layL_good gt1 hpo hnm hz h,?_,fun d hd=>?_,fun M hM=>?_⟩
  ·show (L.map frC).Pairwise _
   rw [List.pairwise_map]
   refine r2.imp fun {a b} hab=>?_
   show cmpP ((cutN a.path).map tl) ((cutN b.path).map tl)=-1
   rw [cutN_tl,cutN_tl]
   have h1:cmpP (pieces (tl a.path)) (pieces (tl b.path))<0:=by rw [cmpP_pieces];exact hab
   rcases DO.cmpP_three (pieces (tl a.path)) (pieces (tl b.path)) with q | q | q
   ·exact q
   ·omega
   ·omega
  ·obtain ⟨c,hc,rfl⟩:=List.mem_map.1 hd
   have hc':toN c∈l:=by rw [← hl];exact List.mem_map_of_mem hc
   exact ⟨cutN c.path,rfl,(hnm _ hc').1,(hnm _ hc').2,hold c hc,hnew _ hc',fun q=>(r1 c hc).2 (by rw [← cvV_vc c.old,← cvV_vc c.new];exact congrArg cvV q)⟩
  ·have hex:∃ c∈l,c.L=M:=Classical.byContradiction fun q=>by
    apply hM
    have h1:val z M=val t1 M:=l2 M fun c hc _ e=>q ⟨c,hc,e⟩
    have h2:val t1 M=val t M:=g2 M fun ⟨c,hc,_,e⟩=>q ⟨c,hc,e⟩
    unfold vl
    rw [h1,h2]
   obtain ⟨c,hc,rfl⟩:=hex
   obtain ⟨d,hd,rfl⟩:=hmem c hc
   exact ⟨frC d,List.mem_map_of_mem hd,rfl⟩
end Go.Proofs.YthfcanpkhjgomaaGreat
