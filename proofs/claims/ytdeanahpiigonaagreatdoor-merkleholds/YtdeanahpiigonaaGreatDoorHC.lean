import Derived.Test.YtdeanahpiigonaaGreatDoorHSeq
import Derived.Test.YtdeanahpiigonaaGreatDoorHA
set_option maxRecDepth 100000
set_option maxHeartbeats 8000000
namespace Go.Proofs.YtdeanahpiigonaaGreatDoor.Hm
open Go.RowKit
def ups (r:Nat→Value) (i:Nat) (u:Value):Nat→Value:=fun k=>if k=i then u else r k
theorem jA (r:Nat→Value) (i:Nat) (u:Value):ups r i u i=u:=by simp [ups]
theorem qr (r:Nat→Value) {i k:Nat} (u:Value) (h:k≠i):ups r i u k=r k:=by simp [ups,h]
def MC (F0:(Nat→Value)→World→Prop):List (Nat × ((Nat→Value)→World→Prop))→(Nat→Value)→(Nat→Bool)→World→Prop
 | [],r,_,w=>F0 r w
 | (p,F)::t,r,done,w=>if done p=true then F r w else MC F0 t r done w
theorem MC.step {F0:(Nat→Value)→World→Prop} {r:Nat→Value} {done:Nat→Bool} {w:World} {j:Nat}:∀ {ps:List (Nat × ((Nat→Value)→World→Prop))},MC F0 ps r done w→(ps.map (·.1)).contains j=false→MC F0 ps r (upd done j) w
 | [],h,_=>h
 | (p,F)::t,h,hj=>by
  simp only [List.map_cons,List.contains_cons,Bool.or_eq_false_iff,beq_eq_false_iff_ne] at hj
  rw [MC] at h ⊢
  rw [xy done (Ne.symm hj.1)]
  split
  ·rename_i hd
   rw [if_pos hd] at h
   exact h
  ·rename_i hd
   rw [if_neg hd] at h
   exact MC.step h hj.2
theorem MC.base {F0:(Nat→Value)→World→Prop} {r:Nat→Value} {done:Nat→Bool} {w:World} {B:World→Prop} (h0:∀ r w,F0 r w→B w):∀ {ps:List (Nat × ((Nat→Value)→World→Prop))},(∀ x∈ps,∀ r w,x.2 r w→B w)→MC F0 ps r done w→B w
 | [],_,h=>h0 _ _ h
 | (p,F)::t,hs,h=>by
  rw [MC] at h
  split at h
  ·exact hs (p,F) (by simp) _ _ h
  ·exact MC.base h0 (fun x hx=>hs x (by simp [hx])) h
theorem MC.start {F0:(Nat→Value)→World→Prop} {r:Nat→Value} {w:World} (h:F0 r w):∀ {ps:List (Nat × ((Nat→Value)→World→Prop))},MC F0 ps r (fun _=>false) w
 | []=>h
 | (p,F)::t=>by rw [MC,if_neg (by simp)];exact MC.start h
theorem MC.put {F0 F:(Nat→Value)→World→Prop} {r:Nat→Value} {done:Nat→Bool} {w:World} {p:Nat} {post:List (Nat × ((Nat→Value)→World→Prop))} (h:F r w):∀ (pre:List (Nat × ((Nat→Value)→World→Prop))),(∀ q∈pre,done q.1=false∧q.1≠p)→MC F0 (pre++(p,F)::post) r (upd done p) w
 | [],_=>by rw [List.nil_append,MC,if_pos (fp done p)];exact h
 | (q,G)::t,hp=>by
  have h1:=hp (q,G) (by simp)
  rw [List.cons_append,MC,if_neg (by rw [xy done h1.2,h1.1];simp)]
  exact MC.put h t fun x hx=>hp x (by simp [hx])
theorem MC.get {F0 F:(Nat→Value)→World→Prop} {r:Nat→Value} {done:Nat→Bool} {w:World} {p:Nat} {post:List (Nat × ((Nat→Value)→World→Prop))} (hd:done p=true):∀ (pre:List (Nat × ((Nat→Value)→World→Prop))),(∀ q∈pre,done q.1=false)→MC F0 (pre++(p,F)::post) r done w→F r w
 | [],_,h=>by rw [List.nil_append,MC,if_pos hd] at h;exact h
 | (q,G)::t,hp,h=>by
  have h1:=hp (q,G) (by simp)
  rw [List.cons_append,MC,if_neg (by rw [h1];simp)] at h
  exact MC.get hd t (fun x hx=>hp x (by simp [hx])) h
theorem MC.get0 {F0:(Nat→Value)→World→Prop} {r:Nat→Value} {done:Nat→Bool} {w:World}:∀ (pre:List (Nat × ((Nat→Value)→World→Prop))),(∀ q∈pre,done q.1=false)→MC F0 pre r done w→F0 r w
 | [],_,h=>h
 | (q,G)::t,hp,h=>by
  have h1:=hp (q,G) (by simp)
  rw [MC,if_neg (by rw [h1];simp)] at h
  exact MC.get0 t (fun x hx=>hp x (by simp [hx])) h
theorem qM {P:Program} {ops:Array Oper} {Q:Exit→Act→World→Prop} {α:Type} {V:α→Nat→Value} {t0 t:Array Value} {done:Nat→Bool} {Mem:α→(Nat→Bool)→World→Prop} {i d:Nat} {o:Oper} {w:World} (r r':α) (w':World) (hB:dstB ops t0.size=true) (ho:ops[i]?=some o) (hg:Region.wanted o (yielded ops t)=true) (hd:o.dst=some d) (hs:qu ops (V r) t0 t done)
  (he:∀ k,done k=true→V r' k=V r k) (hM:Mem r' (upd done i) w') (hrun:(execOp (Act.mk t []).eval o).run P w=.ok (.value (V r' i)) w'):wpOp P ops Q i (IE ops V t0 Mem (upd done i)) ⟨t,[]⟩ w:=by
 unfold wpOp
 rw [ho]
 simp only
 rw [if_pos hg]
 left
 unfold Oper.wp
 rw [hrun]
 show IE ops V t0 Mem (upd done i) (Act.put ⟨t,[]⟩ o.dst (V r' i)) w'
 rw [hd]
 exact ⟨r',_,rfl,(hs.re he).put hB ho hd,hM⟩
theorem MC.cut {F0:(Nat→Value)→World→Prop} {r:Nat→Value} {done:Nat→Bool} {w:World} {post:List (Nat × ((Nat→Value)→World→Prop))}:∀ (pre:List (Nat × ((Nat→Value)→World→Prop))),(∀ q∈pre,done q.1=false)→MC F0 (pre++post) r done w→MC F0 post r done w
 | [],_,h=>h
 | (q,G)::t,hp,h=>by
  have h1:=hp (q,G) (by simp)
  rw [List.cons_append,MC,if_neg (by rw [h1];simp)] at h
  exact MC.cut t (fun x hx=>hp x (by simp [hx])) h
end Go.Proofs.YtdeanahpiigonaaGreatDoor.Hm
namespace Go.Proofs.YtdeanahpiigonaaGreatDoor
open Go.RowKit Hm
attribute [local go_sem] Oper.semAt_some
def hA (h:List Nat):Array Value:=(h.map Su.vb).toArray
theorem jG {h:List Nat} (hl:h.length=32):(hA h).size=32:=by simp [hA,hl]
theorem jn (h:List Nat):(hA h).all (·.oneCell')=true:=by
 rw [Array.all_eq_true_iff_forall_mem]
 intro u hu
 obtain ⟨x,_,rfl⟩:=List.mem_map.1 (show u∈h.map Su.vb by simpa [hA] using hu)
 rfl
theorem jv:(Tryz.prog.info? 22).bind (·.zero)=some (.agg (hA j7)):=by kernel_rfl
theorem jK:(Tryz.prog.info? 22).map (·.size)=some 32:=by kernel_rfl
structure Rq where
 lo:Nat
 R:Nat
 Q:Nat
 l:List Int
 hB:Wire.Bytes l
def Rq.own (c:Rq) (b:Nat):Prop:=c.lo≤b∧b≤c.Q
structure PvAt (c:Rq) (r:Pv) (w:World):Prop where
 rd:Wi.RdS w c.lo c.R c.l r.s
 q:w.heap[c.Q]?=some (.cells #[.pointer (some ⟨c.R,0,none⟩),.bool r.bad] 113 (0,0))
 lt:c.R<c.Q
theorem PvAt.lo {c:Rq} {r:Pv} {w:World} (h:PvAt c r w):c.lo≤c.R:=by
 obtain ⟨v,_,_,_,q,_⟩:=h.rd
 exact q
theorem PvAt.len {c:Rq} {r:Pv} {w:World} (h:PvAt c r w):c.l.length≤16777216:=by
 obtain ⟨v,_,_,_,_,q1,q2⟩:=h.rd
 exact q2
theorem PvAt.Qlt {c:Rq} {r:Pv} {w:World} (h:PvAt c r w):c.Q<w.heap.size:=(ga h.q).1
theorem PvAt.keep {c:Rq} {r:Pv} {w w':World} (h:PvAt c r w) (hb:∀ b,c.own b→w'.heap[b]?=w.heap[b]?):PvAt c r w':=
 ⟨Wi.Rdr.kept h.rd fun k h1 h2=>hb k ⟨h1,Nat.le_trans h2 (Nat.le_of_lt h.lt)⟩,(hb c.Q ⟨Nat.le_trans h.lo (Nat.le_of_lt h.lt),Nat.le_refl _⟩).trans h.q,h.lt⟩
theorem PvAt.up {c:Rq} {r:Pv} {w w':World} (h:PvAt c r w) (hb:Below w.heap.size w w'):PvAt c r w':=h.keep fun b q=>hb.block b (Nat.lt_of_le_of_lt q.2 h.Qlt)
theorem PvAt.kp {c:Rq} {r:Pv} {w w':World} {S:Nat→Prop} (h:PvAt c r w) (hk:Kp S w w') (hs:∀ b,S b→¬ c.own b):PvAt c r w':=h.keep fun b q=>hk.block b (Nat.lt_of_le_of_lt q.2 h.Qlt) fun e=>hs b e q
theorem PvAt.wire {c:Rq} {r:Pv} {w w':World} {s:Wi.St} (h:PvAt c r w) (hr:Wi.RdS w' c.lo c.R c.l s) (hg:w.grownBy w' (some c.R)):PvAt c ⟨s,r.bad⟩ w'∧Kp c.own w w':=by
 have hk:=Kp.grown hg
 refine ⟨⟨hr,(hk.block c.Q h.Qlt fun e=>?_).trans h.q,h.lt⟩,hk.mono fun b _ e=>?_⟩
 ·have:=h.lt;injection e with e;omega
 ·injection e with e;subst e;exact ⟨h.lo,Nat.le_of_lt h.lt⟩
theorem PvAt.cell0 {c:Rq} {r:Pv} {w:World} (h:PvAt c r w):w.cell? ⟨c.Q,0,none⟩=some (.pointer (some ⟨c.R,0,none⟩)):=by rw [j9 h.q];rfl
theorem PvAt.set {c:Rq} {r:Pv} {w w':World} {b:Bool} (h:PvAt c r w) (hk:Kp (fun x=>x=c.Q) w w') (hq:w'.heap[c.Q]?=some (.cells #[.pointer (some ⟨c.R,0,none⟩),.bool b] 113 (0,0))):PvAt c ⟨r.s,b⟩ w'∧Kp c.own w w':=by
 refine ⟨⟨Wi.Rdr.kept h.rd fun k h1 h2=>hk.block k ?_ ?_,hq,h.lt⟩,hk.mono fun b _ e=>?_⟩
 ·have:=h.Qlt;have:=h.lt;omega
 ·have:=h.lt;omega
 ·subst e;exact ⟨Nat.le_trans h.lo (Nat.le_of_lt h.lt),Nat.le_refl _⟩
theorem kK (l:List Int) (s:Wi.St) (m:Nat):(Wi.uintS l s m).1≤m:=by
 unfold Wi.uintS
 split
 ·simp
 ·split
  ·split<;>simp;assumption
  ·simp
  ·simp
theorem qt (l:List Int) (r:Pv) (m:Nat):(numP l m r).1≤m:=kK l r.s m
theorem qE {c:Rq} {r:Pv} {w:World} (h:PvAt c r w) (most:Nat) (mi:Int) (hmi:mi=(most:Int)) (hm:most≤1099511627775):
  Calls Tryz.prog 109 #[.pointer (some ⟨c.Q,0,none⟩),.int .i64 mi] w fun e w'=>e=.returned (.int .i64 ((numP c.l most r).1:Nat))∧PvAt c (numP c.l most r).2 w'∧Kp c.own w w':=by
 subst hmi
 have hc:=h.cell0
 have hle:=qt c.l r most
 have C:=(Wi.rU c.lo c.R most c.l r.s w h.rd c.hB).mono (R':=fun e w'=>e=.returned (.int .u64 ((numP c.l most r).1:Nat))∧PvAt c (numP c.l most r).2 w'∧Kp c.own w w') (by
  rintro e w' ⟨rfl,h1,h2⟩
  exact ⟨rfl,h.wire h1 h2⟩)
 generalize (numP c.l most r).1=n at *
 have HC:=hid C
 clear C h
 go_enter Tryz.func109,Tryz.ntmps109
 go_wp2_with (go_at_call 126;refine HC.o.mono ?_;rintro e w2 ⟨rfl,h1⟩;have HP:=hid h1;clear h1)
 go_ret
 exact ⟨rfl,HP.o⟩
theorem za {c:Rq} {r:Pv} {w:World} (h:PvAt c r w) (most:Nat) (hm:most≤1099511627775):
  Calls Tryz.prog 109 #[.pointer (some ⟨c.Q,0,none⟩),.int .i64 (most:Int)] w fun e w'=>e=.returned (.int .i64 ((numP c.l most r).1:Nat))∧PvAt c (numP c.l most r).2 w'∧Kp c.own w w':=qE h most _ rfl hm
theorem aP {c:Rq} {r:Pv} {w:World} (h:PvAt c r w) (b:Bool):
  Calls Tryz.prog 112 #[.pointer (some ⟨c.Q,0,none⟩),.bool b] w fun e w'=>e=.returned (.tuple #[])∧PvAt c (qd b r) w'∧Kp c.own w w':=by
 have hq:=h.q
 cases b with
 | true=>
  have hm:qd true r=r:=by obtain ⟨s,b⟩:=r;simp [qd]
  rw [hm]
  go_enter Tryz.func112,Tryz.ntmps112
  go_wp2_with fail
  go_end0
  exact ⟨rfl,h,Kp.refl _ _⟩
 | false=>
  have hm:qd false r=⟨r.s,true⟩:=by simp [qd]
  rw [hm]
  have hc1:w.cell? ⟨c.Q,1,none⟩=some (.bool r.bad):=by rw [j9 hq];rfl
  have hf1:w.frozen? ⟨c.Q,1,none⟩=false:=by simp [World.frozen?,hq]
  have H:=hid (⟨h,hq⟩:_∧_)
  clear h hq
  go_enter Tryz.func112,Tryz.ntmps112
  go_wp2_with fail
  go_end0
  exact ⟨rfl,H.o.1.set (Kp.set _ _ _ _) (by rw [jI _ H.o.2];rfl)⟩
theorem l5 {dT sT:TypeId} {o:Oper} {a:Act} {s x:Operand} (ho:o.op=.call { callee:=.builtin .copy,args:=#[s,x],argTypes:=#[dT,sT] }) {v src v':Value} {w w':World} (hs:a.eval s=v) (hx:a.eval x=src)
  (hr:(Builtin.copy_ #[dT,sT] o.type #[v,src]).run Tryz.prog w=.ok v' w'):(execOp a.eval o).run Tryz.prog w=.ok (.value v') w':=by
 unfold execOp
 simp only [ho,resolve,invoke,builtin,Sem.run_bind,Sem.run_pure,Result.andThen_ok,List.map_toArray,List.map_cons,List.map_nil,hs,hx,hr]
theorem sG:(Tryz.prog.info? 5).map (·.size)=some 1:=by kernel_rfl
theorem copy32 {w:World} {v:Value} {x:List Int} (g:Nat) (ty:TypeId) (hv:Wi.Has w v x) (hx:x.length=32∨x=[]) (hB:Wire.Bytes x) (hg:w.heap[g]?=some (.cells (hA j7) 22 (0,0))):
  ∃ u w',(Builtin.copy_ #[25,25] ty #[.slice (some ⟨g,0,none⟩) 32 32,v]).run Tryz.prog w=.ok u w'∧Kp (fun b=>b=g) w w'∧w'.heap[g]?=some (.cells (hA (h32 x)) 22 (0,0))∧w'.heap.size=w.heap.size:=by
 have hz:(hA j7).size=32:=jG jC
 rcases hx with hx | rfl
 ·rcases hv with ⟨_,h0⟩ | ⟨a,cap,rfl,hc,hcell⟩
  ·rw [h0] at hx;simp at hx
  ·have hl:(x.map (Value.int .u8)).length=Nat.min x.length 32:=by rw [List.length_map,hx];rfl
   have hr:=run_copy_row (P:=Tryz.prog) w 25 25 ty 5 g 0 32 32 a x.length cap (hA j7) 22 (x.map (Value.int .u8)) Tryz.underlying25 sG hg hl (fun j u hj=>by
    have hjl:j<x.length:=by have:=(List.getElem?_eq_some_iff.1 hj).1;simpa using this
    rw [hcell j hjl]
    simpa [List.getD,gl hjl] using hj) (by rw [hz];simp [hx]) (by intro u hu;obtain ⟨y,_,rfl⟩:=List.mem_map.1 hu;rfl)
   refine ⟨_,_,hr,⟨rfl,rfl,rfl,by simp,fun b _ hn=>setRow_other _ g b _ hn⟩,?_,by simp⟩
   rw [setRow_heap _ _ _ _ _ _ hg]
   congr 2
   have hd:(hA j7).toList.drop (0+(x.map (Value.int .u8)).length)=[]:=List.drop_of_length_le (by simp [hz,hx])
   rw [hd,List.append_nil,List.take_zero,List.nil_append,h32,if_pos hx,hA,List.map_map]
   congr 1
   refine List.map_congr_left fun y hy=>?_
   show Value.int .u8 y=Value.int .u8 ((y.toNat:Nat):Int)
   rw [Int.toNat_of_nonneg (hB y hy).1]
 ·obtain ⟨ao,cap,rfl,_⟩:=hv.form
  refine ⟨_,w,run_copy_none (P:=Tryz.prog) w 25 25 ty 5 (some ⟨g,0,none⟩) ao 32 32 0 cap Tryz.underlying25 sG (by decide),Kp.refl _ _,?_,rfl⟩
  rw [hg,h32,if_neg (by decide)]
theorem fY (l:List Int) (s:Wi.St):(Wi.rawB l s 32).length=32∨Wi.rawB l s 32=[]:=by
 unfold Wi.rawB
 split
 ·exact .inr rfl
 ·split
  ·exact .inr rfl
  ·left;rw [List.length_take,List.length_drop];simp at *;omega
theorem qW {l:List Int} (h:Wire.Bytes l) (s:Wi.St):Wire.Bytes (Wi.rawB l s 32):=by
 unfold Wi.rawB
 split
 ·intro x hx;simp at hx
 ·split
  ·intro x hx;simp at hx
  ·exact (h.drop _).take _
noncomputable abbrev yd:Array Oper:=kS Tryz.f111 2
theorem l6:yd.size=7:=by kernel_rfl
theorem a0d:say yd 0=some (some 4,.slice 22 (.tmp 3) none none none,none):=by kernel_rfl
theorem a0e:say yd 1=some (some 5,.move (.tmp 0),none):=by kernel_rfl
theorem a0f:say yd 2=some (some 6,.nilCheck (.tmp 5),none):=by kernel_rfl
theorem a0g:say yd 3=some (some 7,.fieldAddr 113 (.tmp 6) 0,none):=by kernel_rfl
theorem a0h:say yd 4=some (some 8,.load 110 (.tmp 7),none):=by kernel_rfl
theorem a0i:say yd 5=some (some 9,.call { callee:=.value (.func 128),args:=#[.tmp 8,.const (.int .i64 32)],argTypes:=#[110,3] },none):=by kernel_rfl
theorem a2i:say yd 6=some (some 10,.call { callee:=.builtin .copy,args:=#[.tmp 4,.tmp 9],argTypes:=#[25,25] },none):=by kernel_rfl
def Vs1 (g Qb R:Nat) (r:Nat→Value):Nat→Value
 | 0=>.slice (some ⟨g,0,none⟩) 32 32
 | 1=>.pointer (some ⟨Qb,0,none⟩)
 | 2=>.pointer (some ⟨Qb,0,none⟩)
 | 3=>.pointer (some ⟨Qb,0,none⟩)
 | 4=>.pointer (some ⟨R,0,none⟩)
 | 5=>(r 1)
 | 6=>(r 2)
 | _=>undef
theorem regs1 (g Qb R:Nat) (F0 F1 F2:(Nat→Value)→World→Prop) (B:World→Prop)  (t0:Array Value) (wr:World) {Q:Exit→Act→World→Prop} (ht:t0.size=12) (h0:t0.getD 0 undef=.pointer (some ⟨Qb,0,none⟩)) (h3:t0.getD 3 undef=.pointer (some ⟨g,0,none⟩))
  (hb0:∀ r w,F0 r w→B w) (hb1:∀ r w,F1 r w→B w) (hb2:∀ r w,F2 r w→B w)
  (hc1:∀ r w,F0 r w→Calls Tryz.prog 128 #[.pointer (some ⟨R,0,none⟩),.int .i64 32] w fun e w'=>∃ u,e=.returned u∧F1 (ups r 1 u) w')
  (hx2:∀ r w,F1 r w→∃ u w',(Builtin.copy_ #[25,25] 3 #[.slice (some ⟨g,0,none⟩) 32 32,r 1]).run Tryz.prog w=.ok u w'∧F2 (ups r 2 u) w')
  (hl4:∀ w,B w→w.cell? ⟨Qb,0,none⟩=some (.pointer (some ⟨R,0,none⟩)))
  (hst0:∀ r,F0 r wr.drew)
  (hQ:∀ r w,F2 r w→Q .normal ⟨fold yd (Vs1 g Qb R r) t0 7,[]⟩ w):(Code.region 2 yd true).wp Tryz.prog Q ⟨t0,[]⟩ wr:=by
 have hB:dstB yd t0.size=true:=by rw [ht];kernel_rfl
 have hBB:∀ r done w,MC F0 [(6,F2),(5,F1)] r done w→B w:=fun r done w h=>MC.base hb0 (by simp only [List.mem_cons,List.not_mem_nil,or_false];rintro x (rfl | rfl)<;>assumption) h
 refine jL (by kernel_rfl) (IE yd (Vs1 g Qb R) t0 (MC F0 [(6,F2),(5,F1)] )) (by kernel_rfl) ⟨(fun _=>undef),t0,rfl,⟨rfl,fun _ _=>rfl,fun _ _ _ _ _ h=>by cases h⟩,MC.start (hst0 _)⟩ ?_ ?_
 rotate_left 1
 ·rintro done a w ⟨r,t,rfl,hS,hM⟩ hall
  rw [hS.end hB hall,l6]
  exact hQ r w (MC.get (hall 6 (by rw [l6];decide)) [] (by simp) hM)
 ·rintro jz op done a w ho ⟨r,t,rfl,hS,hM⟩ hnd hdep hcl
  have e0:=hS.ol h0
  have e3:=hS.ol h3
  have hlt:jz<7:=by rw [← l6];exact (ga ho).1
  match jz,hlt,ho,hnd,hdep with
  | 0,_,ho,hnd,hdep=>
   refine jM a0d r hB ho hS (hM.step (by rfl)) fun hop=>?_
   unfold execOp;simp [hop,e3,Vs1,kT g 0,go_sem]
  | 1,_,ho,hnd,hdep=>
   refine jM a0e r hB ho hS (hM.step (by rfl)) fun hop=>?_
   unfold execOp;simp [hop,e0,Vs1,go_sem]
  | 2,_,ho,hnd,hdep=>
   have x5:=hS.gt a0e ho hdep
   refine jM a0f r hB ho hS (hM.step (by rfl)) fun hop=>?_
   unfold execOp;simp [hop,x5,Vs1,go_sem]
  | 3,_,ho,hnd,hdep=>
   have x6:=hS.gt a0f ho hdep
   refine jM a0g r hB ho hS (hM.step (by rfl)) fun hop=>?_
   unfold execOp;simp [hop,x6,Vs1,go_sem]
  | 4,_,ho,hnd,hdep=>
   have x7:=hS.gt a0g ho hdep
   have cz:=hl4 w (hBB _ _ _ hM)
   refine jM a0h r hB ho hS (hM.step (by rfl)) fun hop=>?_
   unfold execOp;simp [hop,x7,Vs1,cz,go_sem]
  | 5,_,ho,hnd,hdep=>
   obtain ⟨hd,hop,hgd⟩:=jB a0i ho
   have x8:=hS.gt a0h ho hdep
   simp only [Vs1] at x8
   have ny6:done 6=false:=j8 (by kernel_rfl) hcl hnd
   have hF:=MC.get0 [(6,F2),(5,F1)] (by simp [hnd,ny6]) hM
   refine jb r 128 #[.pointer (some ⟨R,0,none⟩),.int .i64 32] hB ho (j0 hgd) hd hS ?_ ?_
   ·skip
    unfold execOp
    simp only [hop]
    simp [x8,go_sem]
   ·skip
    refine (hc1 r w hF).mono ?_
    rintro e w' ⟨u,rfl,hF'⟩
    refine ⟨ups r 1 u,?_,fun k hk=>?_,MC.put hF' [(6,F2)] (by simp [ny6])⟩
    ·simp only [Vs1,jA]
    ·skip
     have q5:k≠5:=fun e=>by rw [e,hnd] at hk;cases hk
     unfold Vs1
     split<;>first | rfl | exact absurd rfl q5
  | 6,_,ho,hnd,hdep=>
   obtain ⟨hd,hop,hgd⟩:=jB a2i ho
   have x4:=hS.gt a0d ho hdep
   simp only [Vs1] at x4
   have x9:=hS.gt a0i ho hdep
   simp only [Vs1] at x9
   have a5:done 5=true:=jy (j:=5) (by kernel_rfl) ho hdep
   have hF:=MC.get a5 [(6,F2)] (by simp [hnd]) hM
   obtain ⟨u9,w9,hr9,hF9⟩:=hx2 r w hF
   refine qM r (ups r 2 u9) w9 hB ho (j0 hgd) hd hS (fun k hk=>?_) (MC.put hF9 [] (by simp)) ?_
   ·skip
    have q6:k≠6:=fun e=>by rw [e,hnd] at hk;cases hk
    unfold Vs1
    split<;>first | rfl | exact absurd rfl q6
   ·show _=Result.ok (Next.value (Vs1 g Qb R (ups r 2 u9) 6)) _
    simp only [Vs1,jA]
    exact l5 (a:=⟨t,[]⟩) (v:=.slice (some ⟨g,0,none⟩) 32 32) (src:=r 1) (v':=u9) hop (by show t.getD 4 undef=_;rw [gd];exact x4) (by show t.getD 9 undef=_;rw [gd];exact x9) (by rw [show op.type=3 from by have:=congrArg (·.map (·.type)) ho;simpa using this.symm.trans (show _=some 3 from by kernel_rfl)];exact hr9)
theorem folds1 (g Qb R:Nat) (r:Nat→Value) (t0:Array Value):fold yd (Vs1 g Qb R r) t0 7=(((((((t0.setIfInBounds 4 (.slice (some ⟨g,0,none⟩) 32 32)).setIfInBounds 5 (.pointer (some ⟨Qb,0,none⟩))).setIfInBounds 6 (.pointer (some ⟨Qb,0,none⟩))).setIfInBounds 7 (.pointer (some ⟨Qb,0,none⟩))).setIfInBounds 8 (.pointer (some ⟨R,0,none⟩))).setIfInBounds 9 ((r 1))).setIfInBounds 10 ((r 2))):=by kernel_rfl
theorem yr {c:Rq} {r:Pv} {w:World} (h:PvAt c r w):
  Calls Tryz.prog 111 #[.pointer (some ⟨c.Q,0,none⟩)] w fun e w'=>e=.returned (.agg (hA (sumP c.l r).1))∧PvAt c (sumP c.l r).2 w'∧Kp c.own w w':=by
 have hz:(hA j7).size=32:=jG jC
 have hs32:(hA (sumP c.l r).1).size=32:=jG (qO _)
 obtain ⟨H,hH⟩:∃ H,hA (sumP c.l r).1=H:=⟨_,rfl⟩
 have h1H:H.all (·.oneCell')=true:=by rw [← hH];exact jn _
 rw [hH] at hs32 ⊢
 have HH:=hid (⟨hH,hs32,h1H⟩:_∧_∧_)
 have HI:=hid h
 clear hH hs32 h1H h
 go_enter Tryz.func111,Tryz.ntmps111
 go_upto_region 2 with (first
  | ((with_reducible refine qC 2 22 (hA j7) ?_ ?_ ?_ ?_ ?_);rfl;rfl;kernel_rfl;exact jv;intro w1 b1 H1)
  | ((with_reducible refine qC 3 22 (hA j7) ?_ ?_ ?_ ?_ ?_);rfl;rfl;kernel_rfl;exact jv;intro w2 b2 H2))
 have HB:Hid (Below w.heap.size w w2∧w2.heap[b1]?=some (.cells (hA j7) 22 (0,0))∧w.heap.size=b1∧b2=b1+1∧c.Q<b1):=by
  obtain ⟨a1,a2,a3,a4⟩:=H1.o
  obtain ⟨d1,d2,d3,d4⟩:=H2.o
  refine ⟨G.trans a2 d2,(d2.block b1 (by omega)).trans a3,a1,by omega,by have:=HI.o.Qlt;omega⟩
 have HV:=hid H2.o.2.2.1
 clear H1 H2
 refine regs1 b2 c.Q c.R (fun _ W=>PvAt c r W∧Kp (fun _=>False) w2 W) (fun r' W=>PvAt c (sumP c.l r).2 W∧Kp c.own w2 W∧Wi.Has W (r' 1) (Wi.rawB c.l r.s 32)) (fun _ W=>PvAt c (sumP c.l r).2 W∧Kp (fun b=>c.own b∨b=b2) w2 W∧W.heap[b2]?=some (.cells H 22 (0,0))) (fun W=>W.cell? ⟨c.Q,0,none⟩=some (.pointer (some ⟨c.R,0,none⟩))) _ w2 rfl rfl rfl (fun _ _ q=>q.1.cell0) (fun _ _ q=>q.1.cell0) (fun _ _ q=>q.1.cell0) ?c1 ?c2 (fun _ q=>q) ?c3 ?c4
 case c3=>exact fun _=>⟨(HI.o.up HB.o.1).up (G.drew _),Kp.of (G.drew _)⟩
 case c1=>
  rintro _ W ⟨q1,q2⟩
  refine (Wi.rN c.lo c.R 32 c.l r.s W q1.rd (by decide)).mono ?_
  rintro e W' ⟨u,rfl,g1,g2,g3⟩
  obtain ⟨p1,p2⟩:=q1.wire g1 g2
  exact ⟨u,rfl,p1,(q2.mono fun _ _ e=>e.elim).trans p2 fun _ _ e=>e,by rw [jA];exact g3.has⟩
 case c2=>
  rintro r' W ⟨q1,q2,q3⟩
  have hv:W.heap[b2]?=some (.cells (hA j7) 22 (0,0)):=(q2.block b2 (ga HV.o).1 fun e=>by have:=HB.o.2.2;have:=e.2;omega).trans HV.o
  obtain ⟨u,W',p1,p2,p3,_⟩:=copy32 b2 3 q3 (fY _ _) (qW c.hB _) hv
  refine ⟨u,W',p1,q1.kp p2 (fun b e q=>by have:=HB.o.2.2;have:=q.2;omega),(q2.mono fun b _ e=>Or.inl e).trans p2 fun b _ e=>.inr e,?_⟩
  rw [p3]
  congr 2
  exact HH.o.1
 case c4=>
  rintro r' W ⟨q1,q2,q3⟩
  rw [folds1]
  generalize r' 1=u1
  generalize r' 2=u2
  have hb1:W.heap[b1]?=some (.cells (hA j7) 22 (0,0)):=(q2.block b1 (ga HB.o.2.1).1 fun e=>by have:=HB.o.2.2;rcases e with e | e;have:=e.2;omega;omega).trans HB.o.2.1
  have HF:=hid (⟨q1,q2,q3,hb1⟩:_∧_∧_∧_)
  clear q1 q2 q3 hb1
  go_simp
  go_wp2_with (first
   | ((with_reducible refine jE 11 22 (.tmp 3) b2 0 H _ ?_ ?_ ?_ ?_ ?_ Tryz.underlying22 ?_ ?_ ?_);rfl;rfl;kernel_rfl;rfl;exact Lies.of_heap HF.o.2.2.1;rfl;exact (by rw [jK,HH.o.2.1]))
   | ((with_reducible refine qj 22 (.tmp 2) (.tmp 11) b1 H (hA j7) ?_ ?_ ?_ ?_ ?_ ?_ ?_ ?_ ?_ ?_);rfl;rfl;kernel_rfl;rfl;rfl;exact HF.o.2.2.2;exact (by rw [jK,HH.o.2.1]);exact hz.trans HH.o.2.1.symm;exact HH.o.2.2;intro w5 H5))
  refine bodyPost_ret (results_cell_row (P:=Tryz.prog) (p:=2) (ty:=22) rfl _ _ b1 22 H (0,0) _ rfl H5.o.2.1 Tryz.underlying22 rfl (by rw [jK,HH.o.2.1])) rfl ⟨rfl,?_,?_⟩
  ·exact HF.o.1.kp H5.o.1 fun b e q=>by have:=HB.o.2.2;have:=q.2;omega
  ·exact ((Kp.of HB.o.1).trans HF.o.2.1 fun b hb e=>e.elim id fun q=>by exfalso;have:=HB.o.2.2;omega).trans H5.o.1 fun b hb q=>by exfalso;have:=HB.o.2.2;omega
theorem ek70:Ek 70 22 32:=⟨Tryz.underlying70,by decide,by decide,.agg (hA j7),32,by rfl,by decide,by kernel_rfl⟩
def z123:Array Value:=#[.int .i64 0,.int .i64 0,.slice none 0 0]
theorem cH:(Tryz.prog.info? 123).bind (·.zero)=some (.agg z123):=by kernel_rfl
theorem zE:(Tryz.prog.info? 123).map (·.size)=some 3:=by kernel_rfl
theorem one3 (a b:Int) (p:Option Addr) (n k:Nat):(#[.int .i64 a,.int .i64 b,.slice p n k]:Array Value).all (·.oneCell')=true:=by simp [Value.oneCell']
def SpAt (w:World) (lo:Nat) (c:Array Value) (p:Sp):Prop:=∃ a n k,c=#[.int .i64 (p.count:Int),.int .i64 (p.place:Int),.slice a n k]∧OwL 22 32 w lo (.slice a n k) (p.sib.map hA)∧∀ x∈p.sib,x.length=32
theorem OwL.ty {eT s:Nat} {w:World} {lo:Nat} {v:Value} {L:List (Array Value)} (h:OwL eT s w lo v L) {b:Nat} (hb:v.ownBlock=some b):∃ cs,w.heap[b]?=some (.cells cs eT (0,0)):=by
 obtain ⟨_,⟨rfl,_⟩ | ⟨g,cp,cur,rfl,_,rh,_⟩⟩:=h.own
 ·cases hb
 ·have:g=b:=by simpa [Value.ownBlock] using hb
  subst this
  exact ⟨cur,rh⟩
theorem SpAt.keep {w w':World} {lo:Nat} {c:Array Value} {p:Sp} (h:SpAt w lo c p) (hk:∀ b cs,lo≤b→w.heap[b]?=some (.cells cs 22 (0,0))→w'.heap[b]?=w.heap[b]?):SpAt w' lo c p:=by
 obtain ⟨a,n,k,h1,h2,h3⟩:=h
 exact ⟨a,n,k,h1,h2.block fun b hb=>by obtain ⟨cs,q⟩:=OwL.ty h2 hb;exact hk b cs (h2.lt b hb).1 q,h3⟩
theorem SpAt.up {w w':World} {lo:Nat} {c:Array Value} {p:Sp} (h:SpAt w lo c p) (hb:G w w'):SpAt w' lo c p:=h.keep fun b _ _ q=>hb.block b (ga q).1
theorem SpAt.mono {w:World} {lo lo':Nat} {c:Array Value} {p:Sp} (h:SpAt w lo c p) (hl:lo'≤lo):SpAt w lo' c p:=by
 obtain ⟨a,n,k,h1,h2,h3⟩:=h
 exact ⟨a,n,k,h1,h2.mono hl,h3⟩
theorem SpAt.size {w:World} {lo:Nat} {c:Array Value} {p:Sp} (h:SpAt w lo c p):c.size=3:=by obtain ⟨a,n,k,rfl,_⟩:=h;rfl
theorem SpAt.one {w:World} {lo:Nat} {c:Array Value} {p:Sp} (h:SpAt w lo c p):c.all (·.oneCell')=true:=by obtain ⟨a,n,k,rfl,_⟩:=h;exact one3 _ _ _ _ _
theorem bh (l:List Int):∀ (n:Nat) (r:Pv),kQ l (n+1) r=((kQ l n r).1++[(sumP l (kQ l n r).2).1],(sumP l (kQ l n r).2).2)
 | 0,r=>rfl
 | n+1,r=>by
  rw [kQ,bh l n (sumP l r).2]
  rfl
structure SpI (c:Rq) (w:World) (b1 b2:Nat) (cnt plc:Int) (r:Pv) (sv:Value) (L:List (Array Value)) (W:World):Prop where
 pv:PvAt c r W
 t:W.heap[b2]?=some (.cells #[.int .i64 cnt,.int .i64 plc,sv] 123 (0,0))
 z:W.heap[b1]?=some (.cells z123 123 (0,0))
 ow:OwL 22 32 W w.heap.size sv L
 kp:Kp c.own w W
 q1:c.Q<b1
 q2:b2=b1+1
 q0:b1=w.heap.size
theorem SpI.kept {c:Rq} {w:World} {b1 b2:Nat} {cnt plc:Int} {r r':Pv} {sv:Value} {L:List (Array Value)} {W W':World} (h:SpI c w b1 b2 cnt plc r sv L W) (hp:PvAt c r' W') (hk:Kp c.own W W'):SpI c w b1 b2 cnt plc r' sv L W':=by
 have n1:=h.q1
 have n2:=h.q2
 have n0:=h.q0
 have hQ:=h.pv.Qlt
 refine ⟨hp,(hk.block b2 (ga h.t).1 fun e=>by have:=e.2;omega).trans h.t,(hk.block b1 (ga h.z).1 fun e=>by have:=e.2;omega).trans h.z,h.ow.block fun b hb=>hk.block b (h.ow.lt b hb).2 fun e=>by have:=e.2;have:=(h.ow.lt b hb).1;omega,h.kp.trans hk fun b _ e=>e,h.q1,h.q2,h.q0⟩
theorem SpI.cell {c:Rq} {w:World} {b1 b2:Nat} {cnt plc:Int} {r:Pv} {sv:Value} {L:List (Array Value)} {W:World} (h:SpI c w b1 b2 cnt plc r sv L W):W.cell? ⟨b2,2,none⟩=some sv:=by rw [j9 h.t];rfl
noncomputable abbrev yR:Array Oper:=kS Tryz.f110 7
theorem l9:yR.size=8:=by kernel_rfl
theorem a0j:say yR 0=some (some 23,.fieldAddr 123 (.tmp 7) 2,none):=by kernel_rfl
theorem a0k:say yR 1=some (some 24,.load 70 (.tmp 23),none):=by kernel_rfl
theorem a0l:say yR 2=some (some 25,.move (.tmp 0),none):=by kernel_rfl
theorem a0m:say yR 3=some (some 26,.call { callee:=.value (.func 111),args:=#[.tmp 25],argTypes:=#[109] },none):=by kernel_rfl
theorem a0n:say yR 4=some (some 27,.buildSlice 70 1 #[(0,.tmp 26)],none):=by kernel_rfl
theorem a0o:say yR 5=some (some 28,.call { callee:=.builtin .append,args:=#[.tmp 24,.tmp 27],argTypes:=#[70,70] },none):=by kernel_rfl
theorem a0p:say yR 6=some (some 29,.fieldAddr 123 (.tmp 7) 2,none):=by kernel_rfl
theorem a2j:say yR 7=some (none,.store 70 (.tmp 29) (.tmp 28),none):=by kernel_rfl
def Vp7 (T Qb:Nat) (sv:Value) (r:Nat→Value):Nat→Value
 | 0=>.pointer (some ⟨T,2,none⟩)
 | 1=>sv
 | 2=>.pointer (some ⟨Qb,0,none⟩)
 | 3=>(r 1)
 | 4=>(r 2)
 | 5=>(r 3)
 | 6=>.pointer (some ⟨T,2,none⟩)
 | 7=>undef
 | _=>undef
theorem regp7 (T Qb:Nat) (sv:Value) (F0 F1 F2 F3 F4:(Nat→Value)→World→Prop) (B:World→Prop)  (t0:Array Value) (wr:World) {Q:Exit→Act→World→Prop} (ht:t0.size=32) (h0:t0.getD 0 undef=.pointer (some ⟨Qb,0,none⟩)) (h7:t0.getD 7 undef=.pointer (some ⟨T,0,none⟩))
  (hb0:∀ r w,F0 r w→B w) (hb1:∀ r w,F1 r w→B w) (hb2:∀ r w,F2 r w→B w) (hb3:∀ r w,F3 r w→B w)
  (hc1:∀ r w,F0 r w→Calls Tryz.prog 111 #[.pointer (some ⟨Qb,0,none⟩)] w fun e w'=>∃ u,e=.returned u∧F1 (ups r 1 u) w')
  (hs2:∀ r w,F1 r w→(r 1).cells.size=32∧F2 (ups r 2 (.slice (some ⟨w.heap.size,0,none⟩) 1 1)) (w.alloc (.cells (r 1).cells 22)))
  (ha3:∀ r w,F2 r w→∃ u w',(Builtin.append_ #[70,70] 70 #[sv,r 2]).run Tryz.prog w=.ok u w'∧F3 (ups r 3 u) w')
  (hw4:∀ r w,F3 r w→(∃ o,w.cell? ⟨T,2,none⟩=some o)∧w.frozen? ⟨T,2,none⟩=false∧(∃ a n k,(r 3)=.slice a n k)∧F4 r (w.setCell ⟨T,2,none⟩ (r 3)))
  (hl1:∀ w,B w→w.cell? ⟨T,2,none⟩=some (sv))
  (hst0:∀ r,F0 r wr.drew)
  (hQ:∀ r w,F4 r w→Q .normal ⟨fold yR (Vp7 T Qb sv r) t0 8,[]⟩ w):(Code.region 7 yR true).wp Tryz.prog Q ⟨t0,[]⟩ wr:=by
 have hB:dstB yR t0.size=true:=by rw [ht];kernel_rfl
 have hBB:∀ r done w,MC F0 [(5,F3),(4,F2),(3,F1)] r done w→B w:=fun r done w h=>MC.base hb0 (by simp only [List.mem_cons,List.not_mem_nil,or_false];rintro x (rfl | rfl | rfl)<;>assumption) h
 refine jL (by kernel_rfl) (IE yR (Vp7 T Qb sv) t0 (MC F0 [(7,F4),(5,F3),(4,F2),(3,F1)] )) (by kernel_rfl) ⟨(fun _=>undef),t0,rfl,⟨rfl,fun _ _=>rfl,fun _ _ _ _ _ h=>by cases h⟩,MC.start (hst0 _)⟩ ?_ ?_
 rotate_left 1
 ·rintro done a w ⟨r,t,rfl,hS,hM⟩ hall
  rw [hS.end hB hall,l9]
  exact hQ r w (MC.get (hall 7 (by rw [l9];decide)) [] (by simp) hM)
 ·rintro jz op done a w ho ⟨r,t,rfl,hS,hM⟩ hnd hdep hcl
  have e0:=hS.ol h0
  have e7:=hS.ol h7
  have hlt:jz<8:=by rw [← l9];exact (ga ho).1
  match jz,hlt,ho,hnd,hdep with
  | 0,_,ho,hnd,hdep=>
   refine jM a0j r hB ho hS (hM.step (by rfl)) fun hop=>?_
   unfold execOp;simp [hop,e7,Vp7,go_sem]
  | 1,_,ho,hnd,hdep=>
   have x23:=hS.gt a0j ho hdep
   have ny7:done 7=false:=j8 (by kernel_rfl) hcl hnd
   have cz:=hl1 w (hBB _ _ _ (MC.cut [(7,F4)] (by simp [ny7]) hM))
   refine jM a0k r hB ho hS (hM.step (by rfl)) fun hop=>?_
   unfold execOp;simp [hop,x23,Vp7,cz,go_sem]
  | 2,_,ho,hnd,hdep=>
   refine jM a0l r hB ho hS (hM.step (by rfl)) fun hop=>?_
   unfold execOp;simp [hop,e0,Vp7,go_sem]
  | 3,_,ho,hnd,hdep=>
   obtain ⟨hd,hop,hgd⟩:=jB a0m ho
   have x25:=hS.gt a0l ho hdep
   simp only [Vp7] at x25
   have ny4:done 4=false:=j8 (by kernel_rfl) hcl hnd
   have ny5:done 5=false:=j8 (by kernel_rfl) hcl hnd
   have ny7:done 7=false:=j8 (by kernel_rfl) hcl hnd
   have hF:=MC.get0 [(7,F4),(5,F3),(4,F2),(3,F1)] (by simp [hnd,ny4,ny5,ny7]) hM
   refine jb r 111 #[.pointer (some ⟨Qb,0,none⟩)] hB ho (j0 hgd) hd hS ?_ ?_
   ·skip
    unfold execOp
    simp only [hop]
    simp [x25,go_sem]
   ·skip
    refine (hc1 r w hF).mono ?_
    rintro e w' ⟨u,rfl,hF'⟩
    refine ⟨ups r 1 u,?_,fun k hk=>?_,MC.put hF' [(7,F4),(5,F3),(4,F2)] (by simp [ny4,ny5,ny7])⟩
    ·simp only [Vp7,jA]
    ·skip
     have q3:k≠3:=fun e=>by rw [e,hnd] at hk;cases hk
     unfold Vp7
     split<;>first | rfl | exact absurd rfl q3
  | 4,_,ho,hnd,hdep=>
   obtain ⟨hd,hop,hgd⟩:=jB a0n ho
   have x26:=hS.gt a0m ho hdep
   simp only [Vp7] at x26
   have ny5:done 5=false:=j8 (by kernel_rfl) hcl hnd
   have ny7:done 7=false:=j8 (by kernel_rfl) hcl hnd
   have a3:done 3=true:=jy (j:=3) (by kernel_rfl) ho hdep
   have hF:=MC.get a3 [(7,F4),(5,F3),(4,F2)] (by simp [hnd,ny5,ny7]) hM
   refine qM r (ups r 2 (.slice (some ⟨w.heap.size,0,none⟩) 1 1)) (w.alloc (.cells (r 1).cells 22)) hB ho (j0 hgd) hd hS (fun k hk=>?_) (MC.put (hs2 r w hF).2 [(7,F4),(5,F3)] (by simp [ny5,ny7])) ?_
   ·skip
    have q4:k≠4:=fun e=>by rw [e,hnd] at hk;cases hk
    unfold Vp7
    split<;>first | rfl | exact absurd rfl q4
   ·show _=Result.ok (Next.value (Vp7 T Qb sv (ups r 2 (.slice (some ⟨w.heap.size,0,none⟩) 1 1)) 4)) _
    simp only [Vp7,jA]
    exact jf ek70 _ hop _ _ (by show t.getD 26 undef=_;rw [gd];exact x26) rfl (hs2 r w hF).1 w _ rfl
  | 5,_,ho,hnd,hdep=>
   obtain ⟨hd,hop,hgd⟩:=jB a0o ho
   have x24:=hS.gt a0k ho hdep
   simp only [Vp7] at x24
   have x27:=hS.gt a0n ho hdep
   simp only [Vp7] at x27
   have ny7:done 7=false:=j8 (by kernel_rfl) hcl hnd
   have a4:done 4=true:=jy (j:=4) (by kernel_rfl) ho hdep
   have hF:=MC.get a4 [(7,F4),(5,F3)] (by simp [hnd,ny7]) hM
   obtain ⟨u9,w9,hr9,hF9⟩:=ha3 r w hF
   have ht9:op.type=70:=by have:=congrArg (·.map (·.type)) ho;simpa using this.symm.trans (show _=some 70 from by kernel_rfl)
   refine qM r (ups r 3 u9) w9 hB ho (j0 hgd) hd hS (fun k hk=>?_) (MC.put hF9 [(7,F4)] (by simp [ny7])) ?_
   ·skip
    have q5:k≠5:=fun e=>by rw [e,hnd] at hk;cases hk
    unfold Vp7
    split<;>first | rfl | exact absurd rfl q5
   ·show _=Result.ok (Next.value (Vp7 T Qb sv (ups r 3 u9) 5)) _
    simp only [Vp7,jA]
    exact qc (a:=⟨t,[]⟩) (v:=sv) (src:=r 2) (v':=u9) hop (by show t.getD 24 undef=_;rw [gd];exact x24) (by show t.getD 27 undef=_;rw [gd];exact x27) (by rw [ht9];exact hr9)
  | 6,_,ho,hnd,hdep=>
   refine jM a0p r hB ho hS (hM.step (by rfl)) fun hop=>?_
   unfold execOp;simp [hop,e7,Vp7,go_sem]
  | 7,_,ho,hnd,hdep=>
   obtain ⟨hd,hop,hgd⟩:=jB a2j ho
   have x29:=hS.gt a0p ho hdep
   simp only [Vp7] at x29
   have x28:=hS.gt a0o ho hdep
   simp only [Vp7] at x28
   have a5:done 5=true:=jy (j:=5) (by kernel_rfl) ho hdep
   have hF:=MC.get a5 [(7,F4)] (by simp [hnd]) hM
   obtain ⟨⟨o9,ho9⟩,hf9,⟨a9,n9,k9,e9⟩,hF9⟩:=hw4 r w hF
   refine qh (w':=w.setCell ⟨T,2,none⟩ (r 3)) r ho (j0 hgd) hd hS (MC.put hF9 [] (by simp)) ?_
   unfold execOp;simp [hop,x29,x28,ho9,hf9,e9,go_sem]
theorem foldp7 (T Qb:Nat) (sv:Value) (r:Nat→Value) (t0:Array Value):fold yR (Vp7 T Qb sv r) t0 8=(((((((t0.setIfInBounds 23 (.pointer (some ⟨T,2,none⟩))).setIfInBounds 24 (sv)).setIfInBounds 25 (.pointer (some ⟨Qb,0,none⟩))).setIfInBounds 26 ((r 1))).setIfInBounds 27 ((r 2))).setIfInBounds 28 ((r 3))).setIfInBounds 29 (.pointer (some ⟨T,2,none⟩))):=by kernel_rfl
theorem SpI.app {c:Rq} {w:World} {b1 b2:Nat} {cnt plc:Int} {r:Pv} {sv:Value} {L:List (Array Value)} {W:World} (h:SpI c w b1 b2 cnt plc r sv L W) (ty:TypeId) (Z:Array Value) (hZ:Z.size=32) (hZ1:Z.all (·.oneCell')=true) (hl:L.length+1≤100000000):
  ∃ u W',(Builtin.append_ #[70,70] ty #[sv,.slice (some ⟨W.heap.size,0,none⟩) 1 1]).run Tryz.prog (W.alloc (.cells Z 22))=.ok u W'∧PvAt c r W'∧W'.heap[b2]?=some (.cells #[.int .i64 cnt,.int .i64 plc,sv] 123 (0,0))∧W'.heap[b1]?=some (.cells z123 123 (0,0))∧OwL 22 32 W' w.heap.size u (L++[Z])∧Kp c.own w W':=by
 have hs:=h.kp.size
 have n1:=h.q1
 have n2:=h.q2
 have n0:=h.q0
 obtain ⟨u,W',a1,a2,a3,a4⟩:=zy ek70 ty Z hZ hZ1 h.ow hs hl _ rfl
 have hne:∀ (b:Nat) (cs:Array Value) (T:TypeId),W.heap[b]?=some (Obj.cells cs T (0,0))→T≠22→W'.heap[b]?=W.heap[b]?:=fun b cs T q qT=>a3.block b (ga q).1 fun e=>by
  obtain ⟨cs',q'⟩:=OwL.ty h.ow e.symm
  rw [q] at q'
  cases q'
  exact qT rfl
 have hlow:∀ b,b<w.heap.size→W'.heap[b]?=W.heap[b]?:=fun b hb=>a3.block b (by omega) fun e=>by have:=(h.ow.lt b e.symm).1;omega
 refine ⟨u,W',a1,h.pv.keep fun b q=>hlow b (by have:=q.2;omega),(hne b2 _ _ h.t (by decide)).trans h.t,(hne b1 _ _ h.z (by decide)).trans h.z,a2,h.kp.trans (Kp.grown a3) fun b hb e=>?_⟩
 have:=(h.ow.lt b e).1
 omega
theorem fZ {c:Rq} {r:Pv} {w:World} (h:PvAt c r w) (count place:Nat) (hc:count≤1048576) (hp:place≤1048576):
  Calls Tryz.prog 110 #[.pointer (some ⟨c.Q,0,none⟩),.int .i64 (count:Int),.int .i64 (place:Int)] w fun e w'=>∃ cs,e=.returned (.agg cs)∧SpAt w' w.heap.size cs (kg c.l count place r).1∧PvAt c (kg c.l count place r).2 w'∧Kp c.own w w':=by
 have HI:=hid h
 have hQ:=h.Qlt
 clear h
 by_cases hcp:count≤place
 ·have hcI:(count:Int)≤place:=by omega
  have hsp:kg c.l count place r=(⟨count,place,[]⟩,⟨r.s,true⟩):=by unfold kg;rw [if_pos hcp]
  rw [hsp]
  go_enter Tryz.func110,Tryz.ntmps110
  go_wp2_with (first
   | ((with_reducible refine qC 6 123 z123 ?_ ?_ ?_ ?_ ?_);rfl;rfl;kernel_rfl;exact cH;intro w1 b1 H1)
   | ((with_reducible refine qC 7 123 z123 ?_ ?_ ?_ ?_ ?_);rfl;rfl;kernel_rfl;exact cH;intro w2 b2 H2)
   | ((with_reducible refine qj 123 (.tmp 7) (.tmp 10) b2 (#[.int .i64 (count:Int),.int .i64 (place:Int),.slice none 0 0]:Array Value) z123 ?_ ?_ ?_ ?_ ?_ ?_ ?_ ?_ ?_ ?_);rfl;rfl;kernel_rfl;rfl;rfl;exact H2.o.2.2.1;exact zE;exact rfl;exact (one3 _ _ _ _ _);intro w3 H3;have HX:Hid (PvAt c r w3∧Kp c.own w w3∧w3.heap[b1]?=some (.cells z123 123 (0,0))∧c.Q<b1∧b2=b1+1∧b1=w.heap.size):=by (obtain ⟨p1,p2,p3,p4⟩:=H1.o;obtain ⟨q1,q2,q3,q4⟩:=H2.o;obtain ⟨t1,t2,t3⟩:=H3.o;exact ⟨((HI.o.up p2).up q2).kp t1 (fun b e q=>by have:=q.2;omega),(Kp.of (G.trans p2 q2)).trans t1 (fun b hb e=>by exfalso;omega),(t1.block b1 (by omega) (by omega)).trans ((q2.block b1 (by omega)).trans p3),by omega,by omega,p1.symm⟩))
   | ((with_reducible refine xP 4 (.tmp 16) (.const (.bool true)) c.Q 1 (.bool true) 113 #[.pointer (some ⟨c.R,0,none⟩),.bool r.bad] ?_ ?_ ?_ ?_ ?_ ?_);rfl;rfl;kernel_rfl;(have hc9:=(show w3.cell? ⟨c.Q,1,none⟩=some (.bool r.bad) by rw [j9 HX.o.1.q];rfl);have hf9:=(show w3.frozen? ⟨c.Q,1,none⟩=false by simp [World.frozen?,HX.o.1.q]);unfold execOp;simp [hc9,hf9,go_sem]);exact HX.o.1.q;intro w4 H4;have HY:Hid (PvAt c ⟨r.s,true⟩ w4∧Kp c.own w3 w4):=HX.o.1.set H4.o.1 (by rw [H4.o.2.1];rfl);have HT:Hid (w4.heap[b2]?=some (.cells #[.int .i64 (count:Int),.int .i64 (place:Int),.slice none 0 0] 123 (0,0))∧w4.heap[b1]?=some (.cells z123 123 (0,0))):=⟨(HY.o.2.block b2 (ga H3.o.2.1).1 fun e=>by have:=e.2;have:=HX.o.2.2.2;omega).trans H3.o.2.1,(HY.o.2.block b1 (ga HX.o.2.2.1).1 fun e=>by have:=e.2;have:=HX.o.2.2.2;omega).trans HX.o.2.2.1⟩)
   | ((with_reducible refine jE 17 123 (.tmp 7) b2 0 (#[.int .i64 (count:Int),.int .i64 (place:Int),.slice none 0 0]:Array Value) _ ?_ ?_ ?_ ?_ ?_ Tryz.underlying123 ?_ ?_ ?_);rfl;rfl;kernel_rfl;rfl;exact Lies.of_heap HT.o.1;rfl;exact zE)
   | ((with_reducible refine qj 123 (.tmp 6) (.tmp 17) b1 (#[.int .i64 (count:Int),.int .i64 (place:Int),.slice none 0 0]:Array Value) z123 ?_ ?_ ?_ ?_ ?_ ?_ ?_ ?_ ?_ ?_);rfl;rfl;kernel_rfl;rfl;rfl;exact HT.o.2;exact zE;exact rfl;exact (one3 _ _ _ _ _);intro w9 H9))
  refine bodyPost_ret (results_cell_row (P:=Tryz.prog) (p:=6) (ty:=123) rfl _ _ b1 123 _ (0,0) _ rfl H9.o.2.1 Tryz.underlying123 rfl zE) rfl ⟨_,rfl,⟨none,0,0,rfl,OwL.nil _ _ _ _,by simp⟩,?_,?_⟩
  ·exact HY.o.1.kp H9.o.1 fun b e q=>by have:=q.2;have:=HX.o.2.2.2;omega
  ·exact (HX.o.2.1.trans HY.o.2 fun _ _ e=>e).trans H9.o.1 fun b hb e=>by exfalso;have:=HX.o.2.2.2;omega
 ·have hcI:¬ (count:Int)≤place:=by omega
  have hsp:kg c.l count place r=(⟨count,place,(kQ c.l (hgt count place) r).1⟩,(kQ c.l (hgt count place) r).2):=by unfold kg;rw [if_neg hcp]
  rw [hsp]
  have hle:=xz 20 count place (by simpa using hc)
  have CH:=fun W=>gg count place W hc hp
  obtain ⟨n,hn⟩:∃ n,hgt count place=n:=⟨_,rfl⟩
  rw [hn] at hle CH ⊢
  clear hn hsp
  go_enter Tryz.func110,Tryz.ntmps110
  go_upto_region 6 with (first
   | ((with_reducible refine qC 6 123 z123 ?_ ?_ ?_ ?_ ?_);rfl;rfl;kernel_rfl;exact cH;intro w1 b1 H1)
   | ((with_reducible refine qC 7 123 z123 ?_ ?_ ?_ ?_ ?_);rfl;rfl;kernel_rfl;exact cH;intro w2 b2 H2)
   | ((with_reducible refine qj 123 (.tmp 7) (.tmp 10) b2 (#[.int .i64 (count:Int),.int .i64 (place:Int),.slice none 0 0]:Array Value) z123 ?_ ?_ ?_ ?_ ?_ ?_ ?_ ?_ ?_ ?_);rfl;rfl;kernel_rfl;rfl;rfl;exact H2.o.2.2.1;exact zE;exact rfl;exact (one3 _ _ _ _ _);intro w3 H3;have HX:Hid (SpI c w b1 b2 count place r (.slice none 0 0) [] w3):=by (obtain ⟨p1,p2,p3,p4⟩:=H1.o;obtain ⟨q1,q2,q3,q4⟩:=H2.o;obtain ⟨t1,t2,t3⟩:=H3.o;exact ⟨((HI.o.up p2).up q2).kp t1 (fun b e q=>by have:=q.2;omega),t2,(t1.block b1 (by omega) (by omega)).trans ((q2.block b1 (by omega)).trans p3),OwL.nil _ _ _ _,(Kp.of (G.trans p2 q2)).trans t1 (fun b hb e=>by exfalso;omega),by omega,by omega,p1.symm⟩))
   | (go_at_call 127;refine (CH w3).mono ?_;rintro e w4 ⟨rfl,rfl⟩))
  go_loopw [21] (fun i wr=>∃ k:Nat,i=.int .i64 (k:Int)∧k≤n∧Hid (∃ a m cp,SpI c w b1 b2 count place (kQ c.l k r).2 (.slice a m cp) ((kQ c.l k r).1.map hA) wr)) (fun i _=>n-iOf i)
  case atStart=>exact ⟨0,rfl,by omega,none,0,0,HX.o⟩
  case round=>
   clear H1 H2 H3 HX
   obtain ⟨k,rfl,hk,HR⟩:=hrel
   by_cases hkn:k<n
   ·have hkI:(k:Int)<n:=by omega
    obtain ⟨a,m,cp,hR⟩:=HR.o
    go_upto_region 7 with fail
    have hlen:=ah c.l k r
    have hsn:=bh c.l k r
    generalize kQ c.l k r=S at *
    obtain ⟨SL,Sr⟩:=S
    simp only at hR hlen hsn
    refine regp7 b2 c.Q (.slice a m cp) (fun _ W=>SpI c w b1 b2 count place Sr (.slice a m cp) (SL.map hA) W) (fun r' W=>SpI c w b1 b2 count place (sumP c.l Sr).2 (.slice a m cp) (SL.map hA) W∧r' 1=.agg (hA (sumP c.l Sr).1))
     (fun r' W=>∃ W0,SpI c w b1 b2 count place (sumP c.l Sr).2 (.slice a m cp) (SL.map hA) W0∧W=W0.alloc (.cells (hA (sumP c.l Sr).1) 22)∧r' 2=.slice (some ⟨W0.heap.size,0,none⟩) 1 1)
     (fun r' W=>PvAt c (sumP c.l Sr).2 W∧W.heap[b2]?=some (.cells #[.int .i64 (count:Int),.int .i64 (place:Int),.slice a m cp] 123 (0,0))∧W.heap[b1]?=some (.cells z123 123 (0,0))∧OwL 22 32 W w.heap.size (r' 3) ((SL++[(sumP c.l Sr).1]).map hA)∧Kp c.own w W)
     (fun r' W=>SpI c w b1 b2 count place (sumP c.l Sr).2 (r' 3) ((SL++[(sumP c.l Sr).1]).map hA) W)
     (fun W=>W.cell? ⟨b2,2,none⟩=some (.slice a m cp)) _ wr rfl rfl rfl (fun _ _ q=>q.cell) (fun _ _ q=>q.1.cell) ?b2 ?b3 ?c1 ?c2 ?c3 ?c4 (fun _ q=>q) ?c5 ?c6
    case b2=>
     rintro _ W ⟨W0,q,rfl,_⟩
     exact (G.alloc W0 _).cell q.cell
    case b3=>
     rintro _ W ⟨_,q,_⟩
     rw [j9 q];rfl
    case c5=>exact fun _=>hR.kept (hR.pv.up (G.drew _)) (Kp.of (G.drew _))
    case c1=>
     intro r' W q
     refine (yr q.pv).mono ?_
     rintro e W' ⟨rfl,g1,g2⟩
     exact ⟨_,rfl,q.kept g1 g2,by rw [jA]⟩
    case c2=>
     rintro r' W ⟨q,e1⟩
     rw [e1]
     refine ⟨jG (qO _),W,q,rfl,by rw [jA]⟩
    case c3=>
     rintro r' W ⟨W0,q,rfl,e2⟩
     rw [e2]
     obtain ⟨u,W',p1,p2,p3,p4,p5,p6⟩:=q.app 70 (hA (sumP c.l Sr).1) (jG (qO _)) (jn _) (by rw [List.length_map,hlen];omega)
     refine ⟨u,W',p1,p2,p3,p4,?_,p6⟩
     rw [jA,List.map_append]
     exact p5
    case c4=>
     rintro r' W ⟨p2,p3,p4,p5,p6⟩
     have n1:=hR.q1
     have n2:=hR.q2
     have n0:=hR.q0
     refine ⟨⟨_,by rw [j9 p3];rfl⟩,by simp [World.frozen?,p3],(by obtain ⟨p,k,e⟩:=p5.form;exact ⟨_,_,_,e⟩),?_⟩
     have hk:=Kp.set W b2 2 (r' 3)
     refine ⟨p2.kp hk (fun b e q=>by have:=q.2;omega),jI _ p3,(hk.block b1 (ga p4).1 (by omega)).trans p4,p5.block fun b hb=>hk.block b (p5.lt b hb).2 fun e=>?_,p6.trans hk (fun b hb e=>by exfalso;omega),n1,n2,n0⟩
     obtain ⟨cs,q'⟩:=OwL.ty p5 hb
     rw [e,p3] at q'
     cases q'
    case c6=>
     intro r' W q
     rw [foldp7]
     have HF:Hid (∃ a m cp,SpI c w b1 b2 count place (kQ c.l (k+1) r).2 (.slice a m cp) ((kQ c.l (k+1) r).1.map hA) W):=by
      obtain ⟨a',cp',e⟩:=q.ow.form
      rw [e] at q
      rw [hsn]
      exact ⟨_,_,_,q⟩
     clear q hR hlen hsn
     generalize r' 1=u1
     generalize r' 2=u2
     generalize r' 3=u3
     go_simp
     go_wp2_with fail
     go_roundw
     case rel=>exact ⟨k+1,by go_num,by omega,HF.o⟩
     case measure=>simp;omega
   ·have hkI:¬ (k:Int)<n:=by omega
    have hkn2:k=n:=by omega
    subst hkn2
    obtain ⟨a,m,cp,hR⟩:=HR.o
    obtain ⟨CC,hCC⟩:∃ CC:Array Value,CC=#[.int .i64 (count:Int),.int .i64 (place:Int),.slice a m cp]:=⟨_,rfl⟩
    have HC:Hid (CC.size=3∧CC.all (·.oneCell')=true):=by rw [hCC];exact ⟨rfl,one3 _ _ _ _ _⟩
    have HT:=hid hR.t
    rw [← hCC] at HT
    have HD:=hid hCC
    have HRR:=hid hR
    clear hCC hR HR
    go_wp2_with (first
     | ((with_reducible refine jE 31 123 (.tmp 7) b2 0 CC _ ?_ ?_ ?_ ?_ ?_ Tryz.underlying123 ?_ ?_ ?_);rfl;rfl;kernel_rfl;rfl;exact Lies.of_heap HT.o;rfl;exact (by rw [zE,HC.o.1]))
     | ((with_reducible refine qj 123 (.tmp 6) (.tmp 31) b1 CC z123 ?_ ?_ ?_ ?_ ?_ ?_ ?_ ?_ ?_ ?_);rfl;rfl;kernel_rfl;rfl;rfl;exact HRR.o.z;exact (by rw [zE,HC.o.1]);exact HC.o.1.symm;exact HC.o.2;intro w9 H9))
    refine bodyPost_ret (results_cell_row (P:=Tryz.prog) (p:=6) (ty:=123) rfl _ _ b1 123 CC (0,0) _ rfl H9.o.2.1 Tryz.underlying123 rfl (by rw [zE,HC.o.1])) rfl ⟨CC,rfl,⟨a,m,cp,HD.o,?_,fw _ _ _⟩,?_,?_⟩
    ·exact HRR.o.ow.block fun b hb=>H9.o.1.block b (HRR.o.ow.lt b hb).2 fun e=>by
      obtain ⟨cs,q'⟩:=OwL.ty HRR.o.ow hb
      rw [e,HRR.o.z] at q'
      cases q'
    ·exact HRR.o.pv.kp H9.o.1 fun b e q=>by have:=q.2;have:=HRR.o.q1;omega
    ·exact HRR.o.kp.trans H9.o.1 fun b hb e=>by exfalso;have:=HRR.o.q0;omega
end Go.Proofs.YtdeanahpiigonaaGreatDoor
