import Derived.Test.YtdeanahpiigonaaGreatDoorWRaw2
import Derived.Deep.AppendLies
import Derived.Deep.RegionHeld3
set_option maxRecDepth 100000
set_option maxHeartbeats 1600000
namespace Go.Proofs.YtdeanahpiigonaaGreatDoor.Wi
open Go.RowKit Wire
theorem ez (i:Nat) (w:World) (hi:i≤1000000):
  Calls Tryz.prog 64 #[.int .i64 i] w fun e w'=>e=.returned (.int .i64 (if i%2=0 then -7701 else -7702))∧w'=w:=by
 by_cases c:i%2=0
 ·rw [if_pos c]
  go_enter Tryz.func64,Tryz.ntmps64
  go_wp2
  go_ret
  exact ⟨rfl,rfl⟩
 ·rw [if_neg c]
  go_enter Tryz.func64,Tryz.ntmps64
  go_wp2
  go_ret
  exact ⟨rfl,rfl⟩
theorem za (n:Nat) (w:World) (hn:n<18446744073709551616):
  Calls Tryz.prog 76 #[.int .u64 n] w fun e w'=>∃ v,e=.returned v∧Owns w' w.heap.size v (enc n)∧Below w.heap.size w w':=by
 obtain ⟨i0,hi,hz0,hz1,hz2⟩:=info_parts Tryz.info5
 have hlen:=yn hn
 go_enter Tryz.func76,Tryz.ntmps76
 go_wp2
 go_loopw [0,3] (fun x v wr=>∃ (m:Nat) (l:List Int),m<18446744073709551616∧x=.int .u64 m∧l++enc m=enc n∧wr.ownsRow w.heap.size 5 1 v l.length (l.map (Value.int .u8))∧Below w.heap.size w wr) (fun x _ _=>(intOf x).toNat)
 case atStart=>exact ⟨n,[],hn,rfl,rfl,World.ownsRow_nil _ _ _ _,Below.refl _ _⟩
 case round=>
  obtain ⟨m,l,hm,rfl,hl,hown,hb⟩:=hrel
  have hll:l.length+(enc m).length=(enc n).length:=by rw [← hl];simp
  have hep:=oF m
  have HL:Hid (l++enc m=enc n):=hl
  have hlt10:l.length<10:=by omega
  clear hl hll
  by_cases hlt:m<128
  ·go_wp2_with (at_builtin;refine wpList_append_own _ rfl _ _ 25 rfl w.heap.size 5 i0 (.int .u8 0) 1 1 Tryz.underlying25 hi hz0 hz1 hz2 rfl (by decide) _ _ _ rfl (hown.alloc _) ⟨wr.heap.size,0,none⟩ 1 1 [.int .u8 m] rfl rfl ?c1 ?c2 ?c3 ?c4 ?c5 ?_)
   case c1=>exact kw
   case c2=>intro u hu;simp at hu;subst hu;rfl
   case c3=>unfold maxLen;omega
   case c4=>omega
   case c5=>have:=hb.size;simp;omega
   intro v' w1 hown' hgrow _
   have R:∃ v,Ending.returned v'=.returned v∧Owns w1 w.heap.size v (enc n)∧Below w.heap.size w w1:=by
    refine ⟨v',rfl,?_,kx hb (fun k hk=>(hown.lt k hk).1) hgrow⟩
    rw [← HL.out,dt hlt]
    unfold Owns
    simpa using hown'
   clear hown' hgrow hown
   go_wp2
   go_ret
   exact R
  ·go_wp2_with (at_builtin;refine wpList_append_own _ rfl _ _ 25 rfl w.heap.size 5 i0 (.int .u8 0) 1 1 Tryz.underlying25 hi hz0 hz1 hz2 rfl (by decide) _ _ _ rfl (hown.alloc _) ⟨wr.heap.size,0,none⟩ 1 1 [.int .u8 ((m:Int)%128+128)] rfl rfl ?c1 ?c2 ?c3 ?c4 ?c5 ?_)
   case c1=>exact kw
   case c2=>intro u hu;simp at hu;subst hu;rfl
   case c3=>unfold maxLen;omega
   case c4=>omega
   case c5=>have:=hb.size;simp;omega
   intro v' w1 hown' hgrow _
   have R1:w1.ownsRow w.heap.size 5 1 v' (l++[((m%128+128:Nat):Int)]).length ((l++[((m%128+128:Nat):Int)]).map (Value.int .u8)):=by
    simpa using hown'
   have R2:=kx hb (fun k hk=>(hown.lt k hk).1) hgrow
   have R3:Hid ((l++[((m%128+128:Nat):Int)])++enc (m/128)=enc n):=by
    have h:=HL.out
    rw [du hlt] at h
    show (l++_)++_=_
    rw [← h,List.append_assoc];rfl
   clear hown' hgrow hown
   go_wp2
   go_roundw
   case rel=>exact ⟨m/128,_,by omega,by go_num,R3.out,R1,R2⟩
   case measure=>simp [intOf];omega
def RfS (w:World) (lo M:Nat) (l:List Int) (s:St):Prop:=
 ∃ v,w.heap[M]?=some (.cells #[v,.int .i64 s.p,.int .i64 s.fe,.int .i64 s.fa] 67 (0,0))∧Owns w lo v l∧(∀ k,v.ownBlock=some k→k<M)∧lo≤M∧s.p≤l.length∧l.length≤1048576
theorem qZ {w:World} {R:Nat} {c0 c1 c2 c3:Value} (h:w.heap[R]?=some (.cells #[c0,c1,c2,c3] 67 (0,0))):
  w.cell? ⟨R,0,none⟩=some c0∧w.cell? ⟨R,1,none⟩=some c1∧w.cell? ⟨R,2,none⟩=some c2∧w.cell? ⟨R,3,none⟩=some c3∧(∀ o,w.frozen? ⟨R,o,none⟩=false):=by
 refine ⟨?_,?_,?_,?_,?_⟩<;>simp [World.cell?,World.frozen?,h]
theorem RfS.lt {w:World} {lo R:Nat} {l:List Int} {s:St} (h:RfS w lo R l s):R<w.heap.size:=by
 obtain ⟨v,hh,_⟩:=h
 exact (ga hh).1
theorem RfS.kept {w w':World} {lo R:Nat} {l:List Int} {s:St} (h:RfS w lo R l s) (hb:∀ k,lo≤k→k≤R→w'.heap[k]?=w.heap[k]?):RfS w' lo R l s:=by
 obtain ⟨v,hh,ho,hk,hl,hr⟩:=h
 exact ⟨v,(hb R hl (Nat.le_refl _)).trans hh,ho.block (fun k e=>hb k (ho.lt k e).1 (Nat.le_of_lt (hk k e))),hk,hl,hr⟩
theorem RfS.drewN {w:World} {lo R:Nat} {l:List Int} {s:St} (h:RfS w lo R l s) (n:Nat):RfS (w.drewN n) lo R l s:=h.kept fun _ _ _=>rfl
theorem xG (w:World) (n:Nat) (r:Option Nat):w.grownBy (w.drewN n) r:=⟨rfl,rfl,rfl,Nat.le_refl _,fun _ _ _=>rfl⟩
theorem qR (lo M:Nat) (l:List Int) (s:St) (P E:Int) (w:World) (hr:RfS w lo M l s):
  Calls Tryz.prog 48 #[.pointer (some ⟨M,0,none⟩),.int .i64 P,.int .i64 E] w fun e w'=>e=.returned (.tuple #[])∧RfS w' lo M l ⟨s.p,P,E⟩∧w.grownBy w' (some M):=by
 obtain ⟨v,hh,ho,hk,hl,hp,hn⟩:=hr
 obtain ⟨h0,h1,h2,h3,hfz⟩:=qZ hh
 have hg:w.grownBy ((w.setCell ⟨M,2,none⟩ (.int .i64 E)).setCell ⟨M,3,none⟩ (.int .i64 P)) (some M):=jj (qK _ _ _ _) (qK _ _ _ _)
 have F:RfS ((w.setCell ⟨M,2,none⟩ (.int .i64 E)).setCell ⟨M,3,none⟩ (.int .i64 P)) lo M l ⟨s.p,P,E⟩:=by
  refine ⟨v,?_,ho.block fun k e=>hg.block k (ho.lt k e).2 (fun e'=>by have:=hk k e;simp at e';omega),hk,hl,hp,hn⟩
  have q1:=jI (o:=2) (.int .i64 E) hh
  have q2:=jI (o:=3) (.int .i64 P) q1
  rw [q2];rfl
 clear hh ho hk h0 h1
 go_enter Tryz.func48,Tryz.ntmps48
 go_wp2
 go_end0
 exact ⟨rfl,F,hg⟩
theorem fU (vb:Value) (b:List Int) (w:World) (hb:Has w vb b) (hlen:b.length≤1048576):
  Calls Tryz.prog 16 #[vb] w fun e w'=>∃ R,e=.returned (.pointer (some ⟨R,0,none⟩))∧w.heap.size≤R∧RfS w' w.heap.size R b ⟨0,0,0⟩∧Below w.heap.size w w':=by
 obtain ⟨ao,cap,hv,_⟩:=hb.form
 subst hv
 go_enter Tryz.func16,Tryz.ntmps16
 go_wp2_with (at_builtin;refine jd rfl (.tmp 4) (.tmp 5) rfl w.heap.size _ _ [] b rfl rfl (Owns.nil _ _) hb (by simp;omega) (Nat.le_refl _) ?_)
 intro v1 w1 ho1 hb1
 obtain ⟨ao1,cp1,hv1,_⟩:=ho1.has.form
 subst hv1
 have hb2:Below w1.heap.size w1 (w1.alloc (.cells #[.slice ao1 b.length cp1,.int .i64 0,.int .i64 0,.int .i64 0] 67)):=(Below.refl _ _).alloc (Nat.le_refl _) _
 have R1:RfS (w1.alloc (.cells #[.slice ao1 b.length cp1,.int .i64 0,.int .i64 0,.int .i64 0] 67)) w.heap.size w1.heap.size b ⟨0,0,0⟩:=
  ⟨_,heap_alloc_new w1 _,ho1.below hb2 (Nat.le_refl _),fun k hk=>(ho1.lt k hk).2,hb1.size,Nat.zero_le _,hlen⟩
 have R2:=Below.up hb1 hb2
 have R3:=hb1.size
 clear hb2 ho1 hb1 hb
 go_wp2
 go_ret
 exact ⟨_,rfl,R3,R1,R2⟩
theorem zi (lo M:Nat) (l:List Int) (s:St) (w:World) (hr:RfS w lo M l s):
  Calls Tryz.prog 52 #[.pointer (some ⟨M,0,none⟩)] w fun e w'=>e=.returned (.tuple #[])∧RfS w' lo M l (endS l s)∧w.grownBy w' (some M):=by
 have HR:Hid (RfS w lo M l s):=hr
 obtain ⟨p,fa,fe⟩:=s
 obtain ⟨v,hh,ho,hk,hl,hp,hn⟩:=hr
 obtain ⟨ao,cap,hv,hcap⟩:=ho.has.form
 subst hv
 obtain ⟨h0,h1,h2,h3,hfz⟩:=qZ hh
 simp only at h1 h2 h3 hp
 clear hh ho hk
 by_cases hf:fe=0
 ·subst hf
  by_cases hpl:p<l.length
  ·have e1:endS l ⟨p,fa,0⟩=⟨p,p,13⟩:=by simp [endS,hpl]
   rw [e1]
   go_enter Tryz.func52,Tryz.ntmps52
   go_wp2_with fail
   go_quiet (fail)
   go_wp2_with (go_at_call 48;refine (qR lo M l _ _ _ _ (RfS.drewN HR.out _)).mono ?_;rintro e w1 ⟨rfl,hr1,hg1⟩)
   go_end0
   exact ⟨rfl,hr1,⟨hg1.os,hg1.tape,hg1.output,hg1.size,hg1.block⟩⟩
  ·have e1:endS l ⟨p,fa,0⟩=⟨p,fa,0⟩:=by simp [endS,hpl]
   rw [e1]
   go_enter Tryz.func52,Tryz.ntmps52
   go_wp2_with fail
   go_quiet (fail)
   go_wp2
   go_end0
   exact ⟨rfl,RfS.drewN HR.out _,xG _ _ _⟩
 ·have e1:endS l ⟨p,fa,fe⟩=⟨p,fa,fe⟩:=by simp [endS,hf]
  rw [e1]
  have hfb:(fe==0)=false:=by simpa using hf
  go_enter Tryz.func52,Tryz.ntmps52
  go_wp2_with fail
  go_quiet (fail)
  go_wp2
  go_end0
  exact ⟨rfl,RfS.drewN HR.out _,xG _ _ _⟩
theorem bL (s:ByteArray) (w:World) (hs:s.size≤100000):
  Calls Tryz.prog 57 #[.string s] w fun e w'=>∃ v,e=.returned v∧Owns w' w.heap.size v (enc s.size++strB s)∧Below w.heap.size w w':=by
 obtain ⟨i0,hi,hz0,hz1,hz2⟩:=info_parts Tryz.info5
 have hlen:=yn (show s.size<18446744073709551616 by omega)
 go_enter Tryz.func57,Tryz.ntmps57
 go_wp2_with (go_at_call 76;refine (za s.size _ (by omega)).mono ?_;rintro e w1 ⟨v1,rfl,ho1,hb1⟩;obtain ⟨ao1,cp1,hv1,_⟩:=ho1.has.form;subst hv1)
 go_loopw [3,4] (fun v i wr=>∃ k:Nat,k≤s.size∧i=.int .i64 k∧Owns wr w.heap.size v (enc s.size++(strB s).take k)∧Below w.heap.size w wr) (fun _ i _=>s.size-(intOf i).toNat)
 case atStart=>exact ⟨0,Nat.zero_le _,rfl,by simpa using ho1,hb1⟩
 case round=>
  obtain ⟨k,hk,rfl,hown,hb⟩:=hrel
  by_cases hlt:k<s.size
  ·have hbl:(enc s.size++(strB s).take k).length≤100010:=by simp [z7];omega
   have hnx:Hid ((strB s).take (k+1)=(strB s).take k++[((s[k]'hlt).toNat:Int)]):=by
    show _=_
    have hl:k<(strB s).length:=by rw [z7];exact hlt
    have hd:=dx s k hlt
    rw [List.take_add_one,gl hl]
    simp [List.getD,hl] at hd
    simp [hd]
    rfl
   go_wp2_with (at_builtin;refine wpList_append_own _ rfl _ _ 25 rfl w.heap.size 5 i0 (.int .u8 0) 1 1 Tryz.underlying25 hi hz0 hz1 hz2 rfl (by decide) _ _ _ rfl (World.ownsRow.alloc hown _) ⟨wr.heap.size,0,none⟩ 1 1 [.int .u8 ((s[k]'hlt).toNat:Int)] rfl rfl ?c1 ?c2 ?c3 ?c4 ?c5 ?_)
   case c1=>exact kw
   case c2=>intro u hu;simp at hu;subst hu;rfl
   case c3=>unfold maxLen;omega
   case c4=>omega
   case c5=>have:=hb.size;simp;omega
   intro v' w2 hown' hgrow _
   have R1:Owns w2 w.heap.size v' (enc s.size++(strB s).take (k+1)):=by
    rw [hnx.out,← List.append_assoc]
    unfold Owns
    simpa [Nat.add_assoc] using hown'
   have R2:=kx hb (fun k hk=>(hown.lt k hk).1) hgrow
   clear hown' hgrow hown
   go_wp2
   go_roundw
   case rel=>exact ⟨k+1,by omega,by go_num,R1,R2⟩
   case measure=>simp [intOf];omega
  ·rw [List.take_of_length_le (by rw [z7];omega)] at hown
   go_wp2
   go_ret
   exact ⟨_,rfl,hown,hb⟩
theorem a2h {w:World} {lo e:Nat} {v:Value} {xs:List Value} (h:w.ownsRow lo e 1 v xs.length xs) {j:Nat} (hj:j<xs.length):
  ∃ g cap,v=.slice (some ⟨g,0,none⟩) xs.length cap∧w.cell? ⟨g,j,none⟩=some (xs[j]):=by
 have h0:=h
 obtain ⟨_,h | ⟨g,cap,cur,hv,hg,hh,hn,hm,hs,ht⟩⟩:=h
 ·obtain ⟨rfl,hl⟩:=h
  omega
 ·subst hv
  have q:=World.ownsRow.cells h0 (g:=g) rfl j _ (gl hj)
  rw [add0] at q
  exact ⟨g,cap,rfl,q⟩
theorem dA {w w':World} {R:Nat} (h:w'.heap[R]?=w.heap[R]?) (hf:∀ o,w.frozen? ⟨R,o,none⟩=false):∀ o,w'.frozen? ⟨R,o,none⟩=false:=by
  intro o
  have:=hf o
  simp only [World.frozen?,h] at this ⊢
  exact this
theorem setB {w:World} {R o b:Nat} {x:Value} (h:b≠R):(w.setCell ⟨R,o,none⟩ x).heap[b]?=w.heap[b]?:=by
  simp only [World.setCell]
  rw [Array.getElem?_modify]
  simp [Ne.symm h]
theorem row_form {w:World} {lo e n:Nat} {v:Value} {xs:List Value} (h:w.ownsRow lo e 1 v n xs):∃ o c,v=.slice o n c:=by
  obtain ⟨_,h | ⟨g,cap,cur,hv,_⟩⟩:=h
  · exact ⟨none,0,by rw [h.1,h.2]⟩
  · exact ⟨_,cap,hv⟩
theorem zj {w:World} {ops:Array Oper} {o:Oper} {a:Act} {J:Act→World→Prop} {Q:Exit→Act→World→Prop} {E:Prop} (hgd:o.guard=none) (s x:Operand)
    (ho:o.op=.call { callee:=.builtin .append,args:=#[s,x],argTypes:=#[25,25] })
    (lo:Nat) (v vx:Value) (l:List Int) (hs:a.eval s=v) (hx:a.eval x=vx) (hown:Owns w lo v []) (hhas:Has w vx l) (hlen:l.length≤1048576) (hbase:lo≤w.heap.size)
    (h:∀ p c w',Owns w' lo (.slice p l.length c) l→Below lo w w'→J (a.put o.dst (.slice p l.length c)) w'):
    if Region.wanted o (yielded ops a.tmps)=true then Oper.wp Tryz.prog o a w J Q else E:=by
  have hw:Region.wanted o (yielded ops a.tmps)=true:=by simp [Region.wanted,hgd]
  rw [if_pos hw]
  have h':∀ v' w',Owns w' lo v' l→Below lo w w'→J (a.put o.dst v') w':=fun v' w' h1 h2=>by
    obtain ⟨p,c,rfl⟩:=row_form h1
    exact h p c w' h1 h2
  obtain ⟨i0,hi,hz0,hz1,hz2⟩:=info_parts Tryz.info5
  rcases hhas with ⟨rfl,rfl⟩ | ⟨ad,cap,rfl,hc,hcell⟩
  · have hr:=run_append_owned_none (P:=Tryz.prog) w lo 25 o.type 5 i0 1 Tryz.underlying25 hi v 0 [] hown
    unfold Oper.wp execOp
    simp only [ho,resolve,invoke,builtin,Sem.run_bind,Sem.run_pure,Result.andThen_ok,List.map_toArray,List.map_cons,List.map_nil,hs,hx,hr]
    exact h' v w hown (Below.refl _ _)
  · refine wp_append_own w s x 25 ho lo 5 i0 (.int .u8 0) 1 1 Tryz.underlying25 hi hz0 hz1 hz2 rfl (by decide) v 0 [] hs hown ad l.length cap (l.map (Value.int .u8)) hx (by simp) ?_ ?_ ?_ ?_ hbase ?_
    · intro j u hj
      have hjl:j<l.length:=by
        have:=(List.getElem?_eq_some_iff.1 hj).1
        simpa using this
      rw [hcell j hjl]
      simpa [List.getD,gl hjl] using hj
    · intro u hu;obtain ⟨x,_,rfl⟩:=List.mem_map.1 hu;rfl
    · unfold maxLen;omega
    · omega
    · intro v' w' h1 h2 _
      refine h' v' w' ?_ ((Below.refl lo w).grown h2 hbase fun k hk=>(World.ownsRow.lt hown k hk).1)
      unfold Owns
      simpa using h1
theorem RfS.at {w wa:World} {lo M:Nat} {l:List Int} {p:Nat} {fa fe:Int} {v:Value} (hh:w.heap[M]?=some (.cells #[v,.int .i64 p,.int .i64 fe,.int .i64 fa] 67 (0,0))) (ho:Owns w lo v l) (hk:∀ k,v.ownBlock=some k→k<M) (hl:lo≤M) (hn:l.length≤1048576)
    (hb:Below w.heap.size w wa) (x:Int) (p':Nat) (hx:x=p') (hp:p'≤l.length):
    RfS (wa.setCell ⟨M,1,none⟩ (.int .i64 x)) lo M l ⟨p',fa,fe⟩∧w.grownBy (wa.setCell ⟨M,1,none⟩ (.int .i64 x)) (some M):=by
  have hlt:M<w.heap.size:=(ga hh).1
  have hg:w.grownBy (wa.setCell ⟨M,1,none⟩ (.int .i64 x)) (some M):=jj (qP _ hb) (qK _ _ _ _)
  refine ⟨⟨v,?_,ho.block fun k e=>hg.block k (ho.lt k e).2 (fun e'=>by have:=hk k e;simp at e';omega),hk,hl,hp,hn⟩,hg⟩
  have h2:=jI (o:=1) (.int .i64 x) ((hb.block M hlt).trans hh)
  rw [h2,hx]
  rfl
theorem oM (lo M:Nat) (n:Int) (l:List Int) (p:Nat) (fa:Int) (w:World) (hr:RfS w lo M l ⟨p,fa,0⟩) (hn:-9223372036854775808≤n∧n≤9223372036854775807):
    Calls Tryz.prog 46 #[.pointer (some ⟨M,0,none⟩),.int .i64 n] w fun e w'=>∃ v,e=.returned v∧RfS w' lo M l (rawS l ⟨p,fa,0⟩ n)∧w.grownBy w' (some M)∧Owns w' w.heap.size v (rawB l ⟨p,fa,0⟩ n):=by
  have HR:Hid (RfS w lo M l ⟨p,fa,0⟩):=hr
  obtain ⟨v,hh,ho,hk,hl,hp,hn'⟩:=hr
  obtain ⟨ao,cap,hv,hcap⟩:=ho.has.form
  subst hv
  simp only at hh hp
  obtain ⟨h0,h1,h2,h3,hfz⟩:=qZ hh
  have hlt:M<w.heap.size:=(ga hh).1
  have HO:Hid (Owns w lo (.slice ao l.length cap) l):=ho
  have HK:Hid (∀ k,(Value.slice ao l.length cap).ownBlock=some k→k<M):=hk
  have HH:Hid (w.heap[M]?=some (.cells #[.slice ao l.length cap,.int .i64 p,.int .i64 0,.int .i64 fa] 67 (0,0))):=hh
  clear hh ho hk h3
  by_cases hneg:n<0
  · have hmn:n.toNat=0:=by omega
    by_cases hlen:l.length<p+0
    · omega
    · have e1:rawS l ⟨p,fa,0⟩ n=⟨p+0,fa,0⟩:=by simp [rawS,hmn]<;>omega
      have e2:rawB l ⟨p,fa,0⟩ n=(l.drop p).take (0):=by simp [rawB,hmn]<;>omega
      rw [e1,e2]
      obtain ⟨cc,ecc⟩:∃ cc,(l.drop p).take (0)=cc:=⟨_,rfl⟩
      rw [ecc]
      have HEC:Hid ((l.drop p).take (0)=cc):=ecc
      have hcc:cc.length≤1048576:=by rw [← ecc,List.length_take,List.length_drop];omega
      clear e1 e2 hmn ecc
      go_enter Tryz.func46,Tryz.ntmps46
      go_wp2_with fail
      go_quiet (fail)
      go_wp2_with fail
      obtain ⟨w1,ew⟩:∃ w1,w.drewN nq=w1:=⟨_,rfl⟩
      rw [ew]
      have b1:Below w.heap.size w w1:=by rw [← ew];exact ⟨rfl,rfl,rfl,Nat.le_refl _,fun _ _=>rfl⟩
      have s1:w1.heap.size=w.heap.size:=by rw [← ew];rfl
      have d0:w1.cell? ⟨M,0,none⟩=some (.slice ao l.length cap):=(b1.cell hlt).trans h0
      have d1:w1.cell? ⟨M,1,none⟩=some (.int .i64 p):=(b1.cell hlt).trans h1
      have HX:Hid (Has w1 (.slice ao l.length cap) l):=HO.out.has.below b1
      have HB1:Hid (Below w.heap.size w w1):=b1
      have HS1:Hid (w1.heap.size=w.heap.size):=s1
      clear ew b1 s1 h0 h1 h2
      by_cases hcp:cap=p
      · subst hcp
        have q0:(0:Int)≤(cap:Int):=by omega
        have q1:(cap:Int)≤(cap:Int):=by omega
        have q2:(cap:Int)≤(cap:Int):=by omega
        have q3:IntKind.i64.wrap (cap:Int)=(cap:Int):=by rw [IntKind.wrap_i64];omega
        have q4:((cap:Int)).toNat-cap=0:=by omega
        have HC:Hid (Has w1.drew (.slice ao (0) 0) cc):=by
          rw [← HEC.out]
          exact Has.block ((HX.out.cut cap (0) (by omega) hcap).1 rfl) fun _ _=>rfl
        go_region_held3 (fun w'=>w'.cell? ⟨M,0,none⟩=some (.slice ao l.length cap)∧w'.cell? ⟨M,1,none⟩=some (.int .i64 cap)) (first | go_keep | (exact ⟨by assumption,by assumption⟩))
          (first
          | (refine zj rfl _ _ rfl w1.heap.size _ _ cc rfl rfl (Owns.nil _ _) HC.out hcc (Nat.le_refl _) ?_
             intro pa ka wa hoa hba
             have ba:Below w.heap.size w wa:=Below.up HB1.out (((Below.refl _ w1).drew).trans hba)
             have e0:wa.cell? ⟨M,0,none⟩=some (.slice ao l.length cap):=((((Below.refl _ w1).drew).trans hba).cell (by rw [HS1.out];exact hlt)).trans d0
             have e1:wa.cell? ⟨M,1,none⟩=some (.int .i64 cap):=((((Below.refl _ w1).drew).trans hba).cell (by rw [HS1.out];exact hlt)).trans d1
             have HBA:Hid (Below w.heap.size w wa):=ba
             have HOA:Hid (Owns wa w.heap.size (.slice pa cc.length ka) cc):=by rw [HS1.out] at hoa;exact hoa
             clear ba hba hoa))
        have ff:∀ o,wa.frozen? ⟨M,o,none⟩=false:=dA (HBA.out.block M hlt) hfz
        have FN:=RfS.at HH.out HO.out HK.out hl hn' HBA.out (cap:Int) (cap+0) (by simp) (by omega)
        have HF1:Hid _:=FN.1
        have HF2:Hid _:=FN.2
        have HF3:Hid (Owns (wa.setCell ⟨M,1,none⟩ (.int .i64 (cap:Int))) w.heap.size (.slice pa cc.length ka) cc):=HOA.out.block fun b hb=>setB (by have:=(HOA.out.lt b hb).1;omega)
        clear FN
        go_wp2
        go_ret
        exact ⟨_,rfl,HF1.out,HF2.out,HF3.out⟩
      · have hcp2:(cap=p)=False:=by simpa using hcp
        have q0:(0:Int)≤(p:Int):=by omega
        have q1:(p:Int)≤(p:Int):=by omega
        have q2:(p:Int)≤(cap:Int):=by omega
        have q3:IntKind.i64.wrap (p:Int)=(p:Int):=by rw [IntKind.wrap_i64];omega
        have q4:((p:Int)).toNat-p=0:=by omega
        have HC:Hid (Has w1.drew (.slice (Option.map (fun x=>x.add p) ao) (0) (cap-p)) cc):=by
          rw [← HEC.out]
          exact Has.block ((HX.out.cut p (0) (by omega) hcap).2 hcp) fun _ _=>rfl
        go_region_held3 (fun w'=>w'.cell? ⟨M,0,none⟩=some (.slice ao l.length cap)∧w'.cell? ⟨M,1,none⟩=some (.int .i64 p)) (first | go_keep | (exact ⟨by assumption,by assumption⟩))
          (first
          | (refine zj rfl _ _ rfl w1.heap.size _ _ cc rfl rfl (Owns.nil _ _) HC.out hcc (Nat.le_refl _) ?_
             intro pa ka wa hoa hba
             have ba:Below w.heap.size w wa:=Below.up HB1.out (((Below.refl _ w1).drew).trans hba)
             have e0:wa.cell? ⟨M,0,none⟩=some (.slice ao l.length cap):=((((Below.refl _ w1).drew).trans hba).cell (by rw [HS1.out];exact hlt)).trans d0
             have e1:wa.cell? ⟨M,1,none⟩=some (.int .i64 p):=((((Below.refl _ w1).drew).trans hba).cell (by rw [HS1.out];exact hlt)).trans d1
             have HBA:Hid (Below w.heap.size w wa):=ba
             have HOA:Hid (Owns wa w.heap.size (.slice pa cc.length ka) cc):=by rw [HS1.out] at hoa;exact hoa
             clear ba hba hoa))
        have ff:∀ o,wa.frozen? ⟨M,o,none⟩=false:=dA (HBA.out.block M hlt) hfz
        have FN:=RfS.at HH.out HO.out HK.out hl hn' HBA.out (p:Int) (p+0) (by simp) (by omega)
        have HF1:Hid _:=FN.1
        have HF2:Hid _:=FN.2
        have HF3:Hid (Owns (wa.setCell ⟨M,1,none⟩ (.int .i64 (p:Int))) w.heap.size (.slice pa cc.length ka) cc):=HOA.out.block fun b hb=>setB (by have:=(HOA.out.lt b hb).1;omega)
        clear FN
        go_wp2
        go_ret
        exact ⟨_,rfl,HF1.out,HF2.out,HF3.out⟩
  · obtain ⟨m,rfl⟩:∃ m:Nat,n=(m:Int):=⟨n.toNat,by omega⟩
    have hmn:((m:Int)).toNat=m:=by simp
    by_cases hlen:l.length<p+m
    · have e1:rawS l ⟨p,fa,0⟩ (m:Int)=⟨p,l.length,10⟩:=by simp [rawS,hmn]<;>omega
      have e2:rawB l ⟨p,fa,0⟩ (m:Int)=[]:=by simp [rawB,hmn]<;>omega
      rw [e1,e2]
      clear e1 e2 hmn
      go_enter Tryz.func46,Tryz.ntmps46
      go_wp2_with fail
      go_quiet (fail)
      go_wp2_with (go_at_call 48;refine (qR lo M l _ _ _ _ (RfS.drewN HR.out _)).mono ?_;rintro e w1 ⟨rfl,hr1,hg1⟩)
      go_ret
      exact ⟨_,rfl,hr1,⟨hg1.os,hg1.tape,hg1.output,hg1.size,hg1.block⟩,Owns.nil _ _⟩
    · have e1:rawS l ⟨p,fa,0⟩ (m:Int)=⟨p+m,fa,0⟩:=by simp [rawS,hmn]<;>omega
      have e2:rawB l ⟨p,fa,0⟩ (m:Int)=(l.drop p).take (m):=by simp [rawB,hmn]<;>omega
      rw [e1,e2]
      obtain ⟨cc,ecc⟩:∃ cc,(l.drop p).take (m)=cc:=⟨_,rfl⟩
      rw [ecc]
      have HEC:Hid ((l.drop p).take (m)=cc):=ecc
      have hcc:cc.length≤1048576:=by rw [← ecc,List.length_take,List.length_drop];omega
      clear e1 e2 hmn ecc
      go_enter Tryz.func46,Tryz.ntmps46
      go_wp2_with fail
      go_quiet (fail)
      go_wp2_with fail
      obtain ⟨w1,ew⟩:∃ w1,w.drewN nq=w1:=⟨_,rfl⟩
      rw [ew]
      have b1:Below w.heap.size w w1:=by rw [← ew];exact ⟨rfl,rfl,rfl,Nat.le_refl _,fun _ _=>rfl⟩
      have s1:w1.heap.size=w.heap.size:=by rw [← ew];rfl
      have d0:w1.cell? ⟨M,0,none⟩=some (.slice ao l.length cap):=(b1.cell hlt).trans h0
      have d1:w1.cell? ⟨M,1,none⟩=some (.int .i64 p):=(b1.cell hlt).trans h1
      have HX:Hid (Has w1 (.slice ao l.length cap) l):=HO.out.has.below b1
      have HB1:Hid (Below w.heap.size w w1):=b1
      have HS1:Hid (w1.heap.size=w.heap.size):=s1
      clear ew b1 s1 h0 h1 h2
      by_cases hcp:cap=p
      · subst hcp
        have q0:(0:Int)≤(cap:Int):=by omega
        have q1:(cap:Int)≤(cap:Int)+(m:Nat):=by omega
        have q2:(cap:Int)+(m:Nat)≤(cap:Int):=by omega
        have q3:IntKind.i64.wrap ((cap:Int)+(m:Nat))=(cap:Int)+(m:Nat):=by rw [IntKind.wrap_i64];omega
        have q4:((cap:Int)+(m:Nat)).toNat-cap=m:=by omega
        have HC:Hid (Has w1.drew (.slice ao (m) 0) cc):=by
          rw [← HEC.out]
          exact Has.block ((HX.out.cut cap (m) (by omega) hcap).1 rfl) fun _ _=>rfl
        go_region_held3 (fun w'=>w'.cell? ⟨M,0,none⟩=some (.slice ao l.length cap)∧w'.cell? ⟨M,1,none⟩=some (.int .i64 cap)) (first | go_keep | (exact ⟨by assumption,by assumption⟩))
          (first
          | (refine zj rfl _ _ rfl w1.heap.size _ _ cc rfl rfl (Owns.nil _ _) HC.out hcc (Nat.le_refl _) ?_
             intro pa ka wa hoa hba
             have ba:Below w.heap.size w wa:=Below.up HB1.out (((Below.refl _ w1).drew).trans hba)
             have e0:wa.cell? ⟨M,0,none⟩=some (.slice ao l.length cap):=((((Below.refl _ w1).drew).trans hba).cell (by rw [HS1.out];exact hlt)).trans d0
             have e1:wa.cell? ⟨M,1,none⟩=some (.int .i64 cap):=((((Below.refl _ w1).drew).trans hba).cell (by rw [HS1.out];exact hlt)).trans d1
             have HBA:Hid (Below w.heap.size w wa):=ba
             have HOA:Hid (Owns wa w.heap.size (.slice pa cc.length ka) cc):=by rw [HS1.out] at hoa;exact hoa
             clear ba hba hoa))
        have ff:∀ o,wa.frozen? ⟨M,o,none⟩=false:=dA (HBA.out.block M hlt) hfz
        have FN:=RfS.at HH.out HO.out HK.out hl hn' HBA.out ((cap:Int)+(m:Int)) (cap+m) (by simp) (by omega)
        have HF1:Hid _:=FN.1
        have HF2:Hid _:=FN.2
        have HF3:Hid (Owns (wa.setCell ⟨M,1,none⟩ (.int .i64 ((cap:Int)+(m:Int)))) w.heap.size (.slice pa cc.length ka) cc):=HOA.out.block fun b hb=>setB (by have:=(HOA.out.lt b hb).1;omega)
        clear FN
        go_wp2
        go_ret
        exact ⟨_,rfl,HF1.out,HF2.out,HF3.out⟩
      · have hcp2:(cap=p)=False:=by simpa using hcp
        have q0:(0:Int)≤(p:Int):=by omega
        have q1:(p:Int)≤(p:Int)+(m:Nat):=by omega
        have q2:(p:Int)+(m:Nat)≤(cap:Int):=by omega
        have q3:IntKind.i64.wrap ((p:Int)+(m:Nat))=(p:Int)+(m:Nat):=by rw [IntKind.wrap_i64];omega
        have q4:((p:Int)+(m:Nat)).toNat-p=m:=by omega
        have HC:Hid (Has w1.drew (.slice (Option.map (fun x=>x.add p) ao) (m) (cap-p)) cc):=by
          rw [← HEC.out]
          exact Has.block ((HX.out.cut p (m) (by omega) hcap).2 hcp) fun _ _=>rfl
        go_region_held3 (fun w'=>w'.cell? ⟨M,0,none⟩=some (.slice ao l.length cap)∧w'.cell? ⟨M,1,none⟩=some (.int .i64 p)) (first | go_keep | (exact ⟨by assumption,by assumption⟩))
          (first
          | (refine zj rfl _ _ rfl w1.heap.size _ _ cc rfl rfl (Owns.nil _ _) HC.out hcc (Nat.le_refl _) ?_
             intro pa ka wa hoa hba
             have ba:Below w.heap.size w wa:=Below.up HB1.out (((Below.refl _ w1).drew).trans hba)
             have e0:wa.cell? ⟨M,0,none⟩=some (.slice ao l.length cap):=((((Below.refl _ w1).drew).trans hba).cell (by rw [HS1.out];exact hlt)).trans d0
             have e1:wa.cell? ⟨M,1,none⟩=some (.int .i64 p):=((((Below.refl _ w1).drew).trans hba).cell (by rw [HS1.out];exact hlt)).trans d1
             have HBA:Hid (Below w.heap.size w wa):=ba
             have HOA:Hid (Owns wa w.heap.size (.slice pa cc.length ka) cc):=by rw [HS1.out] at hoa;exact hoa
             clear ba hba hoa))
        have ff:∀ o,wa.frozen? ⟨M,o,none⟩=false:=dA (HBA.out.block M hlt) hfz
        have FN:=RfS.at HH.out HO.out HK.out hl hn' HBA.out ((p:Int)+(m:Int)) (p+m) (by simp) (by omega)
        have HF1:Hid _:=FN.1
        have HF2:Hid _:=FN.2
        have HF3:Hid (Owns (wa.setCell ⟨M,1,none⟩ (.int .i64 ((p:Int)+(m:Int)))) w.heap.size (.slice pa cc.length ka) cc):=HOA.out.block fun b hb=>setB (by have:=(HOA.out.lt b hb).1;omega)
        clear FN
        go_wp2
        go_ret
        exact ⟨_,rfl,HF1.out,HF2.out,HF3.out⟩
theorem cF (lo M:Nat) (n:Int) (l:List Int) (s:St) (w:World) (hr:RfS w lo M l s) (hn:-9223372036854775808≤n∧n≤9223372036854775807):
    Calls Tryz.prog 46 #[.pointer (some ⟨M,0,none⟩),.int .i64 n] w fun e w'=>∃ v,e=.returned v∧RfS w' lo M l (rawS l s n)∧w.grownBy w' (some M)∧Owns w' w.heap.size v (rawB l s n):=by
  by_cases hf:s.fe=0
  · obtain ⟨p,fa,fe⟩:=s
    simp only at hf
    subst hf
    exact oM lo M n l p fa w hr hn
  · have e1:rawS l s n=s:=by simp [rawS,hf]
    have e2:rawB l s n=[]:=by simp [rawB,hf]
    rw [e1,e2]
    have HR:Hid (RfS w lo M l s):=hr
    obtain ⟨v,hh,ho,hk,hl,hp,hn'⟩:=hr
    obtain ⟨h0,h1,h2,h3,hfz⟩:=qZ hh
    have hfb:(s.fe !=0)=true:=by simpa using hf
    clear hh ho hk h0 h1 h3 e1 e2
    go_enter Tryz.func46,Tryz.ntmps46
    go_wp2
    go_ret
    exact ⟨_,rfl,HR.out,⟨rfl,rfl,rfl,Nat.le_refl _,fun _ _ _=>rfl⟩,Owns.nil _ _⟩
theorem bX (lo M:Nat) (l:List Int) (s:St) (w:World) (hr:RfS w lo M l s):
    Calls Tryz.prog 17 #[.pointer (some ⟨M,0,none⟩)] w fun e w'=>e=.returned (.int .u8 (byteS l s).1)∧RfS w' lo M l (byteS l s).2∧w.grownBy w' (some M):=by
  have HC:=cF lo M 1 l s w hr (by omega)
  have hs:rawS l s 1=(byteS l s).2:=by
    unfold rawS byteS
    split
    · rfl
    · simp only [Int.toNat_one]
      by_cases h:s.p<l.length
      · rw [if_neg (by omega),if_pos h]
      · rw [if_pos (by omega),if_neg h]
  rw [hs] at HC
  have hb:(rawB l s 1=[]∧(byteS l s).1=0)∨(∃ c,rawB l s 1=[c]∧(byteS l s).1=c):=by
    unfold rawB byteS
    by_cases hf:s.fe≠0
    · exact .inl ⟨by rw [if_pos hf],by rw [if_pos hf]⟩
    · by_cases h:s.p<l.length
      · refine .inr ⟨l[s.p],?_,?_⟩
        · rw [if_neg hf,if_neg (by simp;omega),List.drop_eq_getElem_cons h]
          rfl
        · rw [if_neg hf,if_pos h,gl h];rfl
      · exact .inl ⟨by rw [if_neg hf,if_pos (by simp;omega)],by rw [if_neg hf,if_neg h]⟩
  obtain ⟨b,eb⟩:∃ b,(byteS l s).1=b:=⟨_,rfl⟩
  obtain ⟨s',es⟩:∃ s',(byteS l s).2=s':=⟨_,rfl⟩
  rw [eb] at hb ⊢
  rw [es] at HC ⊢
  clear hs eb es
  rcases hb with ⟨h1,rfl⟩ | ⟨c,h1,hbc⟩
  · rw [h1] at HC
    go_enter Tryz.func17,Tryz.ntmps17
    go_wp2_with (go_at_call 46;refine HC.mono ?_;rintro e w1 ⟨v,rfl,hr1,hg1,ho1⟩;obtain ⟨pv,kv,ev⟩:=row_form ho1;subst ev)
    go_ret
    exact ⟨rfl,hr1,hg1⟩
  · rw [h1] at HC
    rw [hbc]
    clear hbc h1
    go_enter Tryz.func17,Tryz.ntmps17
    go_wp2_with (go_at_call 46;refine HC.mono ?_;rintro e w1 ⟨v,rfl,hr1,hg1,ho1⟩;have h0:w1.ownsRow w.heap.size 5 1 v [Value.int .u8 c].length [Value.int .u8 c]:=ho1;obtain ⟨gv,kv,ev,hc⟩:=a2h h0 (j:=0) (by simp);simp at ev hc;subst ev;clear h0 ho1)
    go_ret
    exact ⟨rfl,hr1,hg1⟩
def zZ (w:World) (lo M:Nat) (l:List Int) (p:Nat) (fa:Int):Rd→Ending→World→Prop
 | .ok n k,e,w'=>e=.returned (.tuple #[.int .u64 n,.int .i64 k,.bool true])∧RfS w' lo M l ⟨p,fa,0⟩∧w.grownBy w' (some M)
 | .form i,e,w'=>e=.returned (.tuple #[.int .u64 0,.int .i64 0,.bool false])∧RfS w' lo M l ⟨p,(p+i:Nat),11⟩∧w.grownBy w' (some M)
 | .short,e,w'=>e=.returned (.tuple #[.int .u64 0,.int .i64 0,.bool false])∧RfS w' lo M l ⟨p,l.length,10⟩∧w.grownBy w' (some M)
theorem gX (acc k:Nat) (c:Int) (hk:k≤9) (hacc:acc<128 ^ k) (h0:0≤c) (h1:c<256) (h9:k=9→c=1):
  bits .or .u64 (acc:Int) (IntKind.u64.wrap (c%128*2 ^ (7*k)))=((acc+c.toNat%128*128 ^ k:Nat):Int):=by
 have h:=fT acc k c hk hacc h0 h1 h9
 have e1:IntKind.u64.wrap (bits .and .u8 c 127)=c%128:=by
  rw [wK c h0 h1,IntKind.wrap_u64]
  omega
 rw [e1] at h
 exact h
theorem xe (lo M:Nat) (l:List Int) (p:Nat) (fa:Int) (w:World) (hr:RfS w lo M l ⟨p,fa,0⟩) (hB:Bytes l):
  Calls Tryz.prog 47 #[.pointer (some ⟨M,0,none⟩)] w fun e w'=>zZ w lo M l p fa (rd 0 (l.drop p)) e w':=by
 have HR:Hid (RfS w lo M l ⟨p,fa,0⟩):=hr
 have HB:Hid (Bytes l):=hB
 obtain ⟨v,hh,ho,hk,hl,hp,hn⟩:=hr
 obtain ⟨ao,cap,hv,hcap,hat⟩:=xg ho
 subst hv
 simp only at hh hp
 have HAT:Hid (∀ i,i<l.length→∃ g,ao=some ⟨g,0,none⟩∧w.cell? ⟨g,i,none⟩=some (.int .u8 (l[i]?.getD 0))):=hat
 obtain ⟨h0,h1,h2,h3,hfz⟩:=qZ hh
 obtain ⟨r,er⟩:∃ r,rd 0 (l.drop p)=r:=⟨_,rfl⟩
 rw [er]
 have HER:Hid (rd 0 (l.drop p)=r):=er
 clear hh ho hk hat hB h2 h3 er
 go_enter Tryz.func47,Tryz.ntmps47
 go_wp2_with fail
 go_loopw [5,6] (fun n i wr=>∃ k acc:Nat,k≤9∧p+k≤l.length∧acc<128 ^ k∧i=.int .i64 k∧n=.int .u64 acc∧Hid (r=(rd k (l.drop (p+k))).plus acc∧∃ m,wr=w.drewN m)) (fun _ i _=>10-(intOf i).toNat)
 case atStart=>exact ⟨0,0,by omega,by omega,by simp,rfl,rfl,by rw [← HER.out];cases rd 0 (l.drop p)<;>simp [Rd.plus],0,rfl⟩
 case round=>
  obtain ⟨k,acc,hk9,hak,hacc,rfl,rfl,HX⟩:=hrel
  have HRD:Hid (r=(rd k (l.drop (p+k))).plus acc):=HX.out.1
  have hz:wr.heap=w.heap:=by obtain ⟨m,hm⟩:=HX.out.2;rw [hm];rfl
  have HRW:Hid (RfS wr lo M l ⟨p,fa,0⟩):=by
   obtain ⟨m,hm⟩:=HX.out.2
   rw [hm];exact RfS.drewN HR.out m
  have HGW:Hid (∀ w',wr.grownBy w' (some M)→w.grownBy w' (some M)):=fun w' h=>by
   obtain ⟨m,hm⟩:=HX.out.2
   subst hm
   exact ⟨h.os,h.tape,h.output,h.size,h.block⟩
  have HDW:Hid (∀ j,∃ m,wr.drewN j=w.drewN m):=fun j=>by
   obtain ⟨m,hm⟩:=HX.out.2
   subst hm
   exact ⟨_,World.drewN_drewN _ _ _⟩
  have d0:wr.cell? ⟨M,0,none⟩=some (.slice ao l.length cap):=by simp only [World.cell?,hz] at h0 ⊢;exact h0
  have d1:wr.cell? ⟨M,1,none⟩=some (.int .i64 p):=by simp only [World.cell?,hz] at h1 ⊢;exact h1
  have q6:IntKind.i64.wrap (p:Int)=(p:Int):=by rw [IntKind.wrap_i64];omega
  have q5:IntKind.i64.wrap ((p:Int)+(k:Int))=(p:Int)+(k:Int):=by rw [IntKind.wrap_i64];omega
  clear HX
  by_cases hlt:p+k<l.length
  ·obtain ⟨g,hao,hcg'⟩:=HAT.out (p+k) hlt
   have hcg:wr.cell? ⟨g,p+k,none⟩=some (.int .u8 (l[p+k]?.getD 0)):=by simp only [World.cell?,hz] at hcg' ⊢;exact hcg'
   have hcb:=HB.out.at hlt
   have HR2:Hid (r=(rd k ((l[p+k]?.getD 0)::l.drop (p+k+1))).plus acc):=by
    have e:l.drop (p+k)=(l[p+k]?.getD 0)::l.drop (p+k+1):=by
     rw [List.drop_eq_getElem_cons hlt];simp [gl hlt]
    show _=_
    rw [← e];exact HRD.out
   clear HRD hcg' hz h0 h1
   generalize l[p+k]?.getD 0=c at *
   subst hao
   by_cases hbad:bad k c=true
   ·have HE:Hid (∀ (e:Ending) w',e=.returned (.tuple #[.int .u64 0,.int .i64 0,.bool false])→RfS w' lo M l ⟨p,(p+k:Nat),11⟩→wr.grownBy w' (some M)→zZ w lo M l p fa r e w'):=fun e w' h1 h2 h3=>by
     rw [HR2.out]
     simp only [rd,hbad,if_true,Rd.plus,zZ]
     exact ⟨h1,h2,HGW.out _ h3⟩
    by_cases hc0:c≤0
    ·have hkp:0<k:=by
      rcases Nat.eq_zero_or_pos k with h | h
      ·subst h;simp [bad] at hbad
      ·exact h
     have hcz:(c==0)=true:=by simp;omega
     have hkz:(0:Int)<(k:Int):=by omega
     go_wp2_with fail
     go_quiet (fail)
     go_wp2_with fail
     go_quiet (fail)
     go_wp2_with (go_at_call 48;refine (qR lo M l _ _ _ _ (by first | exact RfS.drewN HRW.out _ | exact RfS.drewN (RfS.drewN HRW.out _) _)).mono ?_;rintro e w1 ⟨rfl,hr1,hg1⟩)
     go_ret3
     exact HE.out _ _ rfl (by simpa using hr1) ⟨hg1.os,hg1.tape,hg1.output,hg1.size,hg1.block⟩
    ·have hk':k=9∧c≠1:=by
      simp [bad] at hbad
      rcases hbad with h | h
      ·omega
      ·exact h
     obtain ⟨rfl,hc1⟩:=hk'
     have hc2:2≤c:=by omega
     have hb1:(c !=1)=true:=by simp;omega
     have hb0:(c==0)=false:=by simp;omega
     clear hc1
     go_wp2_with fail
     go_quiet (fail)
     go_wp2_with fail
     go_quiet (fail)
     go_wp2_with (go_at_call 48;refine (qR lo M l _ _ _ _ (by first | exact RfS.drewN HRW.out _ | exact RfS.drewN (RfS.drewN HRW.out _) _)).mono ?_;rintro e w1 ⟨rfl,hr1,hg1⟩)
     go_ret3
     exact HE.out _ _ rfl (by simpa using hr1) ⟨hg1.os,hg1.tape,hg1.output,hg1.size,hg1.block⟩
   ·by_cases hc:c<128
    ·have hk3:k=0∨(0<k∧k<9∧0<c)∨(k=9∧c=1):=by
      simp [bad] at hbad;omega
     have h9:k=9→c=1:=by omega
     have e1:c.toNat%128=c.toNat:=by omega
     have HE:Hid (∀ (e:Ending) w',e=.returned (.tuple #[.int .u64 (bits .or .u64 (acc:Int) (IntKind.u64.wrap (c%128*2 ^ (7*k)))),.int .i64 ((k:Int)+1),.bool true])→RfS w' lo M l ⟨p,fa,0⟩→wr.grownBy w' (some M)→zZ w lo M l p fa r e w'):=fun e w' h1 h2 h3=>by
      rw [gX acc k c hk9 hacc hcb.1 hcb.2 h9] at h1
      rw [HR2.out]
      simp only [rd,hbad,Bool.false_eq_true,if_false,hc,if_true,Rd.plus,zZ]
      rw [e1] at h1
      exact ⟨by rw [h1];simp,h2,HGW.out _ h3⟩
     clear hbad HR2 h9 e1
     have HFR:Hid (∀ j,RfS (wr.drewN j) lo M l ⟨p,fa,0⟩∧wr.grownBy (wr.drewN j) (some M)):=fun j=>⟨RfS.drewN HRW.out j,xG _ _ _⟩
     rcases hk3 with rfl | ⟨hk1,hk2,hc0⟩ | ⟨rfl,rfl⟩
     ·have hltI:(p:Int)<(l.length:Int):=by omega
      have hcg0:wr.cell? ⟨g,p,none⟩=some (.int .u8 c):=hcg
      have HE0:Hid (∀ (e:Ending) w',e=.returned (.tuple #[.int .u64 (bits .or .u64 (acc:Int) (c%128)),.int .i64 1,.bool true])→RfS w' lo M l ⟨p,fa,0⟩→wr.grownBy w' (some M)→zZ w lo M l p fa r e w'):=fun e w' h1 h2 h3=>HE.out e w' (by
       have hw:IntKind.u64.wrap (c%128)=c%128:=by rw [IntKind.wrap_u64];omega
       simpa [hw] using h1) h2 h3
      clear HE q5 hcg hlt hak
      go_wp2_with fail
      go_quiet (fail)
      go_wp2_with fail
      go_quiet (fail)
      go_wp2
      go_ret3
      exact HE0.out _ _ rfl (HFR.out _).1 (HFR.out _).2
     ·go_wp2_with fail
      go_quiet (fail)
      go_wp2_with fail
      go_quiet (fail)
      go_wp2
      go_ret3
      exact HE.out _ _ rfl (HFR.out _).1 (HFR.out _).2
     ·have HE0:Hid (∀ (e:Ending) w',e=.returned (.tuple #[.int .u64 (bits .or .u64 (acc:Int) 9223372036854775808),.int .i64 10,.bool true])→RfS w' lo M l ⟨p,fa,0⟩→wr.grownBy w' (some M)→zZ w lo M l p fa r e w'):=fun e w' h1 h2 h3=>HE.out e w' (by rw [h1];rfl) h2 h3
      clear HE
      go_wp2_with fail
      go_quiet (fail)
      go_wp2_with fail
      go_quiet (fail)
      go_wp2
      go_ret3
      exact HE0.out _ _ rfl (HFR.out _).1 (HFR.out _).2
    ·have hk3:k<9∧(k=0∨0<k):=by
      simp [bad] at hbad;omega
     obtain ⟨hk8,hk3⟩:=hk3
     have R1:Hid (r=(rd (k+1) (l.drop (p+(k+1)))).plus (acc+c.toNat%128*128 ^ k)):=oJ hbad hc HR2.out
     have R2:Hid (acc+c.toNat%128*128 ^ k<128 ^ (k+1)):=oK (c:=c) hacc
     have R3:Hid (bits .or .u64 (acc:Int) (IntKind.u64.wrap (c%128*2 ^ (7*k)))=((acc+c.toNat%128*128 ^ k:Nat):Int)):=gX acc k c hk9 hacc hcb.1 hcb.2 (by omega)
     clear hbad HR2
     rcases hk3 with rfl | hk1
     ·have hltI:(p:Int)<(l.length:Int):=by omega
      have hcg0:wr.cell? ⟨g,p,none⟩=some (.int .u8 c):=hcg
      have R4:Hid (bits .or .u64 (acc:Int) (c%128)=((acc+c.toNat%128*128 ^ 0:Nat):Int)):=by
       have hw:IntKind.u64.wrap (c%128)=c%128:=by rw [IntKind.wrap_u64];omega
       have h:=R3.out
       simp only [Nat.mul_zero,Int.pow_zero,Int.mul_one,hw] at h
       exact h
      clear q5 hcg hlt hak
      go_wp2_with fail
      go_quiet (fail)
      go_wp2_with fail
      go_quiet (fail)
      go_wp2
      go_roundw
      case rel=>exact ⟨1,_,by omega,by omega,R2.out,by go_num,congrArg (Value.int .u64) R4.out,R1.out,HDW.out _⟩
      case measure=>simp [intOf]
     ·go_wp2_with fail
      go_quiet (fail)
      go_wp2_with fail
      go_quiet (fail)
      go_wp2
      go_roundw
      case rel=>exact ⟨k+1,_,by omega,by omega,R2.out,by go_num,congrArg (Value.int .u64) R3.out,R1.out,HDW.out _⟩
      case measure=>simp [intOf];omega
  ·have hak':p+k=l.length:=by omega
   have HE:Hid (∀ (e:Ending) w',e=.returned (.tuple #[.int .u64 0,.int .i64 0,.bool false])→RfS w' lo M l ⟨p,l.length,10⟩→wr.grownBy w' (some M)→zZ w lo M l p fa r e w'):=fun e w' h1 h2 h3=>by
    have e0:l.drop (p+k)=[]:=by rw [hak'];simp
    rw [HRD.out,e0]
    simp only [rd,Rd.plus,zZ]
    exact ⟨h1,h2,HGW.out _ h3⟩
   have hgeI:¬ ((p:Int)+(k:Int)<(l.length:Int)):=by omega
   clear hak' HRD hz h0 h1
   go_wp2_with fail
   go_quiet (fail)
   go_wp2_with (go_at_call 48;refine (qR lo M l _ _ _ _ (by first | exact RfS.drewN HRW.out _ | exact RfS.drewN (RfS.drewN HRW.out _) _)).mono ?_;rintro e w1 ⟨rfl,hr1,hg1⟩)
   go_ret3
   exact HE.out _ _ rfl hr1 ⟨hg1.os,hg1.tape,hg1.output,hg1.size,hg1.block⟩
end Go.Proofs.YtdeanahpiigonaaGreatDoor.Wi
