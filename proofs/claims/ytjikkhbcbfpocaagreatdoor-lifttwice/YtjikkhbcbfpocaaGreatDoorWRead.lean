import Derived.Test.YtjikkhbcbfpocaaGreatDoorRows
import Derived.OrdersIn
import Derived.Test.YtjikkhbcbfpocaaGreatDoorProg
import Derived.WalkSpells
import Derived.WalkLawsBesides
import Derived.Laws.AppendOwnNone
import Derived.Lib.AppendZeros
import Derived.BigQuiet
set_option maxRecDepth 100000
set_option maxHeartbeats 800000
namespace Go.Proofs.YtjikkhbcbfpocaaGreatDoor
theorem ga {α:Type} {a:Array α} {i:Nat} {b:α} (h:a[i]?=some b):∃ h:i<a.size,a[i]=b:=Array.getElem?_eq_some_iff.1 h
theorem gd {α:Type} {a:Array α} {i:Nat} {d:α}:a.getD i d=a[i]?.getD d:=Array.getD_eq_getD_getElem?
theorem gl {α:Type} {l:List α} {i:Nat} (h:i<l.length):l[i]?=some l[i]:=List.getElem?_eq_getElem h
theorem sA {α:Type _} (l:List α) (i:Nat) (a:α):l.toArray.setIfInBounds i a=(l.set i a).toArray:=List.setIfInBounds_toArray ..
theorem sB {α:Type _} (x:α) (l:List α) (a:α):(x::l).set 0 a=a::l:=rfl
theorem sC {α:Type _} (x:α) (l:List α) (i:Nat) (a:α):(x::l).set (i+1) a=x::l.set i a:=rfl
theorem sD {α:Type _} (l:List α) (i:Nat) (h:i<l.toArray.size):l.toArray[i]=l[i]'(by simpa using h):=List.getElem_toArray ..
theorem sE {α:Type _} (x:α) (l:List α) (h:0<(x::l).length):(x::l)[0]=x:=rfl
theorem sF {α:Type _} (x:α) (l:List α) (i:Nat) (h:i+1<(x::l).length):(x::l)[i+1]=l[i]'(by simpa using h):=rfl
theorem gS {α:Type} {xs:Array α} {i:Nat} {a:α} (h:xs[i]?=some a):i<xs.size:=(ga h).1
theorem lA {α:Type _} {a b:List α}:(a++b).length=a.length+b.length:=List.length_append
theorem lC {α:Type _} {a:α} {b:List α}:(a::b).length=b.length+1:=rfl
theorem lN {α:Type _}:([]:List α).length=0:=rfl
section
variable {P:Program} {md:Region.Mode} {ops:Array Oper} {Q:Exit→Act→World→Prop}
theorem rA (rs:List Nat) {fuel:Nat} {listed:Array Bool} {a:Act} {w:World} (h:AllReady P md ops Q fuel listed a w rs) (hr:Region.ready md ops listed=rs:=by kernel_rfl) (hne:rs≠[]:=by simp):wpAny P md ops Q (fuel+1) listed a w:=wpAny_ready hr hne h
theorem rI (rs:List Nat) {F:Fence} {n fuel:Nat} {listed:Array Bool} {a:Act} {w:World} (h:AllReadyIn F n P md ops Q fuel listed a w rs) (hr:Region.ready md ops listed=rs:=by kernel_rfl) (hne:rs≠[]:=by simp):wpAnyIn F n P md ops Q (fuel+1) listed a w:=wpAnyIn_ready hr hne h
theorem dA {listed:Array Bool} {a:Act} {w:World} {fuel:Nat} (h:Q .normal a w) (hr:Region.ready md ops listed=[]:=by kernel_rfl):wpAny P md ops Q fuel listed a w:=wpAny_done hr h fuel
theorem dI {F:Fence} {n:Nat} {listed:Array Bool} {a:Act} {w:World} {fuel:Nat} (h:Q .normal a w) (hr:Region.ready md ops listed=[]:=by kernel_rfl):wpAnyIn F n P md ops Q fuel listed a w:=wpAnyIn_done hr h fuel
theorem oR {fuel:Nat} {listed:Array Bool} {a:Act} {w:World} {i:Nat} {o:Oper} (h:∀ K':Act→World→Prop,(∀ a w,wpAny P md ops Q fuel (listed.setIfInBounds i true) a w→K' a w)→if Region.wanted o (yielded ops a.tmps)=true then Oper.wp P o a w K' Q else K' (a.put o.dst undef) w) (ho:ops[i]?=some o:=by exact rfl):AllReady P md ops Q fuel listed a w [i]:=AllReady.cons ho h AllReady.nil
theorem tA (i:Nat) (v:Value) {oi:Oper} {fuel:Nat} {listed:Array Bool} {a:Act} {w:World} (hy:∀ w,(execOp a.eval oi).run P w=.ok (.value v) w) (h:wpAny P md ops Q fuel (listed.setIfInBounds i true) (a.put oi.dst v) w)
  (hi:ops[i]?=some oi:=by exact rfl) (hs:Region.noSelect ops=true:=by kernel_rfl) (hf:Region.free md ops listed i=true:=by kernel_rfl) (hr:(Region.ready md ops listed).contains i=true:=by kernel_rfl) (hQ:∀ c a w,Q (.panic c) (a.put oi.dst v) w→Q (.panic c) a w:=by exact fun _ _ _ h=>h) (hw:Region.wanted oi (yielded ops a.tmps)=true:=by kernel_rfl):wpAny P md ops Q (fuel+1) listed a w:=
 wpAny_take hi hs hf hr hQ (Or.inl ⟨hw,hy⟩) h
end
end Go.Proofs.YtjikkhbcbfpocaaGreatDoor
namespace Wire
def enc (n:Nat):List Int:=if n<128 then [(n:Int)] else ((n%128+128:Nat):Int)::enc (n/128)
termination_by n
decreasing_by omega
inductive Rd where
  | ok (n k:Nat)
  | form (i:Nat)
  | short
def Rd.plus (a:Nat):Rd→Rd
  | .ok n k=>.ok (a+n) k
  | .form i=>.form i
  | .short=>.short
def bad (i:Nat) (c:Int):Bool:=(decide (0<i)&&decide (c=0))||(decide (i=9)&&decide (c≠1))
def rd:Nat→List Int→Rd
  | _,[]=>.short
  | i,c::t=>if bad i c=true then .form i else if c<128 then .ok (c.toNat*128 ^ i) (i+1) else (rd (i+1) t).plus ((c.toNat%128)*128 ^ i)
def Bytes (l:List Int):Prop:=∀ x∈l,0≤x∧x<256
theorem Bytes.drop {l:List Int} (h:Bytes l) (k:Nat):Bytes (l.drop k):=fun x hx=>h x (List.mem_of_mem_drop hx)
theorem Bytes.take {l:List Int} (h:Bytes l) (k:Nat):Bytes (l.take k):=fun x hx=>h x (List.mem_of_mem_take hx)
theorem Bytes.append {l m:List Int} (h:Bytes l) (g:Bytes m):Bytes (l++m):=fun x hx=>by
  rcases List.mem_append.1 hx with hx | hx
  · exact h x hx
  · exact g x hx
theorem Bytes.at {l:List Int} (h:Bytes l) {i:Nat} (hi:i<l.length):0≤l[i]?.getD 0∧l[i]?.getD 0<256:=by
  rw [List.getElem?_eq_getElem hi];exact h _ (List.getElem_mem hi)
theorem dE {n:Nat} (h:n<128):enc n=[(n:Int)]:=by rw [enc,if_pos h]
theorem gx {n:Nat} (h:¬ n<128):enc n=((n%128+128:Nat):Int)::enc (n/128):=by rw [enc,if_neg h]
theorem gy (n:Nat):Bytes (enc n):=by
  induction n using Nat.strongRecOn with
  | _ n ih=>
    by_cases h:n<128
    · rw [dE h];intro x hx;simp at hx;omega
    · rw [gx h];intro x hx
      rcases List.mem_cons.1 hx with rfl | hx
      · omega
      · exact ih (n/128) (by omega) x hx
theorem lQ (n:Nat):1≤(enc n).length:=by
  by_cases h:n<128
  · rw [dE h];simp
  · rw [gx h];simp
theorem ru:∀ (k n:Nat),n<128 ^ k→1≤k→(enc n).length≤k
  | 0,_,_,h=>by omega
  | k+1,n,hn,_=>by
    by_cases h:n<128
    · rw [dE h];simp
    · rw [gx h]
      have h1:n/128<128 ^ k:=by rw [Nat.pow_succ] at hn;omega
      have hk:1≤k:=by
        rcases Nat.eq_zero_or_pos k with rfl | hk
        · simp at h1;omega
        · exact hk
      have:=ru k (n/128) h1 hk
      simp;omega
theorem aP {n:Nat} (h:n<18446744073709551616):(enc n).length≤10:=
  ru 10 n (Nat.lt_of_lt_of_le h (by decide)) (by decide)
theorem oB:∀ (i n:Nat) (more:List Int),i≤9→n<18446744073709551616/128 ^ i→(0<i→0<n)→rd i (enc n++more)=.ok (n*128 ^ i) (i+(enc n).length):=by
  intro i n
  induction n using Nat.strongRecOn generalizing i with
  | _ n ih=>
    intro more hi hn hp
    by_cases h:n<128
    · rw [dE h]
      have hb:bad i (n:Int)=false:=by
        simp only [bad,Bool.or_eq_false_iff,Bool.and_eq_false_iff,decide_eq_false_iff_not]
        constructor
        · by_cases h0:0<i
          · have:=hp h0;right;omega
          · left;exact h0
        · by_cases h9:i=9
          · subst h9
            have h2:(18446744073709551616:Nat)/128 ^ 9=2:=by decide
            rw [h2] at hn
            have:=hp (by decide)
            right;omega
          · left;exact h9
      simp only [List.cons_append,List.nil_append,rd,hb,Bool.false_eq_true,if_false]
      rw [if_pos (by omega)];simp
    · rw [gx h]
      have h9:i<9:=by
        rcases Nat.lt_or_ge i 9 with h' | h'
        · exact h'
        · have:i=9:=by omega
          subst this
          have h2:(18446744073709551616:Nat)/128 ^ 9=2:=by decide
          omega
      have hb:bad i ((n%128+128:Nat):Int)=false:=by
        simp only [bad,Bool.or_eq_false_iff,Bool.and_eq_false_iff,decide_eq_false_iff_not]
        constructor
        · right;omega
        · left;omega
      simp only [List.cons_append,rd,hb,Bool.false_eq_true,if_false]
      rw [if_neg (by omega)]
      have hq:n/128<18446744073709551616/128 ^ (i+1):=by
        rw [Nat.pow_succ,← Nat.div_div_eq_div_mul]
        have hd:18446744073709551616/128 ^ i=(18446744073709551616/128 ^ i/128)*128:=by
          have:∀ j,j<9→18446744073709551616/128 ^ j=(18446744073709551616/128 ^ j/128)*128:=by decide
          exact this i h9
        omega
      rw [ih (n/128) (by omega) (i+1) more (by omega) hq (by intro;omega)]
      simp only [Rd.plus]
      congr 1
      · have e1:((n%128+128:Nat):Int).toNat%128=n%128:=by omega
        rw [e1,Nat.pow_succ]
        have e2:n=n%128+(n/128)*128:=by omega
        calc n%128*128 ^ i+n/128*(128 ^ i*128)=(n%128+(n/128)*128)*128 ^ i:=by
              rw [Nat.add_mul,Nat.mul_assoc (n/128) 128,Nat.mul_comm 128 (128 ^ i)]
          _=n*128 ^ i:=by rw [← e2]
      · simp;omega
theorem gz {n:Nat} (more:List Int) (h:n<18446744073709551616):rd 0 (enc n++more)=.ok n (enc n).length:=by
  have:=oB 0 n more (by omega) (by simpa using h) (by omega)
  simpa using this
theorem wJ:∀ (l:List Int) (i n k:Nat),rd i l=.ok n k→i<k∧k≤i+l.length
  | [],i,n,k,h=>by simp [rd] at h
  | c::t,i,n,k,h=>by
    simp only [rd] at h
    split at h
    · simp at h
    · split at h
      · simp at h;simp;omega
      · cases hr:rd (i+1) t with
        | ok m j=>
          rw [hr] at h
          simp [Rd.plus] at h
          have:=wJ t (i+1) m j hr
          simp;omega
        | form j=>rw [hr] at h;simp [Rd.plus] at h
        | short=>rw [hr] at h;simp [Rd.plus] at h
theorem rx:∀ (l:List Int) (i n k:Nat),i≤9→rd i l=.ok n k→n+128 ^ i≤18446744073709551616
  | [],i,n,k,_,h=>by simp [rd] at h
  | c::t,i,n,k,hi,h=>by
    simp only [rd] at h
    by_cases hb:bad i c=true
    · simp [hb] at h
    · simp only [hb,Bool.false_eq_true,if_false] at h
      have hb':bad i c=false:=by simpa using hb
      have hp:∀ j,j≤8→128 ^ j≤72057594037927936:=by decide
      by_cases hc:c<128
      · simp only [hc,if_true,Rd.ok.injEq] at h
        rw [← h.1]
        by_cases h9:i=9
        · subst h9
          have h1:c=1:=by
            simp [bad] at hb';omega
          subst h1;decide
        · have h8:=hp i (by omega)
          have:c.toNat*128 ^ i≤127*128 ^ i:=Nat.mul_le_mul_right _ (by omega)
          omega
      · simp only [hc,if_false] at h
        have h9:i≠9:=by
          intro e;subst e
          simp [bad] at hb';omega
        cases hr:rd (i+1) t with
        | ok m j=>
          rw [hr] at h
          simp only [Rd.plus,Rd.ok.injEq] at h
          rw [← h.1]
          have ih:=rx t (i+1) m j (by omega) hr
          rw [Nat.pow_succ] at ih
          have:c.toNat%128*128 ^ i≤127*128 ^ i:=Nat.mul_le_mul_right _ (by omega)
          omega
        | form j=>rw [hr] at h;simp [Rd.plus] at h
        | short=>rw [hr] at h;simp [Rd.plus] at h
theorem wK {l:List Int} {n k:Nat} (h:rd 0 l=.ok n k):n<18446744073709551616:=by
  have:=rx l 0 n k (by omega) h
  simp at this;omega
end Wire
namespace Go.Proofs.YtjikkhbcbfpocaaGreatDoor.Wi
open Go.RowKit Wire
theorem Tryz.info5:(Tryz.prog.info? 5).map (fun i=>(i.zero,i.size,i.bytes))=some (some (.int .u8 0),1,1):=by kernel_rfl
theorem Tryz.mixed:Tryz.prog.follows .mixedOrders=true:=by kernel_rfl
def Has (w:World) (v:Value) (l:List Int):Prop:=
 (v=.slice none 0 0∧l=[])∨∃ a cap,v=.slice (some a) l.length cap∧l.length≤cap∧∀ i,i<l.length→w.cell? (a.add i)=some (.int .u8 (l.getD i 0))
def Owns (w:World) (lo:Nat) (v:Value) (l:List Int):Prop:=w.ownsRow lo 5 1 v l.length (l.map (Value.int .u8))
theorem Owns.has {w:World} {lo:Nat} {v:Value} {l:List Int} (h:Owns w lo v l):Has w v l:=by
 have h0:=h
 obtain ⟨_,h | ⟨g,cap,cur,hv,hg,hh,hn,hm,hs,ht⟩⟩:=h
 ·obtain ⟨rfl,hl⟩:=h
  exact .inl ⟨rfl,List.length_eq_zero_iff.1 hl⟩
 ·subst hv
  refine .inr ⟨_,cap,rfl,hn,fun i hi=>?_⟩
  have:=World.ownsRow.cells h0 (g:=g) rfl i (.int .u8 (l.getD i 0)) (by simp [List.getD,gl hi])
  exact this
theorem Owns.nil (w:World) (lo:Nat):Owns w lo (.slice none 0 0) []:=World.ownsRow_nil _ _ _ _
theorem Owns.mono {w:World} {lo lo':Nat} {v:Value} {l:List Int} (h:Owns w lo v l) (hl:lo'≤lo):Owns w lo' v l:=by
 obtain ⟨h1,h | ⟨g,cap,cur,hv,hg,hr⟩⟩:=h
 ·exact ⟨h1,.inl h⟩
 ·exact ⟨h1,.inr ⟨g,cap,cur,hv,Nat.le_trans hl hg,hr⟩⟩
theorem Owns.lt {w:World} {lo:Nat} {v:Value} {l:List Int} (h:Owns w lo v l):∀ k,v.ownBlock=some k→lo≤k∧k<w.heap.size:=World.ownsRow.lt h
theorem Owns.block {w w':World} {lo:Nat} {v:Value} {l:List Int} (h:Owns w lo v l) (hb:∀ k,v.ownBlock=some k→w'.heap[k]?=w.heap[k]?):Owns w' lo v l:=by
 obtain ⟨h1,h | ⟨g,cap,cur,hv,hg,hh,hr⟩⟩:=h
 ·exact ⟨h1,.inl h⟩
 ·subst hv
  exact ⟨h1,.inr ⟨g,cap,cur,rfl,hg,(hb g rfl).trans hh,hr⟩⟩
theorem Owns.below {w w':World} {B lo:Nat} {v:Value} {l:List Int} (h:Owns w lo v l) (hb:Below B w w') (hB:w.heap.size≤B):Owns w' lo v l:=
 h.block fun k hk=>hb.block k (Nat.lt_of_lt_of_le (h.lt k hk).2 hB)
theorem Has.block {w w':World} {v:Value} {l:List Int} (h:Has w v l) (hb:∀ a:Addr,a.block<w.heap.size→w'.cell? a=w.cell? a):Has w' v l:=by
 rcases h with h | ⟨a,cap,hv,hc,h⟩
 ·exact .inl h
 ·refine .inr ⟨a,cap,hv,hc,fun i hi=>?_⟩
  have h1:=h i hi
  rw [hb _ (World.block_lt_of_cell? w _ h1)]
  exact h1
theorem Has.below {w w':World} {v:Value} {l:List Int} (h:Has w v l) (hb:Below w.heap.size w w'):Has w' v l:=
 h.block fun _ ha=>hb.cell ha
theorem Below.up {w w1 w2:World} (h:Below w.heap.size w w1) (k:Below w1.heap.size w1 w2):Below w.heap.size w w2:=h.trans (k.mono h.size)
theorem Has.nil (w:World):Has w (.slice none 0 0) []:=.inl ⟨rfl,rfl⟩
theorem Has.form {w:World} {v:Value} {l:List Int} (h:Has w v l):∃ ao cap,v=.slice ao l.length cap∧l.length≤cap:=by
 rcases h with ⟨rfl,rfl⟩ | ⟨a,cap,rfl,hc,_⟩
 ·exact ⟨none,0,rfl,Nat.le_refl _⟩
 ·exact ⟨some a,cap,rfl,hc⟩
theorem kf {w:World} {ops:Array Oper} {rest:List Oper} {o:Oper} {a:Act} {Q:Exit→Act→World→Prop} (hgd:o.guard=none) (s x:Operand)
  (ho:o.op=.call { callee:=.builtin .append,args:=#[s,x],argTypes:=#[35,35] })
  (lo:Nat) (v vx:Value) (m l:List Int) (hs:a.eval s=v) (hx:a.eval x=vx) (hown:Owns w lo v m) (hhas:Has w vx l)
  (hlen:m.length+l.length≤16777216) (hbase:lo≤w.heap.size)
  (h:∀ v' w',Owns w' lo v' (m++l)→Below lo w w'→wpList Tryz.prog ops Q rest (a.put o.dst v') w'):wpList Tryz.prog ops Q (o::rest) a w:=by
 obtain ⟨i0,hi,hz0,hz1,hz2⟩:=info_parts Tryz.info5
 rcases hhas with ⟨rfl,rfl⟩ | ⟨ad,cap,rfl,hc,hcell⟩
 ·refine wpList_append_own_none hgd s x 35 ho lo 5 i0 1 Tryz.underlying35 hi v m.length (m.map (Value.int .u8)) hs hown hx ?_
  exact h v w (by simpa using hown) (Below.refl _ _)
 ·refine wpList_append_own w hgd s x 35 ho lo 5 i0 (.int .u8 0) 1 1 Tryz.underlying35 hi hz0 hz1 hz2 rfl (by decide) v m.length (m.map (Value.int .u8)) hs hown ad l.length cap (l.map (Value.int .u8)) hx (by simp) ?_ ?_ ?_ ?_ hbase ?_
  ·intro j u hj
   have hjl:j<l.length:=by
    have:=(List.getElem?_eq_some_iff.1 hj).1
    simpa using this
   rw [hcell j hjl]
   simpa [List.getD,gl hjl] using hj
  ·intro u hu;obtain ⟨x,_,rfl⟩:=List.mem_map.1 hu;rfl
  ·unfold maxLen;omega
  ·omega
  ·intro v' w' h1 h2 _
   refine h v' w' ?_ ((Below.refl lo w).grown h2 hbase fun k hk=>(World.ownsRow.lt hown k hk).1)
   unfold Owns
   simpa using h1
theorem or128 (m:Nat):bits .or .u8 ((m:Int)%256) 128=((m%128+128:Nat):Int):=by
 have e:((m:Int)%256)=((m%256:Nat):Int):=by omega
 rw [e,show (128:Int)=((128:Nat):Int) from rfl,u8_or_nat _ _ (by omega) (by omega)]
 have h:∀ k,k<256→(k ||| 128:Nat)=k%128+128:=by decide +kernel
 rw [h (m%256) (by omega)]
 congr 2;omega
theorem xV {w:World} {x:Value} {T:TypeId}:∀ (j:Nat) (u:Value),[x][j]?=some u→(w.alloc (Obj.cells #[x] T)).cell? ((⟨w.heap.size,0,none⟩:Addr).add j)=some u:=by
 intro j u hj
 match j,hj with
 | 0,hj=>simp at hj;subst hj;simp [Addr.add]
theorem ey {w wr w1:World} {v:Value} {o:Obj} (hb:Below w.heap.size w wr) (hown:∀ k,v.ownBlock=some k→w.heap.size≤k) (hg:(wr.alloc o).grownBy w1 v.ownBlock):Below w.heap.size w w1:=
 (hb.alloc hb.size o).grown hg (by have:=hb.size;simp;omega) hown
theorem eC (n:Nat) (w:World) (hn:n<18446744073709551616):
  Calls Tryz.prog 126 #[.int .u64 n] w fun e w'=>∃ v,e=.returned v∧w'.ownsRow w.heap.size 5 1 v (enc n).length ((enc n).map (Value.int .u8))∧Below w.heap.size w w':=by
 obtain ⟨i0,hi,hz0,hz1,hz2⟩:=info_parts Tryz.info5
 have hlen:=aP hn
 go_enter Tryz.func126,Tryz.ntmps126
 go_wp2
 go_loopw [0,3] (fun x v wr=>∃ (m:Nat) (l:List Int),m<18446744073709551616∧x=.int .u64 m∧l++enc m=enc n∧wr.ownsRow w.heap.size 5 1 v l.length (l.map (Value.int .u8))∧Below w.heap.size w wr) (fun x _ _=>(intOf x).toNat)
 case atStart=>exact ⟨n,[],hn,rfl,rfl,World.ownsRow_nil _ _ _ _,Below.refl _ _⟩
 case round=>
  obtain ⟨m,l,hm,rfl,hl,hown,hb⟩:=hrel
  have hll:l.length+(enc m).length=(enc n).length:=by rw [← hl];simp
  have hep:=lQ m
  have HL:Hid (l++enc m=enc n):=hl
  have HLL:Hid (l.length+(enc m).length=(enc n).length):=hll
  have hlt10:l.length<10:=by omega
  clear hl hll
  by_cases hlt:m<128
  ·go_wp2_with (at_builtin;refine wpList_append_own _ rfl _ _ 35 rfl w.heap.size 5 i0 (.int .u8 0) 1 1 Tryz.underlying35 hi hz0 hz1 hz2 rfl (by decide) _ _ _ rfl (hown.alloc _) ⟨wr.heap.size,0,none⟩ 1 1 [.int .u8 m] rfl rfl ?c1 ?c2 ?c3 ?c4 ?c5 ?_)
   case c1=>exact xV
   case c2=>intro u hu;simp at hu;subst hu;rfl
   case c3=>unfold maxLen;omega
   case c4=>omega
   case c5=>have:=hb.size;simp;omega
   intro v' w1 hown' hgrow _
   have R:∃ v,Ending.returned v'=.returned v∧w1.ownsRow w.heap.size 5 1 v (enc n).length ((enc n).map (Value.int .u8))∧Below w.heap.size w w1:=by
    refine ⟨v',rfl,?_,ey hb (fun k hk=>(hown.lt k hk).1) hgrow⟩
    rw [← HL.out,dE hlt]
    simpa using hown'
   clear hown' hgrow hown
   go_wp2
   go_ret
   exact R
  ·go_wp2_with (at_builtin;refine wpList_append_own _ rfl _ _ 35 rfl w.heap.size 5 i0 (.int .u8 0) 1 1 Tryz.underlying35 hi hz0 hz1 hz2 rfl (by decide) _ _ _ rfl (hown.alloc _) ⟨wr.heap.size,0,none⟩ 1 1 [.int .u8 (bits .or .u8 ((m:Int)%256) 128)] rfl rfl ?c1 ?c2 ?c3 ?c4 ?c5 ?_)
   case c1=>exact xV
   case c2=>intro u hu;simp at hu;subst hu;rfl
   case c3=>unfold maxLen;omega
   case c4=>omega
   case c5=>have:=hb.size;simp;omega
   intro v' w1 hown' hgrow _
   have R1:w1.ownsRow w.heap.size 5 1 v' (l++[((m%128+128:Nat):Int)]).length ((l++[((m%128+128:Nat):Int)]).map (Value.int .u8)):=by
    rw [or128] at hown'
    simpa using hown'
   have R2:=ey hb (fun k hk=>(hown.lt k hk).1) hgrow
   have R3:Hid ((l++[((m%128+128:Nat):Int)])++enc (m/128)=enc n):=by
    have h:=HL.out
    rw [gx hlt] at h
    show (l++_)++_=_
    rw [← h,List.append_assoc];rfl
   clear hown' hgrow hown
   go_wp2
   go_roundw
   case rel=>exact ⟨m/128,_,by omega,by go_num,R3.out,R1,R2⟩
   case measure=>simp [intOf];omega
theorem dF (vb:Value) (b:List Int) (w:World) (hb:Has w vb b) (hlen:b.length≤16777216):
  Calls Tryz.prog 90 #[vb] w fun e w'=>∃ v,e=.returned v∧Owns w' w.heap.size v b∧Below w.heap.size w w':=by
 have q23:∀ (w:World) (a:Option Addr) (n c n' c':Nat),(binOp .eql 35 (.slice a n c) (.slice none n' c')).run Tryz.prog w=.ok (.bool a.isNone) w:=fun w a n c n' c'=>Lib.run_eql_slice_nil w _ _ a n c n' c' Tryz.underlying35
 obtain ⟨ao,cap,hv,hcap⟩:=hb.form
 subst hv
 cases ao with
 | none=>
  have hbn:b=[]:=by
   rcases hb with ⟨_,h⟩ | ⟨a,_,h,_⟩
   ·exact h
   ·simp at h
  subst hbn
  go_enter Tryz.func90,Tryz.ntmps90
  go_wp2
  go_ret
  exact ⟨_,rfl,Owns.nil _ _,Below.refl _ _⟩
 | some a=>
  go_enter Tryz.func90,Tryz.ntmps90
  go_wp2_with (at_builtin;refine kf rfl (.tmp 5) (.tmp 6) rfl w.heap.size _ _ [] b rfl rfl (World.ownsRow_made w #[] 0 (Nat.le_refl _) (Nat.zero_le _) rfl) (hb.below ((Below.refl _ _).alloc (Nat.le_refl _) _)) (by simp;omega) (by simp) ?_)
  intro v1 w1 ho1 hb1
  go_wp2
  go_ret
  exact ⟨_,rfl,by simpa using ho1,((Below.refl _ _).alloc (Nat.le_refl _) _).trans hb1⟩
theorem uC (n:Nat) (w:World) (hn:n≤16777216):
  Calls Tryz.prog 161 #[.slice none 0 0,.int .i64 n] w fun e w'=>∃ v,e=.returned v∧Owns w' w.heap.size v []∧Below w.heap.size w w':=by
 obtain ⟨i0,hi,hz0,hz1,hz2⟩:=info_parts Tryz.info5
 by_cases h0:n=0
 ·subst h0
  go_enter Tryz.func161,Tryz.ntmps161
  go_wp2
  go_ret
  exact ⟨_,rfl,Owns.nil _ _,Below.refl _ _⟩
 ·have hrz:∀ ty,_:=fun ty=>Lib.run_append_nil_zeros (P:=Tryz.prog) w 35 3 ty 5 i0 (.int .u8 0) .i64 .i64 Tryz.underlying35 Tryz.underlying3 hi hz0 n (by omega) (by omega) (by omega) (by rw [hz2];omega)
  have hG:=grownCap_ge w n 0 5
  have hG2:=grownCap_le_maxLen w n 0 5 (by unfold maxLen;omega)
  generalize grownCap w n 0 5=G at *
  have hpos:(0:Int)<n:=by omega
  have hown:(w.drew.alloc (.cells (Builtin.zeroCells (Value.int .u8 0).cells n++Builtin.zeroCells (Value.int .u8 0).cells (G-n)) 5)).ownsRow w.heap.size 5 1 (.slice (some ⟨w.heap.size,0,none⟩) 0 G) 0 []:=
   World.ownsRow_made w.drew _ G (Nat.le_refl _) hG2 (by rw [Array.size_append,size_zeroCells,size_zeroCells];simp [Value.cells];omega)
  unfold maxLen at hG2
  go_enter Tryz.func161,Tryz.ntmps161
  go_wp2_with (at_builtin;refine Lib.wpList_append_run _ rfl _ _ _ _ rfl _ _ rfl rfl _ _ (hrz _) ?_)
  go_ret
  exact ⟨_,rfl,hown,(Below.refl _ _).drew.alloc (Nat.le_refl _) _⟩
def flat (ls:List (List Int)) (k:Nat):List Int:=(ls.take k).flatten
theorem iA (ls:List (List Int)):flat ls 0=[]:=by simp [flat]
theorem iB (ls:List (List Int)) (k:Nat) (h:k<ls.length):flat ls (k+1)=flat ls k++ls.getD k []:=by
 unfold flat
 rw [List.take_succ_eq_append_getElem h,List.flatten_append]
 simp [List.getD,gl h]
theorem uD (ls:List (List Int)) (k:Nat) (h:ls.length≤k):flat ls k=ls.flatten:=by
 simp [flat,List.take_of_length_le h]
theorem lR (ls:List (List Int)) (k:Nat):(flat ls k).length≤ls.flatten.length:=by
 unfold flat
 have h:ls.flatten=(ls.take k).flatten++(ls.drop k).flatten:=by rw [← List.flatten_append,List.take_append_drop]
 rw [h,lA];omega
theorem ar (K cap:Nat) (vs:List Value) (ls:List (List Int)) (w:World) (hl:ls.length=vs.length) (hn:vs.length≤1000)
  (hcell:∀ i,i<vs.length→w.cell? ⟨K,i,none⟩=some (vs.getD i undef)) (hhas:∀ i,i<vs.length→Has w (vs.getD i undef) (ls.getD i [])) (hlen:ls.flatten.length≤16777216):
  Calls Tryz.prog 125 #[.slice (some ⟨K,0,none⟩) vs.length cap] w fun e w'=>∃ v,e=.returned v∧Owns w' w.heap.size v ls.flatten∧Below w.heap.size w w':=by
 have HC:Hid (∀ i,i<vs.length→w.cell? ⟨K,i,none⟩=some (vs.getD i undef)):=hcell
 have HH:Hid (∀ i,i<vs.length→Has w (vs.getD i undef) (ls.getD i [])):=hhas
 have HL:Hid (ls.length=vs.length):=hl
 clear hcell hhas hl
 go_enter Tryz.func125,Tryz.ntmps125
 go_wp2
 go_loop [3,11] (fun s i=>∃ k:Nat,k≤vs.length∧i=.int .i64 k∧s=.int .i64 (flat ls k).length) (fun _ i=>vs.length-(intOf i).toNat)
 case atStart=>exact ⟨0,Nat.zero_le _,rfl,by simp [iA]⟩
 case round=>
  obtain ⟨k,hk,rfl,rfl⟩:=hrel
  by_cases hlt:k<vs.length
  ·have hc:=HC.out k hlt
   obtain ⟨ao,cp,hv,_⟩:=(HH.out k hlt).form
   rw [hv] at hc
   have hs:Hid ((flat ls (k+1)).length=(flat ls k).length+(ls.getD k []).length):=by
    show _=_
    rw [iB _ _ (by rw [HL.out];exact hlt)];simp
   have hle:=lR ls (k+1)
   have hle2:(flat ls k).length+(ls.getD k []).length≤16777216:=by have:=hs.out;omega
   clear hv hle
   generalize hg:(ls.getD k []).length=m at *
   clear hg
   go_wp2
   go_round
   case rel=>exact ⟨k+1,by omega,by go_num,by rw [hs.out];go_num⟩
   case measure=>simp [intOf];omega
  ·have hkn:k=vs.length:=by omega
   have hle:=lR ls k
   subst hkn
   go_wp2_with (go_at_call 161;refine (uC _ _ (by omega)).mono ?_;rintro e w1 ⟨v1,rfl,ho1,hb1⟩)
   go_loopw [6,27] (fun v i wr=>∃ k:Nat,k≤vs.length∧i=.int .i64 k∧Owns wr w.heap.size v (flat ls k)∧Below w.heap.size w wr) (fun _ i _=>vs.length-(intOf i).toNat)
   case atStart=>exact ⟨0,Nat.zero_le _,rfl,by rw [iA];exact ho1,hb1⟩
   case round=>
    obtain ⟨k,hk,rfl,ho,hb⟩:=hrel
    by_cases hlt:k<vs.length
    ·have hc0:=HC.out k hlt
     have hc:wr.cell? ⟨K,k,none⟩=some (vs.getD k undef):=(hb.cell (World.block_lt_of_cell? w _ hc0)).trans hc0
     have hx:=(HH.out k hlt).below hb
     have hle:=lR ls (k+1)
     have hkl:k<ls.length:=by rw [HL.out];exact hlt
     have hfs:Hid (flat ls (k+1)=flat ls k++ls.getD k []):=iB _ _ hkl
     rw [hfs.out,lA] at hle
     have hsz:=hb.size
     generalize vs.getD k undef=x at *
     generalize ls.getD k []=y at *
     clear hc0
     go_wp2_with (at_builtin;refine kf rfl (.tmp 31) (.tmp 32) rfl w.heap.size _ x (flat ls k) y rfl rfl ho hx (by omega) hsz ?_)
     intro v2 w2 ho2 hb2
     rw [← hfs.out] at ho2
     have hb3:=hb.trans hb2
     clear ho hb hc hx hb2 hfs
     go_wp2
     go_roundw
     case rel=>exact ⟨k+1,by omega,by go_num,ho2,hb3⟩
     case measure=>simp [intOf];omega
    ·have hkn:k=vs.length:=by omega
     subst hkn
     rw [uD ls vs.length (by rw [HL.out];exact Nat.le_refl _)] at ho
     go_wp2
     go_ret
     exact ⟨_,rfl,ho,hb⟩
theorem lS (vb:Value) (b:List Int) (n:Nat) (w:World) (hb:Has w vb b) (hn:n<18446744073709551616) (hlen:b.length≤1000000):
  Calls Tryz.prog 84 #[vb,.int .u64 n] w fun e w'=>∃ v,e=.returned v∧Owns w' w.heap.size v (b++enc n)∧Below w.heap.size w w':=by
 have hl10:=aP hn
 obtain ⟨ao,cap,hv,_⟩:=hb.form
 subst hv
 go_enter Tryz.func84,Tryz.ntmps84
 go_wp2_with (go_at_call 126;refine (eC n _ hn).mono ?_;rintro e w1 ⟨v1,rfl,ho1,hb1⟩;obtain ⟨ao1,cp1,hv1,_⟩:=(Owns.has ho1).form;subst hv1)
 have ho1':Owns w1 w.heap.size _ (enc n):=ho1
 have hb2:Below w.heap.size w (w1.alloc (.cells #[.slice ao b.length cap,.slice ao1 (enc n).length cp1] 35)):=hb1.alloc hb1.size _
 have hh:=hb.below hb2
 have ho2:=(ho1'.below ((Below.refl _ w1).alloc (Nat.le_refl _) _) (Nat.le_refl _)).has (w:=(w1.alloc (.cells #[.slice ao b.length cap,.slice ao1 (enc n).length cp1] 35)))
 refine (ar w1.heap.size 2 [.slice ao b.length cap,.slice ao1 (enc n).length cp1] [b,enc n] _ rfl (by simp) ?c1 ?c2 (by simp;omega)).mono ?_
 case c1=>
  intro i hi
  match i,hi with
  | 0,_=>simp
  | 1,_=>simp
 case c2=>
  intro i hi
  match i,hi with
  | 0,_=>exact hh
  | 1,_=>exact ho2
 rintro e w2 ⟨v2,rfl,ho3,hb3⟩
 have R1:Owns w2 w.heap.size v2 (b++enc n):=by
  have:=ho3.mono (lo':=w.heap.size) (by have:=hb1.size;simp;omega)
  simpa using this
 have R2:=Below.up hb2 hb3
 clear ho3 hb3 ho2 hh hb2 ho1' ho1 hb1 hb
 go_wp2
 go_ret
 exact ⟨_,rfl,R1,R2⟩
def strB (s:ByteArray):List Int:=s.data.toList.map fun c=>(c.toNat:Int)
theorem bW (s:ByteArray):(strB s).length=s.size:=by simp [strB]
theorem ry (s:ByteArray) (i:Nat) (h:i<s.size):(strB s).getD i 0=(s.data[i].toNat:Int):=by
 have h':i<s.data.size:=h
 simp [strB,List.getD,Array.getElem?_eq_getElem h']
theorem add0 (B i:Nat):(⟨B,0,none⟩:Addr).add i=⟨B,i,none⟩:=by
 cases i<;>simp [Addr.add]
theorem uE (s:ByteArray) (w:World):∃ (G:Nat) (w':World),(convert 9 35 (.string s)).run Tryz.prog w=.ok (.slice (some ⟨w.heap.size,0,none⟩) s.size G) w'∧
  Has w' (.slice (some ⟨w.heap.size,0,none⟩) s.size G) (strB s)∧Below w.heap.size w w':=by
 refine ⟨_,_,run_bytes_of_string w 9 35 5 s Tryz.underlying9 Tryz.underlying35 Tryz.underlying5,?_,(Below.refl _ _).drew.alloc (Nat.le_refl _) _⟩
 generalize hG:grownCap w s.size 0 5=G
 have hGn:s.size≤G:=by rw [← hG];exact grownCap_ge _ _ _ _
 refine .inr ⟨_,G,by rw [bW],by rw [bW];exact hGn,fun i hi=>?_⟩
 rw [bW] at hi
 rw [ry s i hi]
 have hj:=bytesRow_at s G i hi
 have hh:(w.drew.alloc (.cells (bytesRow s G) 5 ((bytesRow s G).size,(bytesRow s G).size+1))).heap[w.heap.size]?=some (.cells (bytesRow s G) 5 ((bytesRow s G).size,(bytesRow s G).size+1)):=heap_alloc_new w.drew _
 rw [add0]
 simp only [World.cell?,hh]
 exact hj
theorem lT (vb:Value) (b:List Int) (s:ByteArray) (w:World) (hb:Has w vb b) (hs:s.size≤100000) (hlen:b.length≤800000):
  Calls Tryz.prog 127 #[vb,.string s] w fun e w'=>∃ v,e=.returned v∧Owns w' w.heap.size v (b++(enc s.size++strB s))∧Below w.heap.size w w':=by
 have hn:s.size<18446744073709551616:=by omega
 have hl10:=aP hn
 obtain ⟨ao,cap,hv,_⟩:=hb.form
 subst hv
 go_enter Tryz.func127,Tryz.ntmps127
 go_wp2_with (go_at_call 126;refine (eC s.size _ hn).mono ?_;rintro e w1 ⟨v1,rfl,ho1,hb1⟩;obtain ⟨ao1,cp1,hv1,_⟩:=(Owns.has ho1).form;subst hv1;obtain ⟨G,wt,hconv,hht,hbt⟩:=uE s w1)
 have ho1':Owns w1 w.heap.size _ (enc s.size):=ho1
 have hb2:Below w.heap.size w (wt.alloc (.cells #[.slice ao b.length cap,.slice ao1 (enc s.size).length cp1,.slice (some ⟨w1.heap.size,0,none⟩) s.size G] 35)):=(Below.up hb1 hbt).alloc (Nat.le_trans hb1.size hbt.size) _
 have hbt2:Below wt.heap.size wt (wt.alloc (.cells #[.slice ao b.length cap,.slice ao1 (enc s.size).length cp1,.slice (some ⟨w1.heap.size,0,none⟩) s.size G] 35)):=(Below.refl _ _).alloc (Nat.le_refl _) _
 have hh:=hb.below hb2
 have ho2:=(ho1'.has.below hbt).below hbt2
 have ht2:=hht.below hbt2
 refine (ar wt.heap.size 3 [.slice ao b.length cap,.slice ao1 (enc s.size).length cp1,.slice (some ⟨w1.heap.size,0,none⟩) s.size G] [b,enc s.size,strB s] _ rfl (by simp) ?c1 ?c2 (by simp [bW];omega)).mono ?_
 case c1=>
  intro i hi
  match i,hi with
  | 0,_=>simp
  | 1,_=>simp
  | 2,_=>simp
 case c2=>
  intro i hi
  match i,hi with
  | 0,_=>exact hh
  | 1,_=>exact ho2
  | 2,_=>exact ht2
 rintro e w2 ⟨v2,rfl,ho3,hb3⟩
 have R1:Owns w2 w.heap.size v2 (b++(enc s.size++strB s)):=by
  have:=ho3.mono (lo':=w.heap.size) (by have:=hb1.size;have:=hbt.size;simp;omega)
  simpa using this
 have R2:=Below.up hb2 hb3
 clear ho3 hb3 ho2 hh hb2 ho1' ho1 hb1 hb hconv hht hbt hbt2 ht2
 go_wp2
 go_ret
 exact ⟨_,rfl,R1,R2⟩
def Rdr (w:World) (lo R:Nat) (l:List Int) (p:Nat) (fa fe:Int):Prop:=
 ∃ v,w.heap[R]?=some (.cells #[v,.int .i64 p,.int .i64 fa,.string ⟨#[]⟩,.int .i64 fe] 158 (0,0))∧Owns w lo v l∧(∀ k,v.ownBlock=some k→k<R)∧lo≤R∧p≤l.length∧l.length≤16777216
theorem qN {w:World} {R:Nat} {c0 c1 c2 c3 c4:Value} (h:w.heap[R]?=some (.cells #[c0,c1,c2,c3,c4] 158 (0,0))):
  w.cell? ⟨R,0,none⟩=some c0∧w.cell? ⟨R,1,none⟩=some c1∧w.cell? ⟨R,2,none⟩=some c2∧w.cell? ⟨R,3,none⟩=some c3∧w.cell? ⟨R,4,none⟩=some c4∧(∀ o,w.frozen? ⟨R,o,none⟩=false):=by
 refine ⟨?_,?_,?_,?_,?_,?_⟩<;>simp [World.cell?,World.frozen?,h]
theorem Rdr.lt {w:World} {lo R:Nat} {l:List Int} {p:Nat} {fa fe:Int} (h:Rdr w lo R l p fa fe):R<w.heap.size:=by
 obtain ⟨v,hh,_⟩:=h
 exact (gS hh)
theorem Rdr.kept {w w':World} {lo R:Nat} {l:List Int} {p:Nat} {fa fe:Int} (h:Rdr w lo R l p fa fe) (hb:∀ k,lo≤k→k≤R→w'.heap[k]?=w.heap[k]?):Rdr w' lo R l p fa fe:=by
 obtain ⟨v,hh,ho,hk,hl,hr⟩:=h
 exact ⟨v,(hb R hl (Nat.le_refl _)).trans hh,ho.block (fun k e=>hb k (ho.lt k e).1 (Nat.le_of_lt (hk k e))),hk,hl,hr⟩
theorem Rdr.below {w w':World} {lo R:Nat} {l:List Int} {p:Nat} {fa fe:Int} (h:Rdr w lo R l p fa fe) (hb:Below w.heap.size w w'):Rdr w' lo R l p fa fe:=
 h.kept fun k _ hk=>hb.block k (Nat.lt_of_le_of_lt hk h.lt)
def flt (p e:Int):Value:=.iface 93 (.agg #[.int .i64 p,.string ⟨#[]⟩,.int .i64 e])
theorem kJ (p e:Int) (w:World):
  Calls Tryz.prog 97 #[.int .i64 p,.int .i64 e] w fun x w'=>x=.panicked [{ v:=flt p e,recovered:=false }]∧w'=w:=by
 go_enter Tryz.func97,Tryz.ntmps97
 go_wp2
 exact ⟨rfl,rfl,rfl⟩
theorem jh (R:Nat) (fe:Int) (w:World) (h:w.cell? ⟨R,4,none⟩=some (.int .i64 fe)):
  Calls Tryz.prog 93 #[.pointer (some ⟨R,0,none⟩)] w fun x w'=>x=.returned (.bool (fe !=0))∧w'=w:=by
 go_enter Tryz.func93,Tryz.ntmps93
 go_wp2
 go_ret
 exact ⟨rfl,rfl⟩
theorem mh (vb:Value) (b:List Int) (w:World) (hb:Has w vb b) (hlen:b.length≤16777216):
  Calls Tryz.prog 60 #[vb] w fun e w'=>∃ R,e=.returned (.pointer (some ⟨R,0,none⟩))∧w.heap.size≤R∧Rdr w' w.heap.size R b 0 0 0∧Below w.heap.size w w':=by
 go_enter Tryz.func60,Tryz.ntmps60
 go_wp2_with (go_at_call 90;refine (dF vb b _ hb hlen).mono ?_;rintro e w1 ⟨v1,rfl,ho1,hb1⟩;obtain ⟨ao1,cp1,hv1,_⟩:=ho1.has.form;subst hv1)
 have hb2:Below w1.heap.size w1 (w1.alloc (.cells #[.slice ao1 b.length cp1,.int .i64 0,.int .i64 0,.string ⟨#[]⟩,.int .i64 0] 158)):=(Below.refl _ _).alloc (Nat.le_refl _) _
 have R1:Rdr (w1.alloc (.cells #[.slice ao1 b.length cp1,.int .i64 0,.int .i64 0,.string ⟨#[]⟩,.int .i64 0] 158)) w.heap.size w1.heap.size b 0 0 0:=
  ⟨_,heap_alloc_new w1 _,ho1.below hb2 (Nat.le_refl _),fun k hk=>(ho1.lt k hk).2,hb1.size,Nat.zero_le _,hlen⟩
 have R2:=Below.up hb1 hb2
 have R3:=hb1.size
 clear hb2 ho1 hb1 hb
 go_ret
 exact ⟨_,rfl,R3,R1,R2⟩
theorem kw (R:Nat) (a:Nat) (g n cap:Nat) (c:Int) (w:World) (h0:w.cell? ⟨R,0,none⟩=some (.slice (some ⟨g,0,none⟩) n cap)) (_hn:n≤16777216) (ha:a<n) (hc:w.cell? ⟨g,a,none⟩=some (.int .u8 c)):
  Calls Tryz.prog 129 #[.pointer (some ⟨R,0,none⟩),.int .i64 a] w fun x w'=>x=.returned (.int .u8 c)∧w'=w:=by
 go_enter Tryz.func129,Tryz.ntmps129
 go_wp2
 go_ret
 exact ⟨rfl,rfl⟩
theorem eD (R:Nat) (a:Nat) (ao:Option Addr) (n cap:Nat) (w:World) (h0:w.cell? ⟨R,0,none⟩=some (.slice ao n cap)) (_hn:n≤16777216) (ha:n≤a) (_ha2:a≤32000000):
  Calls Tryz.prog 129 #[.pointer (some ⟨R,0,none⟩),.int .i64 a] w fun x w'=>x=.panicked [{ v:=flt n 10,recovered:=false }]∧w'=w:=by
 go_enter Tryz.func129,Tryz.ntmps129
 go_wp2_with (go_at_call 97;refine (kJ _ _ _).mono ?_;rintro e w1 ⟨rfl,rfl⟩)
 exact ⟨rfl,rfl,rfl⟩
theorem mi (R:Nat) (a:Nat) (k:Int) (ao:Option Addr) (n cap:Nat) (w:World) (h0:w.cell? ⟨R,0,none⟩=some (.slice ao n cap)) (_hn:n≤16777216) (ha:a≤n) (hk:(n:Int)-a<k) (hk2:k≤9223372036854775807):
  Calls Tryz.prog 94 #[.pointer (some ⟨R,0,none⟩),.int .i64 a,.int .i64 k] w fun x w'=>x=.panicked [{ v:=flt n 10,recovered:=false }]∧w'=w:=by
 go_enter Tryz.func94,Tryz.ntmps94
 go_wp2_with (go_at_call 97;refine (kJ _ _ _).mono ?_;rintro e w1 ⟨rfl,rfl⟩)
 exact ⟨rfl,rfl,rfl⟩
theorem Has.cut {w:World} {ao:Option Addr} {cap:Nat} {l:List Int} (h:Has w (.slice ao l.length cap) l) (a k:Nat) (hk:a+k≤l.length) (hcap:l.length≤cap):
  (cap=a→Has w (.slice ao k 0) ((l.drop a).take k))∧(¬ cap=a→Has w (.slice (Option.map (fun x=>x.add a) ao) k (cap-a)) ((l.drop a).take k)):=by
 have hlen:((l.drop a).take k).length=k:=by simp;omega
 constructor
 ·intro hca
  have hk0:k=0:=by omega
  subst hk0
  cases ao with
  | none=>exact .inl ⟨rfl,by simp⟩
  | some x=>exact .inr ⟨x,0,by simp,by simp,fun i hi=>absurd hi (by simp)⟩
 ·intro hca
  rcases h with ⟨h1,h2⟩ | ⟨x,cp,hv,hc,hcell⟩
  ·subst h2
   simp at h1 hk
   omega
  ·simp at hv
   obtain ⟨rfl,rfl⟩:=hv
   refine .inr ⟨x.add a,cap-a,by rw [hlen];rfl,by rw [hlen];omega,fun i hi=>?_⟩
   rw [hlen] at hi
   rw [Addr.add_add,hcell (a+i) (by omega)]
   simp [List.getD,hi]
theorem rz (R:Nat) (a k:Nat) (ao:Option Addr) (cap:Nat) (l:List Int) (w:World) (h0:w.cell? ⟨R,0,none⟩=some (.slice ao l.length cap)) (hn:l.length≤16777216) (hcap:l.length≤cap) (ha:a+k≤l.length):
  Calls Tryz.prog 94 #[.pointer (some ⟨R,0,none⟩),.int .i64 a,.int .i64 k] w fun x w'=>∃ ao' cp',x=.returned (.slice ao' k cp')∧w'=w∧∀ w2,Has w2 (.slice ao l.length cap) l→Has w2 (.slice ao' k cp') ((l.drop a).take k):=by
 have H1:Hid (∀ w2,Has w2 (.slice ao l.length cap) l→cap=a→Has w2 (.slice ao k 0) ((l.drop a).take k)):=fun w2 hh=>(hh.cut a k ha hcap).1
 have H2:Hid (∀ w2,Has w2 (.slice ao l.length cap) l→¬ cap=a→Has w2 (.slice (Option.map (fun x=>x.add a) ao) k (cap-a)) ((l.drop a).take k)):=fun w2 hh=>(hh.cut a k ha hcap).2
 go_enter Tryz.func94,Tryz.ntmps94
 go_wp2_with (go_at_call 97;refine (kJ _ _ _).mono ?_;rintro e w1 ⟨rfl,rfl⟩)
 ·go_ret
  have e:cap=a:=by assumption
  exact ⟨_,_,rfl,rfl,fun w2 h2=>H1.out w2 (by rw [e];exact h2) e⟩
 ·go_ret
  exact ⟨_,_,rfl,rfl,fun w2 h2=>H2.out w2 h2 (by assumption)⟩
def yh (a n:Nat):Rd→Ending
 | .ok m k=>.returned (.tuple #[.int .u64 m,.int .i64 (a+k:Nat)])
 | .form i=>.panicked [{ v:=flt (a+i:Nat) 11,recovered:=false }]
 | .short=>.panicked [{ v:=flt n 10,recovered:=false }]
theorem and127 (c:Int) (h0:0≤c) (h1:c<256):bits .and .u8 c 127=((c.toNat%128:Nat):Int):=by
 rw [u8_and c 127 h0 h1 (by decide) (by decide)]
 congr 1
 have:=Nat.and_two_pow_sub_one_eq_mod c.toNat 7
 simpa using this
theorem sG (acc k:Nat) (c:Int) (hk:k≤9) (hacc:acc<128 ^ k) (h0:0≤c) (h1:c<256) (h9:k=9→c=1):
  bits .or .u64 (acc:Int) (IntKind.u64.wrap (IntKind.u64.wrap (bits .and .u8 c 127)*2 ^ (7*k)))=((acc+c.toNat%128*128 ^ k:Nat):Int):=by
 rw [and127 c h0 h1]
 generalize hm:c.toNat%128=m
 have hm128:m<128:=by omega
 have hp:∀ j,j≤9→128 ^ j≤9223372036854775808:=by decide
 have hp8:∀ j,j≤8→128 ^ j≤72057594037927936:=by decide
 have hpk:=hp k hk
 have e2:(2:Nat) ^ (7*k)=128 ^ k:=by rw [Nat.pow_mul]
 have hlt:m*128 ^ k<18446744073709551616:=by
  by_cases h:k=9
  ·have:=h9 h;subst this
   subst h
   simp at hm
   subst hm
   decide
  ·have h8:=hp8 k (by omega)
   have:m*128 ^ k≤127*72057594037927936:=Nat.mul_le_mul (by omega) h8
   omega
 have w1:IntKind.u64.wrap ((m:Nat):Int)=(m:Int):=by rw [IntKind.wrap_u64];omega
 have w2:IntKind.u64.wrap ((m:Int)*2 ^ (7*k))=((m*128 ^ k:Nat):Int):=by
  have:((m:Int)*2 ^ (7*k))=((m*128 ^ k:Nat):Int):=by
   rw [← e2];simp
  rw [this,IntKind.wrap_u64];omega
 rw [w1,w2,bits_or_u64_nat _ _ (by omega) hlt]
 congr 1
 have h:=Nat.two_pow_add_eq_or_of_lt (i:=7*k) (b:=acc) (by rw [e2];exact hacc) m
 rw [e2,Nat.mul_comm (128 ^ k) m] at h
 rw [Nat.or_comm,← h,Nat.add_comm]
theorem a0R {a n k acc:Nat} {c:Int} {r:Rd} {t:List Int} (hk:k≤9) (hacc:acc<128 ^ k) (h0:0≤c) (h1:c<256) (hb:¬ bad k c=true) (hc:c<128) (hr:r=(rd k (c::t)).plus acc):
  Ending.returned (.tuple #[.int .u64 (bits .or .u64 (acc:Int) (IntKind.u64.wrap (IntKind.u64.wrap (bits .and .u8 c 127)*2 ^ (7*k)))),.int .i64 ((a:Int)+k+1)])=yh a n r:=by
 have h9:k=9→c=1:=by
  intro h;subst h
  simp [bad] at hb
  omega
 rw [sG acc k c hk hacc h0 h1 h9,hr]
 simp only [rd,hb,Bool.false_eq_true,if_false,hc,if_true,Rd.plus,yh]
 have e1:c.toNat%128=c.toNat:=by omega
 rw [e1]
 simp [Int.add_assoc]
theorem wM {k acc:Nat} {c:Int} {r:Rd} {t:List Int} (hb:¬ bad k c=true) (hc:¬ c<128) (hr:r=(rd k (c::t)).plus acc):
  r=(rd (k+1) t).plus (acc+c.toNat%128*128 ^ k):=by
 rw [hr]
 simp only [rd,hb,Bool.false_eq_true,if_false,hc]
 cases rd (k+1) t<;>simp [Rd.plus,Nat.add_assoc]
theorem wN {k acc:Nat} {c:Int} (hacc:acc<128 ^ k):acc+c.toNat%128*128 ^ k<128 ^ (k+1):=by
 have h:c.toNat%128*128 ^ k≤127*128 ^ k:=Nat.mul_le_mul_right _ (by omega)
 rw [Nat.pow_succ];omega
theorem ml {a n k acc:Nat} {c:Int} {r:Rd} {t:List Int} (hb:bad k c=true) (hr:r=(rd k (c::t)).plus acc):
  Ending.panicked [{ v:=flt ((a:Int)+k) 11,recovered:=false }]=yh a n r:=by
 rw [hr]
 simp [rd,hb,Rd.plus,yh]
theorem sH {a n k acc:Nat} {r:Rd} {t:List Int} (ht:t=[]) (hr:r=(rd k t).plus acc):
  Ending.panicked [{ v:=flt n 10,recovered:=false }]=yh a n r:=by
 rw [hr,ht]
 simp [rd,Rd.plus,yh]
theorem oD (R a:Nat) (ao:Option Addr) (cap:Nat) (l:List Int) (w:World) (hB:Bytes l) (h0:w.cell? ⟨R,0,none⟩=some (.slice ao l.length cap)) (hg:∀ i,i<l.length→∃ g,ao=some ⟨g,0,none⟩∧w.cell? ⟨g,i,none⟩=some (.int .u8 (l[i]?.getD 0))) (hn:l.length≤16777216) (ha:a≤l.length):
  Calls Tryz.prog 96 #[.pointer (some ⟨R,0,none⟩),.int .i64 a] w fun x w'=>x=yh a l.length (rd 0 (l.drop a))∧w'=w:=by
 have HG:Hid (∀ i,i<l.length→∃ g,ao=some ⟨g,0,none⟩∧w.cell? ⟨g,i,none⟩=some (.int .u8 (l[i]?.getD 0))):=hg
 clear hg
 go_enter Tryz.func96,Tryz.ntmps96
 go_wp2_with fail
 go_loopw [6,7] (fun n i wr=>∃ k acc:Nat,wr=w∧k≤9∧a+k≤l.length∧acc<128 ^ k∧i=.int .i64 k∧n=.int .u64 acc∧rd 0 (l.drop a)=(rd k (l.drop (a+k))).plus acc) (fun _ i _=>10-(intOf i).toNat)
 case atStart=>exact ⟨0,0,rfl,by omega,by omega,by simp,rfl,rfl,by cases rd 0 (l.drop a)<;>simp [Rd.plus]⟩
 case round=>
  obtain ⟨k,acc,rfl,hk9,hak,hacc,rfl,rfl,hrd⟩:=hrel
  have HR:Hid (rd 0 (l.drop a)=(rd k (l.drop (a+k))).plus acc):=hrd
  clear hrd
  by_cases hlt:a+k<l.length
  ·obtain ⟨g,hao,hcg⟩:=HG.out (a+k) hlt
   have hcb:=hB.at hlt
   have HR2:Hid (rd 0 (l.drop a)=(rd k ((l[a+k]?.getD 0)::l.drop (a+k+1))).plus acc):=by
    have e:l.drop (a+k)=(l[a+k]?.getD 0)::l.drop (a+k+1):=by
     rw [List.drop_eq_getElem_cons hlt];simp [gl hlt]
    show _=_
    rw [← e];exact HR.out
   clear HR HG hB
   generalize l[a+k]?.getD 0=c at *
   subst hao
   by_cases hbad:bad k c=true
   ·by_cases hc0:c≤0
    ·have hkp:0<k:=by
      rcases Nat.eq_zero_or_pos k with h | h
      ·subst h;simp [bad] at hbad
      ·exact h
     go_wp2_with (first | (go_at_call 129;refine (kw R _ g l.length cap c _ h0 hn (by exact hlt) (by exact hcg)).mono ?_;rintro e w1 ⟨rfl,rfl⟩) | (go_at_call 97;refine (kJ _ _ _).mono ?_;rintro e w2 ⟨rfl,rfl⟩))
     exact ⟨rfl,ml hbad HR2.out,rfl⟩
    ·have hk':k=9∧c≠1:=by
      simp [bad] at hbad
      rcases hbad with h | h
      ·omega
      ·exact h
     obtain ⟨rfl,hc1⟩:=hk'
     have hc2:2≤c:=by omega
     have hb1:(c !=1)=true:=by simp;omega
     have hb0:(c==0)=false:=by simp;omega
     clear hc1
     go_wp2_with (first | (go_at_call 129;refine (kw R _ g l.length cap c _ h0 hn (by exact hlt) (by exact hcg)).mono ?_;rintro e w1 ⟨rfl,rfl⟩) | (go_at_call 97;refine (kJ _ _ _).mono ?_;rintro e w2 ⟨rfl,rfl⟩))
     exact ⟨rfl,ml hbad HR2.out,rfl⟩
   ·by_cases hc:c<128
    ·have hk3:k=0∨(0<k∧k<9∧0<c)∨(k=9∧c=1):=by
      simp [bad] at hbad;omega
     have R1:=a0R (a:=a) (n:=l.length) hk9 hacc hcb.1 hcb.2 hbad hc HR2.out
     have HR1:Hid (Ending.returned (.tuple #[.int .u64 (bits .or .u64 (acc:Int) (IntKind.u64.wrap (IntKind.u64.wrap (bits .and .u8 c 127)*2 ^ (7*k)))),.int .i64 ((a:Int)+k+1)])=yh a l.length (rd 0 (l.drop a))):=R1
     clear R1 hbad HR2
     rcases hk3 with rfl | ⟨hk1,hk2,hc0⟩ | ⟨rfl,rfl⟩
     ·go_wp2_with (go_at_call 129;refine (kw R _ g l.length cap c _ h0 hn (by exact hlt) (by exact hcg)).mono ?_;rintro e w1 ⟨rfl,rfl⟩)
      go_ret2
      exact ⟨by simpa using HR1.out,rfl⟩
     ·go_wp2_with (go_at_call 129;refine (kw R _ g l.length cap c _ h0 hn (by exact hlt) (by exact hcg)).mono ?_;rintro e w1 ⟨rfl,rfl⟩)
      go_ret2
      exact ⟨HR1.out,rfl⟩
     ·go_wp2_with (go_at_call 129;refine (kw R _ g l.length cap 1 _ h0 hn (by exact hlt) (by exact hcg)).mono ?_;rintro e w1 ⟨rfl,rfl⟩)
      go_ret2
      exact ⟨by simpa using HR1.out,rfl⟩
    ·have hk3:k<9∧(k=0∨0<k):=by
      simp [bad] at hbad;omega
     obtain ⟨hk8,hk3⟩:=hk3
     have R1:Hid (rd 0 (l.drop a)=(rd (k+1) (l.drop (a+(k+1)))).plus (acc+c.toNat%128*128 ^ k)):=wM hbad hc HR2.out
     have R2:=wN (c:=c) hacc
     have R3:Hid (bits .or .u64 (acc:Int) (IntKind.u64.wrap (IntKind.u64.wrap (bits .and .u8 c 127)*2 ^ (7*k)))=((acc+c.toNat%128*128 ^ k:Nat):Int)):=sG acc k c hk9 hacc hcb.1 hcb.2 (by omega)
     clear hbad HR2
     rcases hk3 with rfl | hk1
     ·go_wp2_with (go_at_call 129;refine (kw R _ g l.length cap c _ h0 hn (by exact hlt) (by exact hcg)).mono ?_;rintro e w1 ⟨rfl,rfl⟩)
      go_roundw
      case rel=>exact ⟨1,_,trivial,by omega,by omega,R2,by go_num,congrArg (Value.int .u64) (by simpa using R3.out),R1.out⟩
      case measure=>simp [intOf]
     ·go_wp2_with (go_at_call 129;refine (kw R _ g l.length cap c _ h0 hn (by exact hlt) (by exact hcg)).mono ?_;rintro e w1 ⟨rfl,rfl⟩)
      go_roundw
      case rel=>exact ⟨k+1,_,trivial,by omega,by omega,R2,by go_num,congrArg (Value.int .u64) R3.out,R1.out⟩
      case measure=>simp [intOf];omega
  ·have hak':a+k=l.length:=by omega
   have R1:Hid (Ending.panicked [{ v:=flt l.length 10,recovered:=false }]=yh a l.length (rd 0 (l.drop a))):=sH (by rw [hak'];simp) HR.out
   clear HR HG hB
   have hge:l.length≤a+k:=by omega
   clear hak'
   go_wp2_with (go_at_call 129;refine (eD R (a+k) ao l.length cap _ h0 hn hge (by omega)).mono ?_;rintro e w1 ⟨rfl,rfl⟩)
   exact ⟨rfl,R1.out,rfl⟩
end Go.Proofs.YtjikkhbcbfpocaaGreatDoor.Wi
