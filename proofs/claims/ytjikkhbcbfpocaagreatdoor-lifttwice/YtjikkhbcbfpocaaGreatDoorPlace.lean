import Derived.Test.YtjikkhbcbfpocaaGreatDoorOwnF
import Derived.Test.YtjikkhbcbfpocaaGreatDoorDA
set_option maxRecDepth 100000
set_option maxHeartbeats 1000000
namespace Go.Proofs.YtjikkhbcbfpocaaGreatDoor
open Go.RowKit
theorem Tryz.info9:(Tryz.prog.info? 9).map (fun i=>(i.zero,i.size,i.bytes))=some (some (.string ⟨#[]⟩),1,16):=by kernel_rfl
def HasT (w:World) (v:Value) (L:List ByteArray):Prop:=
 (v=.slice none 0 0∧L=[])∨∃ a cap,v=.slice (some a) L.length cap∧L.length≤cap∧∀ i s,L[i]?=some s→w.cell? (a.add i)=some (.string s)
def jz (w:World) (lo:Nat) (v:Value) (L:List ByteArray):Prop:=w.ownsRow lo 9 1 v L.length (L.map Value.string)
theorem jz.has {w:World} {lo:Nat} {v:Value} {l:List ByteArray} (h:jz w lo v l):HasT w v l:=by
 have h0:=h
 obtain ⟨_,h | ⟨g,cap,cur,hv,hg,hh,hn,hm,hs,ht⟩⟩:=h
 ·obtain ⟨rfl,hl⟩:=h
  exact .inl ⟨rfl,List.length_eq_zero_iff.1 hl⟩
 ·subst hv
  refine .inr ⟨_,cap,rfl,hn,fun i s hi=>?_⟩
  have:=World.ownsRow.cells h0 (g:=g) rfl i (.string s) (by simp [hi])
  exact this
theorem jz.nil (w:World) (lo:Nat):jz w lo (.slice none 0 0) []:=World.ownsRow_nil _ _ _ _
theorem jz.lt {w:World} {lo:Nat} {v:Value} {l:List ByteArray} (h:jz w lo v l):∀ k,v.ownBlock=some k→lo≤k∧k<w.heap.size:=World.ownsRow.lt h
theorem jz.mono {w:World} {lo lo':Nat} {v:Value} {l:List ByteArray} (h:jz w lo v l) (hl:lo'≤lo):jz w lo' v l:=by
 obtain ⟨h1,h | ⟨g,cap,cur,hv,hg,hr⟩⟩:=h
 ·exact ⟨h1,.inl h⟩
 ·exact ⟨h1,.inr ⟨g,cap,cur,hv,Nat.le_trans hl hg,hr⟩⟩
theorem HasT.block {w w':World} {v:Value} {l:List ByteArray} (h:HasT w v l) (hb:∀ a:Addr,a.block<w.heap.size→w'.cell? a=w.cell? a):HasT w' v l:=by
 rcases h with h | ⟨a,cap,hv,hc,h⟩
 ·exact .inl h
 ·refine .inr ⟨a,cap,hv,hc,fun i s hi=>?_⟩
  have h1:=h i s hi
  rw [hb _ (World.block_lt_of_cell? w _ h1)]
  exact h1
theorem HasT.below {w w':World} {v:Value} {l:List ByteArray} (h:HasT w v l) (hb:Below w.heap.size w w'):HasT w' v l:=
 h.block fun _ ha=>hb.cell ha
theorem HasT.drew {w w':World} {v:Value} {l:List ByteArray} (h:HasT w v l) (hb:Drew w w'):HasT w' v l:=h.below hb.below
theorem Below.up {w w1 w2:World} (h:Below w.heap.size w w1) (k:Below w1.heap.size w1 w2):Below w.heap.size w w2:=h.trans (k.mono h.size)
theorem HasT.form {w:World} {v:Value} {l:List ByteArray} (h:HasT w v l):∃ ao cap,v=.slice ao l.length cap∧l.length≤cap:=by
 rcases h with ⟨rfl,rfl⟩ | ⟨a,cap,rfl,hc,_⟩
 ·exact ⟨none,0,rfl,Nat.le_refl _⟩
 ·exact ⟨some a,cap,rfl,hc⟩
theorem HasT.at {w:World} {v:Value} {l:List ByteArray} (h:HasT w v l) {k:Nat} {s:ByteArray} (hk:l[k]?=some s):∃ a cap,v=.slice (some a) l.length cap∧w.cell? (a.add k)=some (.string s):=by
 rcases h with ⟨_,rfl⟩ | ⟨a,cap,rfl,_,hc⟩
 ·simp at hk
 ·exact ⟨a,cap,rfl,hc k s hk⟩
theorem xV {w:World} {x:Value} {T:TypeId}:∀ (j:Nat) (u:Value),[x][j]?=some u→(w.alloc (Obj.cells #[x] T)).cell? ((⟨w.heap.size,0,none⟩:Addr).add j)=some u:=by
 intro j u hj
 match j,hj with
 | 0,hj=>simp at hj;subst hj;simp [Addr.add]
theorem ey {w wr w1:World} {v:Value} {o:Obj} (hb:Below w.heap.size w wr) (hown:∀ k,v.ownBlock=some k→w.heap.size≤k) (hg:(wr.alloc o).grownBy w1 v.ownBlock):Below w.heap.size w w1:=
 (hb.alloc hb.size o).grown hg (by have:=hb.size;simp;omega) hown
def leB (nm:ByteArray) (p:ByteArray):Bool:=Op.bytesLess nm.toList p.toList||nm.toList==p.toList
def leP (nm:ByteArray):Option ByteArray→Bool
 | none=>false
 | some p=>leB nm p
def qo (prev:Option ByteArray) (nm:ByteArray) (lev:Nat):Int:=if 64<lev then 43 else if kz (tl nm)=false then 30 else if leP nm prev=true then 42 else 0
theorem dS (a:Option Addr) (N cap k lev:Nat) (g o:Nat) (nm:ByteArray) (prev:Option ByteArray) (w:World) (ha:a=some ⟨g,o,none⟩) (hk:k<N) (hN:N≤9223372036854775807) (hlev:lev≤1000)
  (hs:nm.size≤9223372036854775807) (hn:w.cell? ⟨g,o+k*41,none⟩=some (.string nm)) (hp:(k=0∧prev=none)∨∃ j p,k=j+1∧prev=some p∧w.cell? ⟨g,o+j*41,none⟩=some (.string p)):
  Calls Tryz.prog 113 #[.slice a N cap,.int .i64 k,.int .i64 lev] w fun e w'=>e=.returned (.int .i64 (qo prev nm lev))∧G w w':=by
 subst ha
 have C:=ca nm w hs
 have hkI:(k:Int)<(N:Int):=by omega
 obtain ⟨R,hR⟩:∃ R,qo prev nm lev=R:=⟨_,rfl⟩
 rw [hR]
 have HR:=hid hR
 clear hR
 by_cases h1:64<lev
 ·have h1I:(64:Int)<(lev:Int):=by omega
  have HF:Hid (R=43):=by show _=_;rw [← HR.o,qo,if_pos h1]
  clear h1
  go_enter Tryz.func113,Tryz.ntmps113
  go_wp2_with fail
  go_ret
  exact ⟨by rw [HF.o];rfl,G.refl w⟩
 ·have h1I:¬ (64:Int)<(lev:Int):=by omega
  obtain ⟨b,hb⟩:∃ b,kz (tl nm)=b:=⟨_,rfl⟩
  rw [hb] at C
  have HB:=hid hb
  clear hb
  cases b with
  | false=>
   have HF:Hid (R=30):=by show _=_;rw [← HR.o,qo,if_neg h1,if_pos HB.o]
   rw [show eno false=30 from rfl] at C
   clear h1
   go_enter Tryz.func113,Tryz.ntmps113
   go_wp2_with (go_at_call 136;refine C.mono ?_;rintro e w1 ⟨rfl,b1⟩)
   go_ret
   exact ⟨by rw [HF.o];rfl,b1⟩
  | true=>
   rw [show eno true=0 from rfl] at C
   have HE:Hid (R=if leP nm prev=true then 42 else 0):=by show _=_;rw [← HR.o,qo,if_neg h1,if_neg (by rw [HB.o];simp)]
   clear h1
   rcases hp with ⟨hk0,rfl⟩ | ⟨j,p,rfl,rfl,hp⟩
   ·have hk0':¬ 0<k:=by omega
    clear hk0
    have HF:Hid (R=0):=by show _=_;rw [HE.o];rfl
    go_enter Tryz.func113,Tryz.ntmps113
    go_upto_region 6 with (go_at_call 136;refine C.mono ?_;rintro e w1 ⟨rfl,b1⟩)
    have B1:Hid (G w w1):=b1
    refine qO ?_
    have HD:Hid (G w w1.drew):=B1.o.trans (G.drew _)
    generalize w1.drew=w2 at *
    refine fG 0 19 (.int .i64 k) ?_
    refine gG 1 20 (.bool false) ?_
    refine fG 2 21 (.bool false) ?_
    refine qu 3 22 ?_
    refine qu 4 23 ?_
    refine qu 5 24 ?_
    refine qu 6 25 ?_
    refine qu 7 26 ?_
    refine qu 8 27 ?_
    refine qu 9 28 ?_
    refine qu 10 29 ?_
    refine qu 11 30 ?_
    refine qu 12 31 ?_
    refine qu 13 32 ?_
    refine qu 14 33 ?_
    refine gG 15 34 (.bool false) ?_
    refine bL (by kernel_rfl) (fun w3 hg3=>?_)
    go_wp2_with fail
    go_ret
    exact ⟨by rw [HF.o];rfl,HD.o.trans hg3⟩
   ·have j1:(0:Int)<((j+1:Nat):Int):=by omega
    have j2:IntKind.i64.wrap (((j+1:Nat):Int)-1)=(j:Int):=by rw [IntKind.wrap_i64];omega
    have j3:(j:Int)<(N:Int):=by omega
    obtain ⟨bl,hbl⟩:∃ b,leB nm p=b:=⟨_,rfl⟩
    have HBL:Hid (leB nm p=bl):=hbl
    unfold leB at hbl
    have jp:0<j+1:=by omega
    generalize hj:j+1=jj at *
    clear hj
    go_enter Tryz.func113,Tryz.ntmps113
    go_upto_region 6 with (go_at_call 136;refine C.mono ?_;rintro e w1 ⟨rfl,b1⟩)
    have B1:Hid (G w w1):=b1
    refine qO ?_
    have HD:Hid (G w w1.drew):=B1.o.trans (G.drew _)
    have n1:=HD.o.cell hn
    have n2:=HD.o.cell hp
    generalize w1.drew=w2 at *
    refine fG 0 19 (.int .i64 jj) ?_
    refine gG 1 20 (.bool true) ?_
    refine fG 2 21 (.bool true) ?_
    refine fG 3 22 (.slice (some ⟨g,o,none⟩) N cap) ?_
    refine fG 4 23 (.int .i64 jj) ?_
    refine gG 5 24 (.pointer (some ⟨g,o+jj*41,none⟩)) ?_
    refine gG 6 25 (.pointer (some ⟨g,o+jj*41,none⟩)) ?_
    refine qx 7 26 (.string nm) (fun wz hz=>?_) ?_
    ·have y0:=hz.cell n1;go_simp
    refine fG 8 27 (.slice (some ⟨g,o,none⟩) N cap) ?_
    refine fG 9 28 (.int .i64 jj) ?_
    refine gG 10 29 (.int .i64 j) ?_
    refine gG 11 30 (.pointer (some ⟨g,o+j*41,none⟩)) ?_
    refine gG 12 31 (.pointer (some ⟨g,o+j*41,none⟩)) ?_
    refine qx 13 32 (.string p) (fun wz hz=>?_) ?_
    ·have y0:=hz.cell n2;go_simp
    refine gG 14 33 (.bool bl) ?_
    refine gG 15 34 (.bool bl) ?_
    refine bL (by kernel_rfl) (fun w3 hg3=>?_)
    cases bl with
    | false=>
     have HF:Hid (R=0):=by show _=_;rw [HE.o,leP,HBL.o];rfl
     go_wp2_with fail
     go_ret
     exact ⟨by rw [HF.o];rfl,HD.o.trans hg3⟩
    | true=>
     have HF:Hid (R=42):=by show _=_;rw [HE.o,leP,HBL.o];rfl
     go_wp2_with fail
     go_ret
     exact ⟨by rw [HF.o];rfl,HD.o.trans hg3⟩
end Go.Proofs.YtjikkhbcbfpocaaGreatDoor
