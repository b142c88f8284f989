import Derived.Test.YtjikkhbcbfpocaaGreatDoorMapP
import Derived.Test.YtjikkhbcbfpocaaGreatDoorLast
namespace Go.Proofs.YtjikkhbcbfpocaaGreatDoor
open Go.RowKit
theorem xr.facts {w:World} {P:Nat→Prop} {c:Array Value} {nm:ByteArray} {v:Vd} {m:Md} {ks:F} (h:xr w P c nm v m ks):c.size=41∧c.all (·.oneCell')=true:=by
 obtain ⟨kv2,rfl,hk2⟩:=h
 obtain ⟨a2,cap2,rfl,_⟩:=hk2
 exact ⟨jO ..,kj _ _ _ _ rfl⟩
theorem pF {w w':World} {lo e size n:Nat} {v:Value} {xs:List Value} (h:w.ownsRow lo e size v n xs) (hb:∀ b,lo≤b→w'.heap[b]?=w.heap[b]?):w'.ownsRow lo e size v n xs:=by
 obtain ⟨r1,r2 | ⟨g,cp,cur,rv,rb,rh,rr⟩⟩:=h
 ·exact ⟨r1,.inl r2⟩
 ·exact ⟨r1,.inr ⟨g,cp,cur,rv,rb,(hb g rb).trans rh,rr⟩⟩
theorem MI.start {fv:Vd→Vd} {fm:Md→Md} {w w2 w3:World} {B:Nat} {cm:Array Value} {ks:F} {u:Value} {xs:List Value} {T:Nat→Prop} (h2:Var w2 (B+1) z30∧G w w2∧B+2≤w2.heap.size) (ho:w2.ownsRow (B+2) 30 41 u ks.len xs) (hcs:jx w2 T ks xs) (hT:∀ b,T b→B+2≤b∧UO w2 b∧some b≠u.ownBlock)
  (hwB:w.heap.size=B) (hb:∀ b,b≠B→w3.heap[b]?=w2.heap[b]?) (hs:w3.heap.size=w2.heap.size) (hos:w3.os=w2.os∧w3.tape=w2.tape∧w3.output=w2.output) (hv:Var w3 B cm):MI fv fm w B cm ks u w3 0:=by
 refine ⟨Below.trans (B:=w.heap.size) h2.2.1 ⟨hos.1,hos.2.1,hos.2.2,by omega,fun b hb'=>hb b (by omega)⟩,hv,(hb _ (by omega)).trans h2.1,by omega,[],xs,T,?_,?_,?_,by simp,fun b hb'=>⟨(hT b hb').1,(hT b hb').2.1.same (hb b (by have:=(hT b hb').1;omega)),(hT b hb').2.2⟩⟩
 ·exact pF ho fun b hb'=>hb b (by omega)
 ·rw [F.take_zero];rfl
 ·rw [F.drop_zero];exact hcs.keep fun b hb'=>⟨hb b (by have:=(hT b hb').1;omega),hb'⟩
def unkV (v:Vd):Vd:=if v.kind=3 then v else { v with mode:=8 }
theorem aO (nm:ByteArray) (v:Vd) (m:Md) (kv:Value):(nc nm v m kv)[1]?=some (.int .i64 v.kind):=by simp [nc,vx]
theorem yv (nm:ByteArray) (v:Vd) (m:Md) (kv:Value):(nc nm v m kv)[2]?=some (.int .i64 v.mode):=by simp [nc,vx]
def OB (B:Nat) (w w':World):Prop:=w'.heap.size=w.heap.size∧(∀ b,b≠B→w'.heap[b]?=w.heap[b]?)∧w'.os=w.os∧w'.tape=w.tape∧w'.output=w.output
theorem OB.trans {B:Nat} {a b c:World} (h:OB B a b) (k:OB B b c):OB B a c:=⟨k.1.trans h.1,fun i hi=>(k.2.1 i hi).trans (h.2.1 i hi),k.2.2.1.trans h.2.2.1,k.2.2.2.1.trans h.2.2.2.1,k.2.2.2.2.trans h.2.2.2.2⟩
theorem OB.setRow (w:World) (B:Nat) (c:Array Value):OB B w (w.setRow B c):=⟨by simp,fun b hb=>setRow_other _ B b _ hb,rfl,rfl,rfl⟩
theorem OB.setCell (w:World) (B i:Nat) (v:Value):OB B w (w.setCell ⟨B,i,none⟩ v):=⟨by simp,fun b hb=>Below.heap_setCell _ _ _ _ hb,rfl,rfl,rfl⟩
theorem OB.setCells (B:Nat):∀ (vs:List Value) (o:Nat) (w:World),OB B w (w.setCells B o vs)
 | [],_,_=>⟨rfl,fun _ _=>rfl,rfl,rfl,rfl⟩
 | v::r,o,w=>(OB.setCell w B o v).trans (OB.setCells B r (o+1) _)
theorem MI.of {fv:Vd→Vd} {fm:Md→Md} {w w2 w3:World} {B:Nat} {cm:Array Value} {ks:F} {u:Value} {xs:List Value} {T:Nat→Prop} (h2:Var w2 (B+1) z30∧G w w2∧B+2≤w2.heap.size) (ho:w2.ownsRow (B+2) 30 41 u ks.len xs) (hcs:jx w2 T ks xs) (hT:∀ b,T b→B+2≤b∧UO w2 b∧some b≠u.ownBlock)
  (hwB:w.heap.size=B) (hob:OB B w2 w3) (hv:Var w3 B cm):MI fv fm w B cm ks u w3 0:=MI.start h2 ho hcs hT hwB hob.2.1 hob.1 hob.2.2 hv
end Go.Proofs.YtjikkhbcbfpocaaGreatDoor
