import Derived.Test.YtjikkhbcbfpocaaGreatDoorMapP
import Derived.Test.YtjikkhbcbfpocaaGreatDoorLast
namespace Go.Proofs.YtjikkhbcbfpocaaGreatDoor
open Go.RowKit
theorem zL.facts {w:World} {P:Nat→Prop} {c:Array Value} {nm:ByteArray} {v:Vd} {m:Md} {ks:F} (h:zL w P c nm v m ks):c.size=41∧c.all (·.oneCell')=true:=by
 obtain ⟨kv2,rfl,hk2⟩:=h
 obtain ⟨a2,cap2,rfl,_⟩:=hk2
 exact ⟨jO ..,qz _ _ _ _ rfl⟩
def unkV (v:Vd):Vd:=if v.kind=3 then v else { v with mode:=8 }
theorem cf (nm:ByteArray) (v:Vd) (m:Md) (kv:Value):(nc nm v m kv)[1]?=some (.int .i64 v.kind):=by simp [nc,vx]
theorem zF (nm:ByteArray) (v:Vd) (m:Md) (kv:Value):(nc nm v m kv)[2]?=some (.int .i64 v.mode):=by simp [nc,vx]
def noM (_:Md):Md:=Md.zero
def OB (B:Nat) (w w':World):Prop:=w'.heap.size=w.heap.size∧(∀ b,b≠B→w'.heap[b]?=w.heap[b]?)∧w'.os=w.os∧w'.tape=w.tape∧w'.output=w.output
theorem OB.trans {B:Nat} {a b c:World} (h:OB B a b) (k:OB B b c):OB B a c:=⟨k.1.trans h.1,fun i hi=>(k.2.1 i hi).trans (h.2.1 i hi),k.2.2.1.trans h.2.2.1,k.2.2.2.1.trans h.2.2.2.1,k.2.2.2.2.trans h.2.2.2.2⟩
theorem OB.setRow (w:World) (B:Nat) (c:Array Value):OB B w (w.setRow B c):=⟨by simp,fun b hb=>setRow_other _ B b _ hb,rfl,rfl,rfl⟩
theorem OB.setCell (w:World) (B i:Nat) (v:Value):OB B w (w.setCell ⟨B,i,none⟩ v):=⟨by simp,fun b hb=>Below.heap_setCell _ _ _ _ hb,rfl,rfl,rfl⟩
theorem OB.setCells (B:Nat):∀ (vs:List Value) (o:Nat) (w:World),OB B w (w.setCells B o vs)
 | [],_,_=>⟨rfl,fun _ _=>rfl,rfl,rfl,rfl⟩
 | v::r,o,w=>(OB.setCell w B o v).trans (OB.setCells B r (o+1) _)
def pv (ver:Int) (v:Vd):Vd:=if ver=1 then unkV v else v
def pm (ver:Int) (m:Md):Md:=if ver=1∨ver=2 then Md.zero else m
end Go.Proofs.YtjikkhbcbfpocaaGreatDoor
