import Derived.Test.YtjikkhbcbfpocaaGreatDoorCount
namespace Go.Proofs.YtjikkhbcbfpocaaGreatDoor
open Go.RowKit
def wpS (s:Nat) (md:Region.Mode) (ops:Array Oper) (Q:Exit→Act→World→Prop):Nat→Array Bool→Act→World→Prop
 | 0,listed,a,w0=>∀ w,G w0 w→Region.ready md ops listed=[]∧Q .normal a w
 | n+1,listed,a,w0=>∀ w,G w0 w→(Region.ready md ops listed=[]→Q .normal a w)∧
  ∀ i∈Region.ready md ops listed,wpOp Tryz.prog ops Q i (fun a' w'=>(i=s→Region.ready md ops (listed.setIfInBounds i true)=[]∧Q .normal a' w')∧(i≠s→G w w'∧wpS s md ops Q n (listed.setIfInBounds i true) a' w')) a w
theorem wpS.grow {s:Nat} {md:Region.Mode} {ops:Array Oper} {Q:Exit→Act→World→Prop} {n:Nat} {listed:Array Bool} {a:Act} {w w':World} (h:wpS s md ops Q n listed a w) (hg:G w w'):wpS s md ops Q n listed a w':=by
 cases n with
 | zero=>exact fun x hx=>h x (hg.trans hx)
 | succ n=>exact fun x hx=>h x (hg.trans hx)
theorem rY {md:Region.Mode} {ops:Array Oper} {Q:Exit→Act→World→Prop} {listed:Array Bool} {a:Act} {w:World} (hr:Region.ready md ops listed=[]) (h:Q .normal a w):∀ n,wpAny Tryz.prog md ops Q n listed a w
 | 0=>⟨hr,h⟩
 | n+1=>⟨fun _=>h,fun i hi=>by rw [hr] at hi;cases hi⟩
theorem wpS.any {s:Nat} {md:Region.Mode} {ops:Array Oper} {Q:Exit→Act→World→Prop}:∀ (n:Nat) (listed:Array Bool) (a:Act) (w:World),wpS s md ops Q n listed a w→wpAny Tryz.prog md ops Q n listed a w
 | 0,_,_,w,h=>h w (G.refl w)
 | n+1,_,_,w,h=>⟨(h w (G.refl w)).1,fun i hi=>wpOp_mono (fun a' w' h'=>by
   by_cases e:i=s
   ·exact rY (h'.1 e).1 (h'.1 e).2 n
   ·exact wpS.any n _ a' w' (h'.2 e).2) ((h w (G.refl w)).2 i hi)⟩
section
variable {s:Nat} {ops:Array Oper} {Q:Exit→Act→World→Prop} {md:Region.Mode}
end
end Go.Proofs.YtjikkhbcbfpocaaGreatDoor
