import Derived.Test.YtjikkhbcbfpocaaGreatDoorGrows
namespace Go.Proofs.YtjikkhbcbfpocaaGreatDoor
open Go.RowKit
def wpS (s:Nat) (md:Region.Mode) (ops:Array Oper) (Q:Exit→Act→World→Prop):Nat→Array Bool→Act→World→Prop
 | 0,listed,a,w0=>∀ w,G w0 w→Region.ready md ops listed=[]∧Q .normal a w
 | n+1,listed,a,w0=>∀ w,G w0 w→(Region.ready md ops listed=[]→Q .normal a w)∧
  ∀ i∈Region.ready md ops listed,wpOp Tryz.prog ops Q i (fun a' w'=>(i=s→Region.ready md ops (listed.setIfInBounds i true)=[]∧Q .normal a' w')∧(i≠s→G w w'∧wpS s md ops Q n (listed.setIfInBounds i true) a' w')) a w
theorem wpS.grow {s:Nat} {md:Region.Mode} {ops:Array Oper} {Q:Exit→Act→World→Prop} {n:Nat} {listed:Array Bool} {a:Act} {w w':World} (h:wpS s md ops Q n listed a w) (hg:G w w'):wpS s md ops Q n listed a w':=by
 cases n with
 | zero=>exact fun x hx=>h x (hg.trans hx)
 | succ n=>exact fun x hx=>h x (hg.trans hx)
theorem tI {md:Region.Mode} {ops:Array Oper} {Q:Exit→Act→World→Prop} {listed:Array Bool} {a:Act} {w:World} (hr:Region.ready md ops listed=[]) (h:Q .normal a w):∀ n,wpAny Tryz.prog md ops Q n listed a w
 | 0=>⟨hr,h⟩
 | n+1=>⟨fun _=>h,fun i hi=>by rw [hr] at hi;cases hi⟩
theorem wpS.any {s:Nat} {md:Region.Mode} {ops:Array Oper} {Q:Exit→Act→World→Prop}:∀ (n:Nat) (listed:Array Bool) (a:Act) (w:World),wpS s md ops Q n listed a w→wpAny Tryz.prog md ops Q n listed a w
 | 0,_,_,w,h=>h w (G.refl w)
 | n+1,_,_,w,h=>⟨(h w (G.refl w)).1,fun i hi=>wpOp_mono (fun a' w' h'=>by
   by_cases e:i=s
   ·exact tI (h'.1 e).1 (h'.1 e).2 n
   ·exact wpS.any n _ a' w' (h'.2 e).2) ((h w (G.refl w)).2 i hi)⟩
section
variable {s:Nat} {ops:Array Oper} {Q:Exit→Act→World→Prop} {md:Region.Mode}
def mG (md:Region.Mode) (ops:Array Oper) (s i:Nat):Bool:=(i !=s)&&(match ops[s]? with | some os=>os.after.any fun e=>Region.binds md e&&e.on==i | none=>true)
theorem zC {i:Nat} (h:mG md ops s i=true):i≠s∧∀ os,ops[s]?=some os→∃ e∈os.after,Region.binds md e=true∧e.on=i:=by
 unfold mG at h
 simp only [Bool.and_eq_true,bne_iff_ne] at h
 refine ⟨h.1,fun os ho=>?_⟩
 have h2:=h.2
 rw [ho] at h2
 simp only [Array.any_eq_true',Bool.and_eq_true,beq_iff_eq] at h2
 obtain ⟨e,he,hb,hon⟩:=h2
 exact ⟨e,he,hb,hon⟩
end
end Go.Proofs.YtjikkhbcbfpocaaGreatDoor
