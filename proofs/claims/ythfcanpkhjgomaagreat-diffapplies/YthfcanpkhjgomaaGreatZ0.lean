import Derived.Tactics
namespace Go.Proofs.YthfcanpkhjgomaaGreat
theorem sA {α:Type _} (l:List α) (i:Nat) (a:α):l.toArray.setIfInBounds i a=(l.set i a).toArray:=List.setIfInBounds_toArray ..
theorem sB {α:Type _} (x:α) (l:List α) (a:α):(x::l).set 0 a=a::l:=rfl
theorem sC {α:Type _} (x:α) (l:List α) (i:Nat) (a:α):(x::l).set (i+1) a=x::l.set i a:=rfl
theorem sD {α:Type _} (l:List α) (i:Nat) (h:i<l.toArray.size):l.toArray[i]=l[i]'(by simpa using h):=List.getElem_toArray ..
theorem sE {α:Type _} (x:α) (l:List α) (h:0<(x::l).length):(x::l)[0]=x:=rfl
theorem sF {α:Type _} (x:α) (l:List α) (i:Nat) (h:i+1<(x::l).length):(x::l)[i+1]=l[i]'(by simpa using h):=rfl
end Go.Proofs.YthfcanpkhjgomaaGreat
