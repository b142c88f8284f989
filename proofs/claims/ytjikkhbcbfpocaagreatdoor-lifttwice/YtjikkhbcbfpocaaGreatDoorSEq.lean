import Derived.Test.YtjikkhbcbfpocaaGreatDoorSMix
namespace Go.Proofs.YtjikkhbcbfpocaaGreatDoor.Su
open Go.RowKit
theorem a01 (w:World):(sizeOf 5).run Tryz.prog w=.ok 1 w:=by
 have h1:(Tryz.prog.info? 5).map (·.size)=some 1:=by kernel_rfl
 cases hq:Tryz.prog.info? 5 with
 | none=>simp [hq] at h1
 | some i=>
  have hs:i.size=1:=by simpa [hq] using h1
  simp [sizeOf,typeInfo,hq,hs]
theorem vM (c:Array Value) (i:Nat) (x:Nat) (h:c[i]?=some (vb x)) (w:World):(part 5 c (i*1)).run Tryz.prog w=.ok (vb x) w:=by
 have h1:(Tryz.prog.info? 5).map (·.size)=some 1:=by kernel_rfl
 cases hq:Tryz.prog.info? 5 with
 | none=>simp [hq] at h1
 | some j=>
  have hs:j.size=1:=by simpa [hq] using h1
  simp [part,isAgg,run_underlying Tryz.underlying5,sizeOf,typeInfo,hq,hs,h]
end Go.Proofs.YtjikkhbcbfpocaaGreatDoor.Su
