import Derived.Test.YthfcanpkhjgomaaGreatCSame
import Derived.Test.YthfcanpkhjgomaaGreatNode
import Derived.Test.YthfcanpkhjgomaaGreatRefOrder
import Derived.Shelf.Small.Strs
set_option maxRecDepth 100000
namespace Go.Proofs.YthfcanpkhjgomaaGreat
open Go.RowKit
def belowS (p nm:ByteArray):ByteArray:=if p.toList.isEmpty then nm else p++⟨#[47]⟩++nm
theorem below13_any (p nm:ByteArray) (w:World) (hp:p.size≤1000000) (hn:nm.size≤1000000):Calls Tryz.prog 109 #[.string p,.string nm] w fun e w'=>e=.returned (.string (belowS p nm))∧w'=w:=by
 by_cases h:p.toList.isEmpty=true
 ·have e:belowS p nm=nm:=if_pos h
  rw [e]
  go_enter Tryz.func109,Tryz.ntmps109
  go_wp2
  all_goals go_ret
  all_goals exact ⟨rfl,rfl⟩
 ·have e:belowS p nm=p++⟨#[47]⟩++nm:=if_neg h
  have h':p.toList.isEmpty=false:=by simpa using h
  rw [e]
  clear h
  go_enter Tryz.func109,Tryz.ntmps109
  go_wp2
  all_goals go_ret
  all_goals exact ⟨rfl,rfl⟩
theorem under24v:Tryz.prog.underlying 24=some (.struct (Tryz.prog.fieldsOf 24)):=by kernel_rfl
theorem size24v:(Tryz.prog.info? 24).map (·.size)=some 35:=by kernel_rfl
def vzA:Array Value:=(Ch.vx Ch.vz).toArray
theorem zero24v:(Tryz.prog.info? 24).bind (·.zero)=some (.agg vzA):=by kernel_rfl
theorem vx_oneM (v:Vd):(vx v).toArray.all (·.oneCell')=true:=by
 have:=Ch.vx_oneA ⟨v.kind,v.mode,v.size,v.sum,v.len⟩
 exact this
open Go.Shelf
attribute [local go_sem] Oper.semAt_some
end Go.Proofs.YthfcanpkhjgomaaGreat
