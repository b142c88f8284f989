import Derived.Test.YthfcanpkhjgomaaGreatPCheck
namespace Go.Proofs.YthfcanpkhjgomaaGreat
open Go.RowKit
theorem u8_neI {x y:UInt8} (h:x≠y):((x.toNat:Int) != (y.toNat:Int))=true:=by
 simp;intro q;exact h (UInt8.toNat_inj.1 (by omega))
theorem belowL_self:∀ x:By,belowL x x=false
 | []=>rfl
 | x::xs=>by rw [belowL,if_pos rfl];exact belowL_self xs
end Go.Proofs.YthfcanpkhjgomaaGreat
