import Derived.Test.YthfcanpkhjgomaaGreatCSame
namespace Go.Proofs.YthfcanpkhjgomaaGreat.Ch
open Go.RowKit
theorem OwnsR.nil (w:World) (lo:Nat):OwnsR w lo (.slice none 0 0) []:=World.ownsRow_nil _ _ _ _
end Go.Proofs.YthfcanpkhjgomaaGreat.Ch
