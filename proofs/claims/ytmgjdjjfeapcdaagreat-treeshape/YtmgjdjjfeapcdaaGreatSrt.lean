/- the library's contracts for sorted keys at this program -/
import Derived.Shelf.SlGeneric
import Derived.Shelf.SlIterI.Nil
import Derived.Shelf.SortM.Plain
import Derived.Shelf.SortM.SortNone
import Derived.Ground.GgzProg
import Derived.Ground.SlgmProg
import Derived.Test.YtmgjdjjfeapcdaaGreatProg
namespace Go.Proofs
open Go.Shelf
end Go.Proofs
