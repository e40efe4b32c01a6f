/- The contracts of cmp.Compare at int, int64 and string, and of cmp.Or at three numbers that lie in one block. -/
import Derived.Test.YtmkfkjicfmllmaaDoorBase
namespace Go.Proofs.YtmkfkjicfmllmaaDoor
open Go.RowKit

def cmpI (x y : Int) : Int := if x < y then -1 else if y < x then 1 else 0
def cmpS (x y : ByteArray) : Int := if Op.bytesLess x.toList y.toList then -1 else if x.toList == y.toList then 0 else 1
def orI (x y z : Int) : Int := if x = 0 then (if y = 0 then z else y) else x

end Go.Proofs.YtmkfkjicfmllmaaDoor
