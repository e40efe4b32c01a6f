/- The contract of value.Order: the order of two values, by kind, number and text of the clean values. -/
import Derived.Test.YtmkfkjicfmllmaaDoorCmp
import Derived.Test.YtmkfkjicfmllmaaDoorPut
import Derived.Deep.RegionHeld3
import Derived.Deep.DeepCutAuto
import Derived.Deep.RegionWith
import Derived.Deep.DrawnRows
namespace Go.Proofs.YtmkfkjicfmllmaaDoor
open Go.RowKit
attribute [local go_sem ↓] Go.wp_at_zero Go.wp_at_succ

def ordV (k n : Int) (s : ByteArray) (k' n' : Int) (s' : ByteArray) : Int := orI (cmpI (ck k) (ck k')) (cmpI (cn k n) (cn k' n')) (cmpS (cs k s) (cs k' s'))

end Go.Proofs.YtmkfkjicfmllmaaDoor
