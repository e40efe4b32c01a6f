/- slices.Sorted(maps.Keys(places)): the keys, sorted -/
import Derived.Test.YtmgjdjjfeapcdaaGreatWalA
import Derived.Test.YtmgjdjjfeapcdaaGreatSrt
import Derived.Shelf.SlIterI.Nil
import Derived.Shelf.SortM.Plain
import Derived.Shelf.SortM.SortNone
import Derived.Test.YtmgjdjjfeapcdaaGreatMgAA
import Derived.Maps.StringElems
namespace Go.Proofs.YtmgjdjjfeapcdaaGreat
open Go.RowKit Go.Maps Go.Sort Go.Shelf
end Go.Proofs.YtmgjdjjfeapcdaaGreat
namespace Go.Proofs.YtmgjdjjfeapcdaaGreat
open Go.RowKit Go.Lib Go.Maps Go.Sort Go.Shelf
attribute [local go_sem ↓] Go.wp_at_zero Go.wp_at_succ
end Go.Proofs.YtmgjdjjfeapcdaaGreat
namespace Go.Proofs.YtmgjdjjfeapcdaaGreat
open Go.RowKit Go.Lib Go.Maps Go.Sort Go.Shelf
attribute [local go_sem ↓] Go.wp_at_zero Go.wp_at_succ
theorem drawnB (w:World) (m:Nat):Below w.heap.size w (w.drewN m):=⟨rfl,rfl,rfl,Nat.le_refl _,fun _ _=>rfl⟩
end Go.Proofs.YtmgjdjjfeapcdaaGreat
namespace Go.Proofs.YtmgjdjjfeapcdaaGreat
open Go.RowKit Go.Lib
attribute [local go_sem ↓] Go.wp_at_zero Go.wp_at_succ
end Go.Proofs.YtmgjdjjfeapcdaaGreat
namespace Go.Proofs.YtmgjdjjfeapcdaaGreat
open Go.RowKit Go.Lib Go.Maps
attribute [local go_sem ↓] Go.wp_at_zero Go.wp_at_succ
def updS (F:Int→Option ByteArray) (k:Int) (v:ByteArray):Int→Option ByteArray:=fun x=>if x=k then some v else F x
/- with: F, but s at n -/
def wth (F:Int→Option ByteArray) (n:Int) (s:ByteArray):Int→Option ByteArray:=updS F n s
end Go.Proofs.YtmgjdjjfeapcdaaGreat
