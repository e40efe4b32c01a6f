/- package pool: slices.DeleteFunc over isGone, slices.ContainsFunc over isPinned -/
import Derived.Test.YtmgjdjjfeapcdaaGreatPoL
import Derived.Lib.SlKept
import Derived.Lib.SliceRun
import Derived.Lib.SlicesCompact
namespace Go.Proofs.YtmgjdjjfeapcdaaGreat
open Go.RowKit Go.Lib Go.Maps Go.Sort Go.Shelf
attribute [local go_sem ↓] Go.wp_at_zero Go.wp_at_succ
end Go.Proofs.YtmgjdjjfeapcdaaGreat
namespace Go.Proofs.YtmgjdjjfeapcdaaGreat
open Go.RowKit Go.Lib Go.Maps Go.Sort Go.Shelf
attribute [local go_sem ↓] Go.wp_at_zero Go.wp_at_succ
section
variable {X Y:World} {B D Gp:Nat} {b:Bk} {P:PS} {L:LS} {S:DS}
end
end Go.Proofs.YtmgjdjjfeapcdaaGreat
namespace Go.Proofs.YtmgjdjjfeapcdaaGreat
open Go.RowKit Go.Lib Go.Maps Go.Sort Go.Shelf
attribute [local go_sem ↓] Go.wp_at_zero Go.wp_at_succ
end Go.Proofs.YtmgjdjjfeapcdaaGreat
