/- package pool: Commit -/
import Derived.Test.YtmgjdjjfeapcdaaGreatMgAJ
namespace Go.Proofs.YtmgjdjjfeapcdaaGreat
open Go.RowKit Go.Lib Go.Maps Go.Sort Go.Shelf
attribute [local go_sem ↓] Go.wp_at_zero Go.wp_at_succ
end Go.Proofs.YtmgjdjjfeapcdaaGreat
