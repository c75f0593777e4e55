/- The walk of FnExactValidLine over the contracts of both functions. -/
import Derived.Test.YthhjkiiggokfkaaDoorGl
import Derived.Deep.RegionHeld3
import Derived.Deep.DeepCutAuto
import Derived.Deep.DrawnRows
namespace Go.Proofs.YthhjkiiggokfkaaDoor
open Go Go.RowKit OriM
variable {β : Bool}
attribute [local go_sem ↓] Go.wp_at_zero Go.wp_at_succ

end Go.Proofs.YthhjkiiggokfkaaDoor
