/- The model's vectors of directions. -/
import Derived.Test.YtafbdnjabgfjeaaDoorGyu
import Derived.Test.YtafbdnjabgfjeaaDoorGyw
import Derived.Deep.RegionHeld3
import Derived.Deep.DeepCutAuto
import Derived.Deep.DrawnRows
namespace Go.Proofs.YtafbdnjabgfjeaaDoor
open Go Go.RowKit OriM
variable {β : Bool}
attribute [local go_sem ↓] Go.wp_at_zero Go.wp_at_succ
theorem lt20 {d : Nat} (h : d < 20) : d = 0 ∨ d = 1 ∨ d = 2 ∨ d = 3 ∨ d = 4 ∨ d = 5 ∨ d = 6 ∨ d = 7 ∨ d = 8 ∨ d = 9 ∨ d = 10 ∨ d = 11 ∨ d = 12 ∨ d = 13 ∨ d = 14 ∨ d = 15 ∨ d = 16 ∨ d = 17 ∨ d = 18 ∨ d = 19 := by omega
theorem svec_any (d : Nat) (hd : d < 20) (w : World) : Calls Tryd.prog 130 #[.int .i64 d] w (RetB (dv (d % 16)) w) := by
  rcases lt20 hd with rfl | rfl | rfl | rfl | rfl | rfl | rfl | rfl | rfl | rfl | rfl | rfl | rfl | rfl | rfl | rfl | rfl | rfl | rfl | rfl
  · exact svec_0 w
  · exact svec_1 w
  · exact svec_2 w
  · exact svec_3 w
  · exact svec_4 w
  · exact svec_5 w
  · exact svec_6 w
  · exact svec_7 w
  · exact svec_8 w
  · exact svec_9 w
  · exact svec_10 w
  · exact svec_11 w
  · exact svec_12 w
  · exact svec_13 w
  · exact svec_14 w
  · exact svec_15 w
  · exact svec_16 w
  · exact svec_17 w
  · exact svec_18 w
  · exact svec_19 w
end Go.Proofs.YtafbdnjabgfjeaaDoor
