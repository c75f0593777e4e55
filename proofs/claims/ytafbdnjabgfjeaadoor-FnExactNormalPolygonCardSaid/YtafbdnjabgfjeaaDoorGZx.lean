/- Lines through points on both sides: the same line, or none. -/
import Derived.Test.YtafbdnjabgfjeaaDoorGl
import Derived.Test.YtafbdnjabgfjeaaDoorGc
import Derived.Test.YtafbdnjabgfjeaaDoorGsx
import Derived.Deep.RegionHeld3
import Derived.Deep.DeepCutAuto
import Derived.Deep.DrawnRows
namespace Go.Proofs.YtafbdnjabgfjeaaDoor
open Go Go.RowKit OriM
variable {β : Bool}

/-! ### LineAt -/
theorem dot_m64 {d : Nat} (hd : d < 16) {p : P4} (h : M64 p) : dotA d p % 64 = 0 ∧ dotB d p % 64 = 0 := by
  obtain ⟨h1, h2, h3, h4⟩ := h
  rcases lt16 hd with rfl | rfl | rfl | rfl | rfl | rfl | rfl | rfl | rfl | rfl | rfl | rfl | rfl | rfl | rfl | rfl <;> simp [dotA, dotB, xA, xB, yA, yB] <;> omega

end Go.Proofs.YtafbdnjabgfjeaaDoor
