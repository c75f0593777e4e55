/- Directions of unit vectors; matrices compared. (find8_dir, iDirTo_g are those of XGzd, dot_m64 that of XGza, without their imports.) -/
import Derived.Test.YtafbdnjabgfjeaaDoorOk
import Derived.Test.YtafbdnjabgfjeaaDoorGlq
namespace Go.Proofs.YtafbdnjabgfjeaaDoor
namespace Com
open Go Go.RowKit OriM
variable {β : Bool}

theorem dot_m64 {d : Nat} (hd : d < 16) {p : P4} (h : M64 p) : dotA d p % 64 = 0 ∧ dotB d p % 64 = 0 := by
  obtain ⟨h1, h2, h3, h4⟩ := h
  rcases lt16 hd with rfl | rfl | rfl | rfl | rfl | rfl | rfl | rfl | rfl | rfl | rfl | rfl | rfl | rfl | rfl | rfl <;> simp [dotA, dotB, xA, xB, yA, yB] <;> omega

end Com
end Go.Proofs.YtafbdnjabgfjeaaDoor
