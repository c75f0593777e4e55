/- Lines through points on both sides: the same line, or none. -/
import Derived.Test.YtafbdnjabgfjeaaDoorGz
import Derived.Test.YtafbdnjabgfjeaaDoorGs
import Derived.Test.YtafbdnjabgfjeaaDoorGeLineAt
namespace Go.Proofs.YtafbdnjabgfjeaaDoor
open Go Go.RowKit OriM
variable {β : Bool}

/-! ### LineAt -/
theorem dot_m64 {d : Nat} (hd : d < 16) {p : P4} (h : M64 p) : dotA d p % 64 = 0 ∧ dotB d p % 64 = 0 := by
  obtain ⟨h1, h2, h3, h4⟩ := h
  rcases lt16 hd with rfl | rfl | rfl | rfl | rfl | rfl | rfl | rfl | rfl | rfl | rfl | rfl | rfl | rfl | rfl | rfl <;> simp [dotA, dotB, xA, xB, yA, yB] <;> omega

/-- LineAt of a valid point: both sides. -/
theorem iLA_g {a b k c d l : Int} (hv : vP a b k c d l = true) (h : I6 a b k c d l) {n : Nat} (hn : n < 8) (w : World) (hT : LT true w) :
    Calls Tryd.prog 27 #[pt a b k c d l, .int .i64 n] w (RetB (lineV n (dotA (n + 4) (gP a b k c d l)) (dotB (n + 4) (gP a b k c d l))) w) := by
  obtain ⟨hb, _⟩ := valid_bp hv
  have hi : inB n 0 7 = true := by simp [inB]; omega
  have HL := fun w (hT : LT true w) => line_g (d := n) (bd2_mono (dot_bd (d := n + 4) (by omega) hb) (by decide)) w hT
  have HD := fun w (hT : LT true w) => dlineAt_g (d := n) (by omega) (bd_mono hb (by decide)) w hT
  rw [Nat.mod_eq_of_lt (show n < 16 by omega), Nat.mod_eq_of_lt (show n + 4 < 16 by omega)] at HD
  have HV := fun w (hT : LT true w) => vectorOf_g (gP a b k c d l) w hT
  rw [← valid_gp hv] at HV HD
  have HI := fun w => (isDir_any (n : Int) w).mono fun _ _ h => h.toB
  rw [hi] at HI
  unfold lineV at HL ⊢
  by_cases ho : gOk (dotA (n + 4) (gP a b k c d l)) (dotB (n + 4) (gP a b k c d l)) = true
  · rw [ho] at HL ⊢
    exact iLA_ok _ _ _ _ _ _ _ _ _ _ _ _ _ _ _ _ _ _ _ _ _ _ w hT (Lib.hid fun w hT => hv ▸ iVP_any h w hT) (Lib.hid fun w _ => HI w) (Lib.hid HV) (Lib.hid HD) (Lib.hid HL)
  · rw [Bool.eq_false_iff.2 ho] at HL ⊢
    exact iLA_ok _ _ _ _ _ _ _ _ _ _ _ _ _ _ _ _ _ _ _ _ _ _ w hT (Lib.hid fun w hT => hv ▸ iVP_any h w hT) (Lib.hid fun w _ => HI w) (Lib.hid HV) (Lib.hid HD) (Lib.hid HL)
end Go.Proofs.YtafbdnjabgfjeaaDoor
