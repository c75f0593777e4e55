/- The model's remainder. -/
import Derived.Test.YtafbdnjabgfjeaaDoorGdv
import Derived.Deep.RegionHeld3
import Derived.Deep.DeepCutAuto
import Derived.Deep.DrawnRows
namespace Go.Proofs.YtafbdnjabgfjeaaDoor
open Go Go.RowKit OriM
variable {β : Bool}
attribute [local go_sem ↓] Go.wp_at_zero Go.wp_at_succ

theorem smod_any (d m : Int) (w : World) (h : Hid ((d.tmod 16 + 16).tmod 16 = m)) (e1 : Hid (IntKind.i64.wrap (d.tmod 16 + 16) = d.tmod 16 + 16)) :
    Calls Tryd.prog 143 #[.int .i64 d] w (Ret (.int .i64 m) w) := by
  have e1' := e1.out
  have h' := h.out
  go_enter Tryd.func143, Tryd.ntmps143
  go_wp2
  go_ret
  exact ⟨rfl, rfl⟩
theorem smod_int (d : Int) (w : World) : Calls Tryd.prog 143 #[.int .i64 d] w (Ret (.int .i64 (d % 16)) w) := by
  have hb : -16 < d.tmod 16 ∧ d.tmod 16 < 16 := by
    constructor
    · exact Int.lt_tmod_of_pos d (by decide)
    · exact Int.tmod_lt_of_pos d (by decide)
  refine smod_any d _ w (Lib.hid ?_) (Lib.hid (wrap_in (by omega) (by omega)))
  rw [Int.tmod_eq_emod_of_nonneg (show 0 ≤ d.tmod 16 + 16 by omega)]
  rcases Int.le_total 0 d with h | h
  · rw [Int.tmod_eq_emod_of_nonneg h]; omega
  · have : d.tmod 16 = -((-d) % 16) := by
      rw [show d.tmod 16 = -((-d).tmod 16) by rw [Int.neg_tmod, Int.neg_neg], Int.tmod_eq_emod_of_nonneg (show 0 ≤ -d by omega)]
    rw [this]; omega
theorem smod_nat (d : Nat) (w : World) : Calls Tryd.prog 143 #[.int .i64 d] w (Ret (.int .i64 ((d % 16 : Nat) : Int)) w) := by
  have := smod_int d w
  rwa [show (d : Int) % 16 = ((d % 16 : Nat) : Int) by omega] at this
end Go.Proofs.YtafbdnjabgfjeaaDoor
