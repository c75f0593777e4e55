/- SamePolygon: both sides; the walk of its law. -/
import Derived.Test.YthhjkiiggokfkaaQpe
namespace Go.Proofs.Ythhjkiiggokfkaa
open Go Go.RowKit

theorem sz_ok (A : Option Addr) (n c : Nat) (left : Int) (w : World) (h0 : 0 ≤ left) (h1 : left ≤ 1048576) (h : (n : Int) ≤ left) : Calls Try.prog 9 #[.slice A n c, .int .i64 left] w (RetV (.int .i64 (left - n)) w) := by
  go_enter Try.func9, Try.ntmps9
  go_wp2_with fail
  go_ret
  exact ⟨rfl, rfl⟩
theorem sz_no (A : Option Addr) (n c : Nat) (left : Int) (w : World) (h0 : 0 ≤ left) (h1 : left ≤ 1048576) (hn : (n : Int) ≤ 9223372036854775807) (h : left < (n : Int)) : Calls Try.prog 9 #[.slice A n c, .int .i64 left] w (RetV (.int .i64 (-1)) w) := by
  go_enter Try.func9, Try.ntmps9
  go_wp2_with fail
  go_ret
  exact ⟨rfl, rfl⟩

/-- The walk behind the two sizes. -/
theorem SlF.nil {w : World} {hi n : Nat} {v : Value} {fs : List Int} (h : SlF w hi v n fs) : fs.length = n * 6 := h.1

end Go.Proofs.Ythhjkiiggokfkaa
