/- Alternating sums: the model's. -/
import Derived.Test.YtnhobilmgefhnaaQt
namespace Go.Proofs.Ytnhobilmgefhnaa
open Go Go.RowKit

/-- The first k differences, added up. -/
def altK (xs : List Int) : Nat → Int
  | 0 => 0
  | k + 1 => altK xs k + (nth xs (2 * k) - nth xs (2 * k + 1))
def AltP (xs : List Int) : Prop := Vs xs ∧ xs.length % 2 = 0
def alt (b : Bool) (xs : List Int) : Int := if b then altK xs (xs.length / 2) else 0
theorem altK_bd {xs : List Int} (h : Tl xs) (k : Nat) (hk : 2 * k ≤ xs.length) : -(16 * (k : Int)) ≤ altK xs k ∧ altK xs k ≤ 16 * (k : Int) := by
  induction k with
  | zero => simp [altK]
  | succ k ih =>
    have h1 := ih (by omega)
    have h2 := tl_nth h (k := 2 * k) (by omega)
    have h3 := tl_nth h (k := 2 * k + 1) (by omega)
    simp only [altK]
    omega
theorem altP_no {xs : List Int} {b : Bool} (hb : b = true ↔ AltP xs) (h : ¬ AltP xs) : b = false := by
  rcases b with _ | _
  · rfl
  · exact absurd (hb.1 rfl) h

/-- A number and a bool; the world has drawn, no more. -/
def RetIB (x : Int) (b : Bool) (w : World) (e : Ending) (w' : World) : Prop := e = .returned (.tuple #[.int .i64 x, .bool b]) ∧ Below w.heap.size w w'

end Go.Proofs.Ytnhobilmgefhnaa
