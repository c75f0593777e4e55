/- The model's sectors of directions. -/
import Derived.Test.YtnhobilmgefhnaaQs
import Derived.Laws.Pointers
import Derived.StillTactics
namespace Go.Proofs.Ytnhobilmgefhnaa
open Go Go.RowKit

def sec (xs : List Int) (j : Nat) : Int := if j + 1 < xs.length then nth xs (j + 1) - nth xs j else nth xs 0 + 16 - nth xs j
def secs (b : Bool) (xs : List Int) : List Int := if b then tab (sec xs) xs.length else []
theorem secs_len (b : Bool) (xs : List Int) (h : xs.length ≤ 1048576) : (secs b xs).length ≤ 1048576 := by
  unfold secs; split
  · rw [tab_len]; exact h
  · simp
theorem dirsP_no {xs : List Int} {b : Bool} (hb : b = true ↔ DirsP xs) (h : ¬ DirsP xs) : b = false := by
  rcases b with _ | _
  · rfl
  · exact absurd (hb.1 rfl) h
theorem own_ne {w : World} {base : Nat} {e : TypeId} {size : Nat} {v : Value} {n : Nat} {xs : List Value} (h : w.ownsRow base e size v n xs) {g : Nat} (hg : g < base) : some g ≠ v.ownBlock := by
  intro e
  have := (own_row h g e.symm).1
  omega

end Go.Proofs.Ytnhobilmgefhnaa
