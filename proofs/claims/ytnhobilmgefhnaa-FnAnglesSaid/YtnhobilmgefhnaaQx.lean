/- Alternating sums, Kawasaki's condition: the walks of the laws. -/
import Derived.Test.YtnhobilmgefhnaaQw
namespace Go.Proofs.Ytnhobilmgefhnaa
open Go Go.RowKit

/-- A bool; nothing old turned. -/
def RetBl (b : Bool) (w : World) (e : Ending) (w' : World) : Prop := e = .returned (.bool b) ∧ Below w.heap.size w w'
def kaw (b : Bool) (xs : List Int) : Bool := b && (alt b xs == 0)

set_option maxHeartbeats 1000000 in
theorem iKW_any (v : Value) (xs : List Int) (hx : Ints xs) (b : Bool) (hv : b = true ↔ AltP xs) (w : World) (h : Sl w w.heap.size v xs) (hl : xs.length ≤ 1048576) :
    Calls Try.prog 17 #[v] w (RetBl (kaw b xs) w) := by
  have HA := Lib.hid (iAS_any v xs hx b hv w h hl)
  clear hv
  cases b
  · go_enter Try.func17, Try.ntmps17
    go_wp2_with fail
    refine (HA.out).mono ?_
    rintro e w1 ⟨rfl, b1⟩
    go_wp2_with fail
    go_ret
    exact ⟨rfl, b1⟩
  · obtain ⟨z, hz⟩ : ∃ z, alt true xs = z := ⟨_, rfl⟩
    have hk : kaw true xs = (z == 0) := by unfold kaw; rw [hz]; rfl
    rw [hz] at HA
    rw [hk]
    clear hk hz
    go_enter Try.func17, Try.ntmps17
    go_wp2_with fail
    refine (HA.out).mono ?_
    rintro e w1 ⟨rfl, b1⟩
    go_wp2_with fail
    go_ret
    exact ⟨rfl, b1⟩
end Go.Proofs.Ytnhobilmgefhnaa
