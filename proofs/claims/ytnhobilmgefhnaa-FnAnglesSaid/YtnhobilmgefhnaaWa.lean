/- Contracts of the smallest functions: comparisons of fields, validity, lowest terms. -/
import Derived.Test.YtnhobilmgefhnaaProg
import Derived.Test.YtnhobilmgefhnaaMath
import Derived.WalkKit
import Derived.WalkSpells
import Derived.WalkLawsBesides
import Derived.Below
import Derived.BigRegion
import Derived.BigQuiet
import Derived.Deep.QuietTactic
import Derived.Lib.Hide
import Derived.Deep.Light
import Derived.Deep.RegionWith
namespace Go.Proofs.Ytnhobilmgefhnaa
open Go Go.RowKit OriM

/-- A number as a value. -/
abbrev num (a b k : Int) : Value := .agg #[.int .i64 a, .int .i64 b, .int .i64 k]

def Ret (v : Value) (w : World) (e : Ending) (w' : World) : Prop := e = .returned v ∧ w = w'
def RetB (v : Value) (w : World) (e : Ending) (w' : World) : Prop := e = .returned v ∧ Below w.heap.size w w'

def inB (n low high : Int) : Bool := decide (low ≤ n ∧ n ≤ high)

theorem l00In_any (n low high : Int) (w : World) :
    Calls Try.prog 65 #[.int .i64 n, .int .i64 low, .int .i64 high] w (Ret (.bool (inB n low high)) w) := by
  go_enter Try.func65, Try.ntmps65
  go_wp2
  all_goals go_ret
  · exact ⟨by simp [inB, *], rfl⟩
  · exact ⟨by simp [inB]; omega, rfl⟩

def eqB (a b k a' b' k' : Int) : Bool := a == a' && (b == b' && k == k')

/-- The absolute value. -/
def absN (a : Int) : Int := a.natAbs
theorem absN_le (a : Int) : (absN a ≤ 131072) = (inB a (-131072) 131072 = true) := by
  unfold absN inB; simp only [decide_eq_true_eq]; apply propext; omega
theorem abs_neg {a : Int} (h1 : -9223372036854775808 ≤ a) (h : a < 0) : IntKind.u64.wrap (-IntKind.u64.wrap a) = absN a := by
  unfold absN; simp only [IntKind.wrap_u64]; omega
theorem abs_pos {a : Int} (h : 0 ≤ a) : a = absN a := by unfold absN; omega

theorem absolute_any (a : Int) (w : World) (h1 : -9223372036854775808 ≤ a) (h2 : a ≤ 9223372036854775807) :
    Calls Try.prog 50 #[.int .i64 a] w (Ret (.int .u64 (absN a)) w) := by
  by_cases h : a < 0
  · have e := Lib.hid (abs_neg h1 h)
    go_enter Try.func50, Try.ntmps50
    go_wp2
    go_ret
    exact ⟨by rw [← e.out]; rfl, rfl⟩
  · have e := Lib.hid (abs_pos (a := a) (by omega))
    go_enter Try.func50, Try.ntmps50
    go_wp2
    go_ret
    exact ⟨by rw [← e.out]; rfl, rfl⟩

/-- Within the limits. -/
def withinB (a b k : Int) : Bool := inB a (-131072) 131072 && (inB b (-131072) 131072 && inB k 0 10)

theorem tmod2 (a : Int) : (a.tmod 2 != 0) = !(a % 2 == 0) := by
  have h1 := Int.dvd_iff_emod_eq_zero (a := 2) (b := a)
  have h2 := Int.dvd_iff_tmod_eq_zero (a := 2) (b := a)
  rw [Bool.eq_iff_iff]
  simp
  exact not_congr (h2.symm.trans h1)

def oddB (a b k : Int) : Bool := k == 0 || (!(a % 2 == 0) || !(b % 2 == 0))
/-- Valid: within the limits and in lowest terms. -/
def validB (a b k : Int) : Bool := withinB a b k && oddB a b k

end Go.Proofs.Ytnhobilmgefhnaa
