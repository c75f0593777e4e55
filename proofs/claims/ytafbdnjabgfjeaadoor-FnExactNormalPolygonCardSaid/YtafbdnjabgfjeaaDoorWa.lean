/- Contracts of the smallest functions: comparisons of fields, validity, lowest terms. -/
import Derived.Test.YtafbdnjabgfjeaaDoorMath
import Derived.Test.YtafbdnjabgfjeaaDoorProg
import Derived.WalkKit
import Derived.WalkSpells
import Derived.WalkLawsBesides
import Derived.Below
import Derived.BigRegion
import Derived.BigQuiet
import Derived.Deep.QuietTactic
import Derived.Lib.Hide
import Derived.Deep.Light
import Derived.Deep.RegionWith
namespace Go.Proofs.YtafbdnjabgfjeaaDoor
open Go Go.RowKit OriM

/-- A number as a value. -/
abbrev num (a b k : Int) : Value := .agg #[.int .i64 a, .int .i64 b, .int .i64 k]

def Ret (v : Value) (w : World) (e : Ending) (w' : World) : Prop := e = .returned v ∧ w = w'
def RetB (v : Value) (w : World) (e : Ending) (w' : World) : Prop := e = .returned v ∧ Below w.heap.size w w'

theorem toNum_any (a b k : Int) (w : World) :
    Calls Tryd.prog 98 #[num a b k] w (RetB (num a b k) w) := by
  go_enter Tryd.func98, Tryd.ntmps98
  go_wp2
  exact bodyPost_ret (v := num a b k) (by simp [results, Tryd.results98, go_sem]) rfl ⟨rfl, (((Below.refl _ _).alloc (by simp) _).alloc (by simp) _).alloc (by simp; omega) _⟩

def inB (n low high : Int) : Bool := decide (low ≤ n ∧ n ≤ high)

theorem l00In_any (n low high : Int) (w : World) :
    Calls Tryd.prog 110 #[.int .i64 n, .int .i64 low, .int .i64 high] w (Ret (.bool (inB n low high)) w) := by
  go_enter Tryd.func110, Tryd.ntmps110
  go_wp2
  all_goals go_ret
  · exact ⟨by simp [inB, *], rfl⟩
  · exact ⟨by simp [inB]; omega, rfl⟩

def eqB (a b k a' b' k' : Int) : Bool := a == a' && (b == b' && k == k')

theorem eqNum_any (a b k a' b' k' : Int) (w : World) :
    Calls Tryd.prog 46 #[num a b k, num a' b' k'] w (RetB (.bool (eqB a b k a' b' k')) w) := by
  go_enter Tryd.func46, Tryd.ntmps46
  go_wp2
  all_goals go_ret
  all_goals (go_light; exact ⟨by simp_all [eqB], ((Below.refl _ _).alloc (by simp) _).alloc (by simp) _⟩)

/-- The absolute value. -/
def absN (a : Int) : Int := a.natAbs
theorem absN_le (a : Int) : (absN a ≤ 131072) = (inB a (-131072) 131072 = true) := by
  unfold absN inB; simp only [decide_eq_true_eq]; apply propext; omega
theorem abs_neg {a : Int} (h1 : -9223372036854775808 ≤ a) (h : a < 0) : IntKind.u64.wrap (-IntKind.u64.wrap a) = absN a := by
  unfold absN; simp only [IntKind.wrap_u64]; omega
theorem abs_pos {a : Int} (h : 0 ≤ a) : a = absN a := by unfold absN; omega

theorem absolute_any (a : Int) (w : World) (h1 : -9223372036854775808 ≤ a) (h2 : a ≤ 9223372036854775807) :
    Calls Tryd.prog 166 #[.int .i64 a] w (Ret (.int .u64 (absN a)) w) := by
  by_cases h : a < 0
  · have e := Lib.hid (abs_neg h1 h)
    go_enter Tryd.func166, Tryd.ntmps166
    go_wp2
    go_ret
    exact ⟨by rw [← e.out]; rfl, rfl⟩
  · have e := Lib.hid (abs_pos (a := a) (by omega))
    go_enter Tryd.func166, Tryd.ntmps166
    go_wp2
    go_ret
    exact ⟨by rw [← e.out]; rfl, rfl⟩

/-- Within the limits. -/
def withinB (a b k : Int) : Bool := inB a (-131072) 131072 && (inB b (-131072) 131072 && inB k 0 10)

theorem within_any (a b k : Int) (w : World) (a1 : -9223372036854775808 ≤ a) (a2 : a ≤ 9223372036854775807) (b1 : -9223372036854775808 ≤ b) (b2 : b ≤ 9223372036854775807) :
    Calls Tryd.prog 155 #[num a b k] w (RetB (.bool (withinB a b k)) w) := by
  have la := absN_le a
  have lb := absN_le b
  go_enter Tryd.func155, Tryd.ntmps155
  go_wp2_with (first
    | (go_at_call_of 166 (Value.int .i64 a); refine (absolute_any a _ a1 a2).mono ?_; rintro e w' ⟨rfl, rfl⟩)
    | (go_at_call_of 166 (Value.int .i64 b); refine (absolute_any b _ b1 b2).mono ?_; rintro e w' ⟨rfl, rfl⟩))
  all_goals go_ret
  all_goals (go_light; exact ⟨by simp_all [withinB, inB]; try omega, (Below.refl _ _).alloc (by simp) _⟩)

theorem tmod2 (a : Int) : (a.tmod 2 != 0) = !(a % 2 == 0) := by
  have h1 := Int.dvd_iff_emod_eq_zero (a := 2) (b := a)
  have h2 := Int.dvd_iff_tmod_eq_zero (a := 2) (b := a)
  rw [Bool.eq_iff_iff]
  simp
  exact not_congr (h2.symm.trans h1)

def oddB (a b k : Int) : Bool := k == 0 || (!(a % 2 == 0) || !(b % 2 == 0))
/-- Valid: within the limits and in lowest terms. -/
def validB (a b k : Int) : Bool := withinB a b k && oddB a b k

theorem l01Ok_any (a b k : Int) (w : World) :
    Calls Tryd.prog 111 #[num a b k] w (RetB (.bool (validB a b k)) w) := by
  have ta := tmod2 a
  have tb := tmod2 b
  go_enter Tryd.func111, Tryd.ntmps111
  go_wp2_with (first
    | (go_at_call_of 110 (Value.int .i64 a); refine (l00In_any a _ _ _).mono ?_; rintro e w' ⟨rfl, rfl⟩)
    | (go_at_call_of 110 (Value.int .i64 b); refine (l00In_any b _ _ _).mono ?_; rintro e w' ⟨rfl, rfl⟩)
    | (go_at_call_of 110 (Value.int .i64 k); refine (l00In_any k _ _ _).mono ?_; rintro e w' ⟨rfl, rfl⟩))
  all_goals go_ret
  all_goals (go_light; exact ⟨by simp_all [validB, withinB, oddB], (Below.refl _ _).alloc (by simp) _⟩)

end Go.Proofs.YtafbdnjabgfjeaaDoor
