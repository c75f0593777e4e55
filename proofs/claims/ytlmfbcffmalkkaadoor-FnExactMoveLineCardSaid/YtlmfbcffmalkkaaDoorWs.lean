/- Contracts of the program's signs: comparisons, doubled squares. -/
import Derived.Test.YtlmfbcffmalkkaaDoorWd
import Derived.WalkSmall
namespace Go.Proofs.YtlmfbcffmalkkaaDoor
open Go Go.RowKit OriM

/-- The square of a number below 2^30, in two words. -/
theorem and_low (x : Int) (h0 : 0 ≤ x) (h1 : x ≤ 1073741824) : bits BinOp.and IntKind.u64 x 4294967295 = x := by
  obtain ⟨n, rfl⟩ := Int.eq_ofNat_of_zero_le h0
  have h := bits_and_u64_nat n 4294967295 (by omega) (by omega)
  rw [show ((4294967295 : Nat) : Int) = 4294967295 from rfl] at h
  rw [h, show (4294967295 : Nat) = 2 ^ 32 - 1 from rfl, Nat.and_two_pow_sub_one_eq_mod]
  omega

/-- Is 2 b b greater than a a? -/
def dbl (b a : Int) : Bool := decide (a * a < 2 * (b * b))

theorem sq_bounds {x : Int} (h0 : 0 ≤ x) (h1 : x ≤ 1073741824) : 0 ≤ x * x ∧ x * x ≤ 1152921504606846976 := by
  have := sq_le h0 h1
  exact ⟨sq_nonneg x, by omega⟩

theorem Ret.q {P : Program} {f : FuncId} {args : Array Value} {w : World} {n : Nat} {v : Value} (h : Calls P f args (w.drewN n) (Ret v (w.drewN n))) :
    Calls P f args (w.drewN n) fun e w'' => e = .returned v ∧ ∃ m, w'' = w.drewN m := h.mono fun _ _ ⟨he, hm⟩ => ⟨he, n, hm.symm⟩

theorem Ret.q2 {P : Program} {f : FuncId} {args : Array Value} {w : World} {a n : Nat} {v : Value} (h : Calls P f args (w.drewN (a + n)) (Ret v (w.drewN (a + n)))) :
    Calls P f args (w.drewN (a + n)) fun e w'' => e = .returned v ∧ ∃ m, w'' = w.drewN (a + m) := h.mono fun _ _ ⟨he, hm⟩ => ⟨he, n, hm.symm⟩

theorem absN_sq (a : Int) : absN a * absN a = a * a := by
  unfold absN
  rcases Int.natAbs_eq a with h | h
  · rw [← h]
  · have e : (a.natAbs : Int) = -a := by omega
    rw [e, Int.neg_mul_neg]

end Go.Proofs.YtlmfbcffmalkkaaDoor
