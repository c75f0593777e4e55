/- Contracts of the model's signs; the program's SignNum and CompareNum. -/
import Derived.Test.YtlmfbcffmalkkaaDoorWs
import Derived.Test.YtlmfbcffmalkkaaDoorSd
namespace Go.Proofs.YtlmfbcffmalkkaaDoor
open Go Go.RowKit OriM

theorem sq_bounds' {x : Int} (h0 : -1073741824 ≤ x) (h1 : x ≤ 1073741824) : 0 ≤ x * x ∧ x * x ≤ 1152921504606846976 := by
  rcases (show x < 0 ∨ 0 ≤ x by omega) with h | h
  · have := sq_bounds (x := -x) (by omega) (by omega)
    rwa [Int.neg_mul_neg] at this
  · exact sq_bounds h h1

theorem sgn_low (a b : Int) (k : Nat) : Q.sgn2 (lowA a b k) (lowB a b k) = Q.sgn2 a b := by
  obtain ⟨h1, h2⟩ := twos_dvd k a b
  rw [← Q.sgn2_scale (two_pow_pos (twos k a b)) (lowA a b k) (lowB a b k)]
  congr 1
  · unfold lowA; rw [Int.mul_comm]; exact h1.symm
  · unfold lowB; rw [Int.mul_comm]; exact h2.symm

theorem div_small {q c x : Int} (p : 0 < q) (h : x = q * c) (x1 : -268435456 ≤ x) (x2 : x ≤ 268435456) : -1073741824 ≤ c ∧ c ≤ 1073741824 := by
  constructor
  · apply Int.le_of_not_gt; intro hc
    have : q * c ≤ 1 * c := Int.mul_le_mul_of_nonpos_right (by omega) (by omega)
    omega
  · apply Int.le_of_not_gt; intro hc
    have : 1 * c ≤ q * c := Int.mul_le_mul_of_nonneg_right (by omega) (by omega)
    omega
theorem low_small {a b : Int} (k : Nat) (a1 : -268435456 ≤ a) (a2 : a ≤ 268435456) (b1 : -268435456 ≤ b) (b2 : b ≤ 268435456) : -1073741824 ≤ lowA a b k ∧ lowA a b k ≤ 1073741824 ∧ -1073741824 ≤ lowB a b k ∧ lowB a b k ≤ 1073741824 := by
  obtain ⟨h1, h2⟩ := twos_dvd k a b
  have p := two_pow_pos (twos k a b)
  obtain ⟨x, y⟩ := div_small p h1 a1 a2
  obtain ⟨z, t⟩ := div_small p h2 b1 b2
  exact ⟨x, y, z, t⟩
end Go.Proofs.YtlmfbcffmalkkaaDoor
