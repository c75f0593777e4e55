/- Contracts: sums and products of the program, before they are limited. -/
import Derived.Test.YthelgcikobhonaaDoorWb
import Derived.StillTailTactics
namespace Go.Proofs.YthelgcikobhonaaDoor
open Go Go.RowKit OriM

/-- A left shift that fits. -/
theorem shl_fits {a : Int} (n : Int) (a1 : -131072 ≤ a) (a2 : a ≤ 131072) (n0 : 0 ≤ n) (n1 : n ≤ 10) : ∃ s : Int, IntKind.i64.wrap (a * 2 ^ n.toNat) = s ∧ s = a * 2 ^ n.toNat ∧ -134217728 ≤ s ∧ s ≤ 134217728 := by
  have h : ∃ p : Int, p = 2 ^ n.toNat ∧ 1 ≤ p ∧ p ≤ 1024 := ⟨_, rfl, by have := two_pow_pos n.toNat; omega, by
    have e : (2 : Int) ^ 10 = 2 ^ n.toNat * 2 ^ (10 - n.toNat) := pow_split (by omega)
    have p1 := two_pow_pos n.toNat
    have p2 := two_pow_pos (10 - n.toNat)
    have : (2 : Int) ^ n.toNat * 1 ≤ 2 ^ n.toNat * 2 ^ (10 - n.toNat) := Int.mul_le_mul_of_nonneg_left (by omega) (by omega)
    rw [← e] at this
    simpa using this⟩
  obtain ⟨p, hp, p1, p2⟩ := h
  rw [← hp]
  have l1 : a * p ≤ 131072 * p := Int.mul_le_mul_of_nonneg_right a2 (by omega)
  have l2 : -131072 * p ≤ a * p := Int.mul_le_mul_of_nonneg_right a1 (by omega)
  refine ⟨a * p, ?_, rfl, by omega, by omega⟩
  simp [IntKind.wrap, IntKind.signed, IntKind.bits]
  omega

/-- Sums over a common power. -/
def plusA (a k a' k' : Int) : Int := a * 2 ^ (max k k' - k).toNat + a' * 2 ^ (max k k' - k').toNat

/-- Products fit. -/
theorem mul_fits {p q : Int} (m n : Nat) (p1 : -(m : Int) ≤ p) (p2 : p ≤ m) (q1 : -(n : Int) ≤ q) (q2 : q ≤ n) : -((m : Int) * n) ≤ p * q ∧ p * q ≤ (m : Int) * n := by
  have h : (p * q).natAbs ≤ m * n := by rw [Int.natAbs_mul]; exact Nat.mul_le_mul (by omega) (by omega)
  have e : ((m * n : Nat) : Int) = (m : Int) * n := by simp
  omega

def timesA (a b a' b' : Int) : Int := a * a' + 2 * b * b'
def timesB (a b a' b' : Int) : Int := a * b' + b * a'
end Go.Proofs.YthelgcikobhonaaDoor
