/- Decimal numerals: how they are put together. -/
import Derived.Lib.ItoaNum
import Derived.Test.YthelgcikobhonaaDoorProg
namespace Go.Proofs.YthelgcikobhonaaDoor
open Go Go.Lib

theorem dec_small {u : Nat} (h : u < 10) : decDigits u = [UInt8.ofNat (48 + u)] := by rw [decDigits, dif_pos h]
theorem dec_big {u : Nat} (h : 10 ≤ u) : decDigits u = decDigits (u / 10) ++ [UInt8.ofNat (48 + u % 10)] := by rw [decDigits, dif_neg (by omega)]
theorem itoa_small {n : Int} (h0 : 0 ≤ n) (h1 : n < 10) : itoa n = [UInt8.ofNat (48 + n.toNat)] := by
  unfold itoa; rw [if_neg (by omega), dec_small (by omega)]
theorem itoa_big {n : Int} (h : 10 ≤ n) : itoa n = itoa (n / 10) ++ [UInt8.ofNat (48 + (n % 10).toNat)] := by
  unfold itoa
  rw [if_neg (by omega), if_neg (by omega), dec_big (by omega)]
  congr 2
  · congr 1; omega
  · congr 2; omega
theorem itoa_neg {n : Int} (h0 : n < 0) : itoa n = 45 :: itoa (-n) := by
  unfold itoa; rw [if_pos h0, if_neg (by omega)]; congr 2; omega
theorem itoa_low {n : Int} (h : n ≤ -10) : itoa n = itoa (n.tdiv 10) ++ itoa (-(n.tmod 10)) := by
  have e1 : n.tdiv 10 = -((-n) / 10) := by
    rw [show n = -(-n) by omega, Int.neg_tdiv, Int.tdiv_eq_ediv_of_nonneg (by omega)]; omega
  have e2 : n.tmod 10 = -((-n) % 10) := by
    rw [show n = -(-n) by omega, Int.neg_tmod, Int.tmod_eq_emod_of_nonneg (by omega)]; omega
  rw [e1, e2, itoa_neg (by omega), itoa_neg (n := -((-n) / 10)) (by omega), itoa_big (n := -n) (by omega)]
  rw [show - -((-n) / 10) = (-n) / 10 by omega, show - -((-n) % 10) = (-n) % 10 by omega, itoa_small (n := (-n) % 10) (by omega) (by omega)]
  rfl

theorem dec_len : ∀ (k u : Nat), u < 10 ^ (k + 1) → (decDigits u).length ≤ k + 1
  | 0, u, h => by rw [dec_small (by simpa using h)]; simp
  | k + 1, u, h => by
    by_cases h1 : u < 10
    · rw [dec_small h1]; simp
    · rw [dec_big (by omega), List.length_append]
      have h2 : u / 10 < 10 ^ (k + 1) := by rw [Nat.pow_succ] at h; omega
      have := dec_len k (u / 10) h2
      simp; omega
theorem itoa_len {n : Int} (h0 : -2147483648 ≤ n) (h1 : n ≤ 2147483648) : (itoa n).length ≤ 11 := by
  unfold itoa
  split
  · have := dec_len 9 n.natAbs (by omega)
    simp; omega
  · have := dec_len 9 n.toNat (by omega)
    omega

/-- A text, byte by byte. -/
abbrev tv (l : List UInt8) : Value := .string ⟨l.toArray⟩
theorem ba_append (a b : List UInt8) : (⟨a.toArray⟩ : ByteArray) ++ ⟨b.toArray⟩ = ⟨(a ++ b).toArray⟩ := by
  apply ByteArray.ext
  simp [ByteArray.data_append]
end Go.Proofs.YthelgcikobhonaaDoor
