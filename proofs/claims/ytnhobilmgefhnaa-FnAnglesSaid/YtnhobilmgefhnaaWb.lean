/- Contracts: trailing zeros, lowest terms, validity, limits. -/
import Derived.Test.YtnhobilmgefhnaaWa
import Derived.Laws.Bits64b
import Derived.Deep.RegionHeld3
namespace Go.Proofs.Ytnhobilmgefhnaa
open Go Go.RowKit OriM

theorem tz_key (x a : Nat) (hx : x < 18446744073709551616) (hx0 : x ≠ 0) (hlow : x &&& (18446744073709551616 - x) = a) :
    IntKind.u64.wrap (bits BinOp.and IntKind.u64 (x : Int) (IntKind.u64.wrap (-(x : Int))) * 285870213051353865) / 288230376151711744 = ((a * 285870213051353865 % 18446744073709551616 / 288230376151711744 : Nat) : Int) := by
  have e1 : IntKind.u64.wrap (-(x : Int)) = ((18446744073709551616 - x : Nat) : Int) := by rw [IntKind.wrap_u64]; omega
  rw [e1, bits_and_u64_nat x _ hx (by omega), hlow, IntKind.wrap_u64]
  omega

theorem wrap_back (n : Nat) (h : n < 18446744073709551616) : IntKind.u64.wrap (IntKind.i64.wrap (n : Int)) = (n : Int) := by
  simp only [IntKind.wrap_u64]
  simp [IntKind.wrap, IntKind.signed, IntKind.bits]
  omega

theorem bitsOf_lt (a : Int) : bitsOf 64 a < 18446744073709551616 := by unfold bitsOf; omega
theorem or_lt (a b : Int) : bitsOf 64 a ||| bitsOf 64 b < 18446744073709551616 := Nat.or_lt_two_pow (n := 64) (bitsOf_lt a) (bitsOf_lt b)

/-- a | b as 64 bits. -/
theorem or_u64 (a b : Int) : IntKind.u64.wrap (bits BinOp.or IntKind.i64 a b) = ((bitsOf 64 a ||| bitsOf 64 b : Nat) : Int) := by
  show IntKind.u64.wrap (IntKind.i64.wrap ((BitVec.ofInt 64 a ||| BitVec.ofInt 64 b).toNat : Int)) = _
  rw [BitVec.toNat_or, BitVec.toNat_ofInt, BitVec.toNat_ofInt]
  exact wrap_back _ (or_lt a b)

theorem Below.undrew {w w' : World} (h : Below w.drew.heap.size w.drew w') : Below w.heap.size w w' := ⟨h.os, h.tape, h.output, h.size, h.block⟩

/-- What a callee that makes memory leaves: the old cells, the old marks, the size. -/
theorem bcell {W w1 : World} (hb : Below W.heap.size W w1) : (∀ b o, b < W.heap.size → w1.cell? ⟨b, o, none⟩ = W.cell? ⟨b, o, none⟩) ∧ (∀ b o, b < W.heap.size → w1.frozen? ⟨b, o, none⟩ = W.frozen? ⟨b, o, none⟩) :=
  ⟨fun b o h => hb.cell (p := ⟨b, o, none⟩) h, fun b o h => hb.frozen (p := ⟨b, o, none⟩) h⟩

theorem within_k {a b k : Int} (h : withinB a b k = true) : 0 ≤ k ∧ k ≤ 10 := by simp [withinB, inB] at h; omega

theorem oddB_canon {a b k : Int} (k0 : 0 ≤ k) : oddB a b k = true ↔ Canon a b k.toNat := by
  simp only [oddB, Canon, Bool.or_eq_true, beq_iff_eq, Bool.not_eq_true', beq_eq_false_iff_ne]
  omega
theorem valid_eq {a b k : Int} (h : withinB a b k = true) : eqB a b k (lowA a b k.toNat) (lowB a b k.toNat) (lowK a b k.toNat) = validB a b k := by
  have k0 := (within_k h).1
  unfold validB
  rw [h, Bool.true_and, Bool.eq_iff_iff, oddB_canon k0]
  simp only [eqB, Bool.and_eq_true, beq_iff_eq]
  constructor
  · rintro ⟨h1, h2, h3⟩
    have := low_canon k.toNat a b
    rw [← h1, ← h2, show lowK a b k.toNat = k.toNat by omega] at this
    exact this
  · intro c
    obtain ⟨h1, h2, h3⟩ := low_of_canon c
    exact ⟨h1.symm, h2.symm, by omega⟩

/-- What limited gives: lowest terms, if they are within the limits. -/
def limA (a b k : Int) : Int := if withinB (lowA a b k.toNat) (lowB a b k.toNat) (lowK a b k.toNat) then lowA a b k.toNat else 0
def limB (a b k : Int) : Int := if withinB (lowA a b k.toNat) (lowB a b k.toNat) (lowK a b k.toNat) then lowB a b k.toNat else 0
def limK (a b k : Int) : Int := if withinB (lowA a b k.toNat) (lowB a b k.toNat) (lowK a b k.toNat) then lowK a b k.toNat else 0
def limO (a b k : Int) : Bool := withinB (lowA a b k.toNat) (lowB a b k.toNat) (lowK a b k.toNat)
/-- A number and a bool, as a value. -/
abbrev numOk (a b k : Int) (o : Bool) : Value := .tuple #[num a b k, .bool o]

theorem div_bound {a : Int} (n : Nat) (a1 : -9223372036854775808 ≤ a) (a2 : a ≤ 9223372036854775807) : -9223372036854775808 ≤ a / 2 ^ n ∧ a / 2 ^ n ≤ 9223372036854775807 := by
  have p := two_pow_pos n
  constructor
  · apply Int.le_ediv_of_mul_le p
    have : (-9223372036854775808 : Int) * 2 ^ n ≤ -9223372036854775808 * 1 := Int.mul_le_mul_of_nonpos_left (by omega) (by omega)
    omega
  · by_cases h : 0 ≤ a
    · exact Int.le_trans (Int.ediv_le_self _ h) a2
    · have := Int.ediv_neg_of_neg_of_pos (show a < 0 by omega) p; omega

end Go.Proofs.Ytnhobilmgefhnaa
