/- Contracts of the program's differences and products, and of MakeNum. -/
import Derived.Test.YtafbdnjabgfjeaaDoorWcd
namespace Go.Proofs.YtafbdnjabgfjeaaDoor
open Go Go.RowKit OriM

theorem valid_neg (a b k : Int) : validB (-a) (-b) k = validB a b k := by
  rw [Bool.eq_iff_iff]; simp [validB, withinB, inB, oddB]; omega

def mulA (a b k a' b' k' : Int) : Int := limA (timesA a b a' b') (timesB a b a' b') (k + k')
def mulB (a b k a' b' k' : Int) : Int := limB (timesA a b a' b') (timesB a b a' b') (k + k')
def mulK (a b k a' b' k' : Int) : Int := limK (timesA a b a' b') (timesB a b a' b') (k + k')
def mulO (a b k a' b' k' : Int) : Bool := limO (timesA a b a' b') (timesB a b a' b') (k + k')
def mulV (a b k a' b' k' : Int) : Value := numOk (mulA a b k a' b' k') (mulB a b k a' b' k') (mulK a b k a' b' k') (mulO a b k a' b' k')

theorem times_bounds {a b a' b' : Int} (a1 : -131072 ≤ a) (a2 : a ≤ 131072) (b1 : -131072 ≤ b) (b2 : b ≤ 131072) (a1' : -131072 ≤ a') (a2' : a' ≤ 131072) (b1' : -131072 ≤ b') (b2' : b' ≤ 131072) :
    -51539607552 ≤ timesA a b a' b' ∧ timesA a b a' b' ≤ 51539607552 ∧ -34359738368 ≤ timesB a b a' b' ∧ timesB a b a' b' ≤ 34359738368 := by
  obtain ⟨x1, x2⟩ := mul_fits 131072 131072 a1 a2 a1' a2'
  obtain ⟨x3, x4⟩ := mul_fits 262144 131072 (p := 2 * b) (by omega) (by omega) b1' b2'
  obtain ⟨x5, x6⟩ := mul_fits 131072 131072 a1 a2 b1' b2'
  obtain ⟨x7, x8⟩ := mul_fits 131072 131072 b1 b2 a1' a2'
  simp only [Int.reduceMul, Int.cast_ofNat_Int] at x1 x2 x3 x4 x5 x6 x7 x8
  unfold timesA timesB
  omega

theorem times_val (a b k a' b' k' : Int) (hx : validB a b k = true) (hy : validB a' b' k' = true) :
    (∀ w, Calls Tryd.prog 153 #[num a b k, num a' b' k'] w (RetB (num (timesA a b a' b') (timesB a b a' b') (k + k')) w)) ∧
    (∀ w, TzTab w → Calls Tryd.prog 104 #[num (timesA a b a' b') (timesB a b a' b') (k + k')] w (RetB (numOk (mulA a b k a' b' k') (mulB a b k a' b' k') (mulK a b k a' b' k') (mulO a b k a' b' k')) w)) := by
  obtain ⟨a1, a2, b1, b2, k0, k1⟩ := valid_bounds hx
  obtain ⟨a1', a2', b1', b2', k0', k1'⟩ := valid_bounds hy
  obtain ⟨p1, p2, q1, q2⟩ := times_bounds a1 a2 b1 b2 a1' a2' b1' b2'
  exact ⟨fun w => times_any a b k a' b' k' w a1 a2 b1 b2 k0 k1 a1' a2' b1' b2' k0' k1',
    fun w hT => limited_any _ _ _ w (by omega) (by omega) (by omega) (by omega) (by omega) (by omega) hT⟩

def makeV (a b k : Int) : Value := numOk (limA a b k) (limB a b k) (limK a b k) (limO a b k)
end Go.Proofs.YtafbdnjabgfjeaaDoor
